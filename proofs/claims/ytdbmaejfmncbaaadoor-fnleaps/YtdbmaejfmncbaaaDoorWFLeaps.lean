/-
  The law of leaps, at every code: on the way to a key in the drawn table each leap goes farther right, to a lesser key, and they end at the last lesser one.
-/
import Derived.Test.YtdbmaejfmncbaaaDoorRegK
import Derived.Test.YtdbmaejfmncbaaaDoorDrawL
import Derived.Test.YtdbmaejfmncbaaaDoorLeapI
import Derived.Test.YtdbmaejfmncbaaaDoorLeapP
namespace Go.Proofs.YtdbmaejfmncbaaaDoor
open Go.RowKit Go.Maps
set_option linter.unusedVariables false
set_option linter.unusedSimpArgs false
set_option maxRecDepth 10000
abbrev q134_3_16_0 : Oper := ⟨some 49, .move (.tmp 5), 29, "laws.go:309", #[], none⟩
abbrev q134_3_16_1 : Oper := ⟨some 50, .move (.tmp 8), 3, "laws.go:309", #[], none⟩
abbrev q134_3_16_2 : Oper := ⟨some 51, .indexAddr 29 (.tmp 49) (.tmp 50), 0, "laws.go:309", #[⟨0, .data⟩, ⟨1, .data⟩], none⟩
abbrev q134_3_16_3 : Oper := ⟨some 52, .load 3 (.tmp 51), 3, "laws.go:309", #[⟨2, .data⟩], none⟩
abbrev q134_3_16_4 : Oper := ⟨some 53, .binOp .lss 3 (.tmp 52) (.const (.int .i64 0)) 3, 4, "laws.go:309", #[⟨3, .data⟩], none⟩
abbrev q134_3_16_5 : Oper := ⟨some 54, .move (.tmp 53), 4, "laws.go:309", #[⟨4, .data⟩], none⟩
abbrev q134_3_16_6 : Oper := ⟨some 55, .move (.tmp 5), 29, "laws.go:309", #[⟨5, .guard⟩], some (5, false)⟩
abbrev q134_3_16_7 : Oper := ⟨some 56, .move (.tmp 8), 3, "laws.go:309", #[⟨5, .guard⟩], some (5, false)⟩
abbrev q134_3_16_8 : Oper := ⟨some 57, .indexAddr 29 (.tmp 55) (.tmp 56), 0, "laws.go:309", #[⟨6, .data⟩, ⟨7, .data⟩, ⟨5, .guard⟩], some (5, false)⟩
abbrev q134_3_16_9 : Oper := ⟨some 58, .load 3 (.tmp 57), 3, "laws.go:309", #[⟨8, .data⟩, ⟨5, .guard⟩], some (5, false)⟩
abbrev q134_3_16_10 : Oper := ⟨some 59, .move (.tmp 6), 3, "laws.go:309", #[⟨5, .guard⟩], some (5, false)⟩
abbrev q134_3_16_11 : Oper := ⟨some 60, .binOp .geq 3 (.tmp 58) (.tmp 59) 3, 4, "laws.go:309", #[⟨9, .data⟩, ⟨10, .data⟩, ⟨5, .guard⟩], some (5, false)⟩
abbrev q134_3_16_12 : Oper := ⟨some 61, .pick (.tmp 54) (.const (.bool true)) (.tmp 60), 4, "laws.go:309", #[⟨5, .data⟩, ⟨11, .data⟩], none⟩
abbrev q134_3_16_13 : Oper := ⟨some 62, .move (.tmp 61), 4, "laws.go:309", #[⟨12, .data⟩, ⟨5, .chain⟩], none⟩
abbrev q134_3_16_14 : Oper := ⟨some 63, .move (.tmp 8), 3, "laws.go:309", #[⟨13, .guard⟩], some (13, false)⟩
abbrev q134_3_16_15 : Oper := ⟨some 64, .binOp .gtr 3 (.tmp 63) (.const (.int .i64 0)) 3, 4, "laws.go:309", #[⟨14, .data⟩, ⟨13, .guard⟩], some (13, false)⟩
abbrev q134_3_16_16 : Oper := ⟨some 65, .move (.tmp 64), 4, "laws.go:309", #[⟨15, .data⟩, ⟨13, .chain⟩, ⟨13, .guard⟩], some (13, false)⟩
abbrev q134_3_16_17 : Oper := ⟨some 66, .move (.tmp 5), 29, "laws.go:309", #[⟨16, .guard⟩], some (16, true)⟩
abbrev q134_3_16_18 : Oper := ⟨some 67, .move (.tmp 8), 3, "laws.go:309", #[⟨16, .guard⟩], some (16, true)⟩
abbrev q134_3_16_19 : Oper := ⟨some 68, .binOp .sub 3 (.tmp 67) (.const (.int .i64 1)) 3, 3, "laws.go:309", #[⟨18, .data⟩, ⟨16, .guard⟩], some (16, true)⟩
abbrev q134_3_16_20 : Oper := ⟨some 69, .indexAddr 29 (.tmp 66) (.tmp 68), 0, "laws.go:309", #[⟨17, .data⟩, ⟨19, .data⟩, ⟨16, .guard⟩], some (16, true)⟩
abbrev q134_3_16_21 : Oper := ⟨some 70, .load 3 (.tmp 69), 3, "laws.go:309", #[⟨20, .data⟩, ⟨16, .guard⟩], some (16, true)⟩
abbrev q134_3_16_22 : Oper := ⟨some 71, .move (.tmp 5), 29, "laws.go:309", #[⟨16, .guard⟩], some (16, true)⟩
abbrev q134_3_16_23 : Oper := ⟨some 72, .move (.tmp 8), 3, "laws.go:309", #[⟨16, .guard⟩], some (16, true)⟩
abbrev q134_3_16_24 : Oper := ⟨some 73, .indexAddr 29 (.tmp 71) (.tmp 72), 0, "laws.go:309", #[⟨22, .data⟩, ⟨23, .data⟩, ⟨16, .guard⟩], some (16, true)⟩
abbrev q134_3_16_25 : Oper := ⟨some 74, .load 3 (.tmp 73), 3, "laws.go:309", #[⟨24, .data⟩, ⟨16, .guard⟩], some (16, true)⟩
abbrev q134_3_16_26 : Oper := ⟨some 75, .binOp .geq 3 (.tmp 70) (.tmp 74) 3, 4, "laws.go:309", #[⟨21, .data⟩, ⟨25, .data⟩, ⟨16, .guard⟩], some (16, true)⟩
abbrev q134_3_16_27 : Oper := ⟨some 76, .pick (.tmp 65) (.tmp 75) (.const (.bool false)), 4, "laws.go:309", #[⟨16, .data⟩, ⟨26, .data⟩, ⟨13, .guard⟩], some (13, false)⟩
abbrev q134_3_16_28 : Oper := ⟨some 77, .pick (.tmp 62) (.const (.bool true)) (.tmp 76), 4, "laws.go:309", #[⟨13, .data⟩, ⟨27, .data⟩], none⟩

set_option maxHeartbeats 400000 in
theorem big_any (a : Option Addr) (n cap : Nat) (w : World) :
    Calls Tryd.prog 5 #[.slice a n cap] w fun e w' => e = .returned (.bool (decide (1048576 < (n : Int)))) ∧ w' = w := by
  go_enter Tryd.func5, Tryd.ntmps5
  go_wp2_with fail
  go_ret
  exact ⟨rfl, rfl⟩

theorem lessN_take {l : List MNode} {key : ByteArray} {k : Nat} (h : k < l.length) : lessN (l.take (k + 1)) key = lessN (l.take k) key + (if kLt l[k].fP.fKey key = true then 1 else 0) := by
  unfold lessN
  rw [List.take_succ_eq_append_getElem h, List.countP_append, List.countP_singleton]

set_option maxHeartbeats 8000000 in
theorem law_FnLeaps_r (a : Option Addr) (n cap : Nat) (zs : List Int) (w : World) (hx : zs.length = n) (hr : Rd .u8 w.heap.size w a zs) (hT : Tabs w) :
    Calls Tryd.prog 3 #[.slice a n cap] w fun e w' => e = .returned (.bool true) ∧ Below w.heap.size w w' := by
  go_enter Tryd.func3, Tryd.ntmps3
  go_wp2_with fail
  refine (big_any a n cap w).mono ?_
  rintro e w0 ⟨rfl, hw0⟩
  have hw0' := hw0.symm
  clear hw0
  subst hw0'
  by_cases hbig : 1048576 < (n : Int)
  · rw [decide_eq_true hbig]
    go_wp2_with fail
    go_ret
    exact ⟨rfl, Below.refl _ _⟩
  rw [decide_eq_false hbig]
  go_wp2_with fail
  refine (drawLeaps_ok a n cap zs w hx (by omega) hr).mono ?_
  rintro e w1 ⟨v, l, key, rfl, hd1, hky, hb1⟩
  obtain ⟨a1, c1, rfl, hL1⟩ := ownN_leaf hd1.1 (fun y hy => (hd1.2.1 y hy).ok)
  have hll : l.length ≤ 101 := hd1.2.2
  have hsw := sh_weight hd1.2.1
  have hww : wMem ⟨l⟩ ≤ 1048576 := by show l.length + sumW wNode l ≤ _; omega
  obtain ⟨w2, hw2⟩ : ∃ x, x = w1.alloc (.cells #[.slice a1 l.length c1] 26) := ⟨_, rfl⟩
  have hx2 : Below w1.heap.size w1 w2 := by rw [hw2]; exact (Below.refl _ _).alloc (Nat.le_refl _) _
  have hbx : Bx w2 w1.heap.size [.slice a1 l.length c1] := by rw [hw2]; exact Bx.new _ _ _
  have HRM : Hid (∀ W, Below w2.heap.size w2 W → rMem W.heap.size W [.slice a1 l.length c1] ⟨l⟩) := fun W hb => ⟨a1, c1, rfl, (hL1.below rNode_good (bthen hx2 hb)).mono rNode_good (bthen hx2 hb).size, trivial⟩
  have HTB : Hid (∀ W, Below w2.heap.size w2 W → Tabs W) := fun W hb => hT.below (bthen hb1 (bthen hx2 hb))
  have HBX : Hid (∀ W, Below w2.heap.size w2 W → W.cell? ⟨w1.heap.size, 0, none⟩ = some (.slice a1 l.length c1)) := fun W hb => (hbx.under hb).2 0 _ rfl
  have hb2 := bthen hb1 hx2
  have y2 := HBX.out _ (Below.refl _ _)
  have hz2 := hbx.1
  clear hd1 hsw hT
  go_wp2_with (rw [← hw2])
  refine (implLeaps_any [.slice a1 l.length c1] ⟨l⟩ key w2 (HRM.out _ (Below.refl _ _)) hww (by omega) (HTB.out _ (Below.refl _ _))).mono ?_
  rintro e w3 ⟨v3, rfl, ho3, hx3⟩
  obtain ⟨L, HLL⟩ : ∃ L, Hid (L = leapsP l key) := ⟨_, Hid.mk rfl⟩
  have hLlen : L.length ≤ 404 := by rw [HLL.out]; have h := leapF_len key l 4 (-1); unfold leapsP; omega
  rw [← HLL.out] at ho3
  obtain ⟨a3, c3, rfl, _, hR3⟩ := own_rd rfl ho3
  have y3 := HBX.out _ hx3
  have hz3 : w1.heap.size < w3.heap.size := Nat.lt_of_lt_of_le hz2 hx3.size
  clear hw2 ho3 y2
  go_wp2_with fail
  refine (specMemOk_c [.slice a1 l.length c1] ⟨l⟩ w3 (HRM.out _ hx3) hww).mono ?_
  rintro e w4 ⟨rfl, hx4⟩
  have hb24 := bthen hx3 hx4
  have y4 := HBX.out _ hb24
  have hz4 : w1.heap.size < w4.heap.size := Nat.lt_of_lt_of_le hz3 hx4.size
  clear y3
  by_cases hM : memOkP ⟨l⟩ = true
  rotate_left
  · have hMf := Bool.eq_false_iff.2 hM
    rw [hMf]
    go_wp2_with fail
    refine (implMemOk_c [.slice a1 l.length c1] ⟨l⟩ w4 (HRM.out _ hb24) hww (HTB.out _ hb24)).mono ?_
    rintro e w5 ⟨rfl, hx5⟩
    rw [hMf]
    go_wp2_with fail
    go_ret
    exact ⟨rfl, bthen hb2 (bthen hb24 hx5)⟩
  rw [hM]
  have HR := Hid.mk (hR3.below hx4)
  obtain ⟨hri, htw⟩ := memOk_rise hM
  have HW := Hid.mk (leapF_way (key := key) hri htw 4 (-1) (by omega) (by have := lessN_le l key; omega))
  have HRI := Hid.mk hri
  clear hri htw hR3
  go_wp2_with fail
  go_loopw [6, 7] (fun lv iv wr => ∃ k : Nat, k ≤ l.length ∧ iv = .int .i64 k ∧ lv = .int .i64 (lessN (l.take k) key) ∧ Below w4.heap.size w4 wr) (fun _ iv _ => l.length - (intOf iv).toNat)
  case atStart => exact ⟨0, Nat.zero_le _, rfl, rfl, Below.refl _ _⟩
  case round =>
    obtain ⟨k, hk, rfl, rfl, hbk⟩ := hrel
    have hb2k := bthen hb24 hbk
    have yk := HBX.out _ hb2k
    have hzk : w1.heap.size < wr.heap.size := Nat.lt_of_lt_of_le hz4 hbk.size
    by_cases hlt : k < l.length
    · obtain ⟨b1, o1, rfl, hB, cs, _, hcell, rfl, _⟩ := (HRM.out _ hb2k).elim (fun a h => h.elim (fun c h => by obtain ⟨e, h2, _⟩ := h; simp only [List.cons.injEq, Value.slice.injEq, and_true, true_and] at e; exact e.1 ▸ h2.2.2 k hlt))
      have k0 := hcell 0 _ rfl
      rw [Nat.add_zero] at k0
      have hle := lessN_le (l.take k) key
      have HLT := Hid.mk (lessN_take (key := key) hlt)
      have hkl : (l.take k).length ≤ 101 := by rw [List.length_take]; omega
      by_cases hK : kLt l[k].fP.fKey key = true
      · have e1 : Op.bytesLess l[k].fP.fKey.toList key.toList = true := hK
        have HE : Hid (lessN (l.take (k + 1)) key = lessN (l.take k) key + 1) := by show _ = _; rw [HLT.out, if_pos hK]
        generalize lessN (l.take k) key = ls at *
        generalize l[k].fP.fKey = kx at *
        clear HLT hcell
        go_wp2_with fail
        go_roundw
        case rel => exact ⟨k + 1, by omega, by go_num, by rw [HE.out]; go_num, hbk⟩
        case measure => simp [intOf]; omega
      · have e1 : Op.bytesLess l[k].fP.fKey.toList key.toList = false := Bool.eq_false_iff.2 hK
        have HE : Hid (lessN (l.take (k + 1)) key = lessN (l.take k) key) := by show _ = _; rw [HLT.out, if_neg hK]; omega
        generalize lessN (l.take k) key = ls at *
        generalize l[k].fP.fKey = kx at *
        clear HLT hcell
        go_wp2_with fail
        go_roundw
        case rel => exact ⟨k + 1, by omega, by go_num, by rw [HE.out], hbk⟩
        case measure => simp [intOf]; omega
    · have hke : k = l.length := by omega
      subst hke
      obtain ⟨ls, HLS⟩ : ∃ x, Hid (x = lessN l key) := ⟨_, Hid.mk rfl⟩
      have hlsb : ls ≤ 101 := by rw [HLS.out]; have := lessN_le l key; omega
      have HWX : Hid ((∀ x, x ∈ L → 0 ≤ x ∧ x < (ls : Int)) ∧ L.Pairwise (· < ·) ∧ (L = [] → ls = 0) ∧ ∀ hne : L ≠ [], L.getLast hne + 1 = (ls : Int)) := by
        have h := HW.out
        have hl : leapF 4 key l (-1) = L := HLL.out.symm
        rw [hl, ← HLS.out] at h
        exact ⟨fun x hx => by have := h.1 x hx; omega, h.2.1, fun e => by have := (h.2.2 (by omega)).1 e; omega, (h.2.2 (by omega)).2⟩
      have hlt2 : ¬ ((l.length : Nat) : Int) < ((l.length : Nat) : Int) := by omega
      rw [List.take_length, ← HLS.out]
      generalize wr = wo at *
      go_wp2_with fail
      go_loopw [8] (fun iv wr => ∃ j : Nat, j ≤ L.length ∧ iv = .int .i64 j ∧ Below wo.heap.size wo wr) (fun iv _ => L.length - (intOf iv).toNat)
      case atStart => exact ⟨0, Nat.zero_le _, rfl, Below.refl _ _⟩
      case round =>
        obtain ⟨j, hj, rfl, hbj⟩ := hrel
        have hb2j := bthen hb2k hbj
        have hb4j := bthen hbk hbj
        clear hlt hlt2 yk hzk
        by_cases hjl : j < L.length
        · obtain ⟨b3, o3, rfl, hB3, hc3⟩ := (HR.out.below (hb4j.mono hx4.size)) j hjl
          rw [List.getD_eq_getElem?_getD, List.getElem?_eq_getElem hjl, Option.getD_some] at hc3
          have hB3' : b3 < wr.heap.size := by have h1 := hx4.size; have h2 := hb4j.size; omega
          have u3 : ∀ W, Below wr.heap.size wr W → W.cell? ⟨b3, o3 + j, none⟩ = some (.int .i64 L[j]) := fun W hb => (hb.cell (p := ⟨b3, o3 + j, none⟩) hB3').trans hc3
          have hxb := HWX.out.1 L[j] (List.getElem_mem hjl)
          have d1 : decide (L[j] < 0) = false := decide_eq_false (by omega)
          have d2 : decide ((ls : Int) ≤ L[j]) = false := decide_eq_false (by omega)
          have hjl' : (j : Int) < (L.length : Int) := by omega
          have hj0' : (0 : Int) ≤ (j : Int) := by omega
          by_cases hj0 : j = 0
          · subst hj0
            generalize L[0] = x at *
            simp only [Nat.add_zero] at u3
            clear hc3
            go_wp2_with fail
            refine wp_region_held_drew (S := fun W => Below wr.heap.size wr W) (by kernel_rfl) (Below.drew (Below.refl _ _)) (fun hHeld => ?_)
            refine tk 0 q134_3_16_0 (some 49) (v := ?v1) rfl rfl (by kernel_rfl) hHeld (by rfl) (fun _ _ _ x => x) (fun w h => ?y1) ?_; (case y1 => (try dsimp only at h); go_simp; try (with_reducible rfl)); try simp only [Act.put, sa, s0, s1]
            refine tk 1 q134_3_16_1 (some 50) (v := ?v2) rfl rfl (by kernel_rfl) hHeld (by rfl) (fun _ _ _ x => x) (fun w h => ?y2) ?_; (case y2 => (try dsimp only at h); go_simp; try (with_reducible rfl)); try simp only [Act.put, sa, s0, s1]
            refine tk 2 q134_3_16_2 (some 51) (v := ?v3) rfl rfl (by kernel_rfl) hHeld (by rfl) (fun _ _ _ x => x) (fun w h => ?y3) ?_; (case y3 => (try dsimp only at h); go_simp; try (with_reducible rfl)); try simp only [Act.put, sa, s0, s1]
            refine tk 3 q134_3_16_3 (some 52) (v := ?v4) rfl rfl (by kernel_rfl) hHeld (by rfl) (fun _ _ _ x => x) (fun w h => ?y4) ?_; (case y4 => (try dsimp only at h); go_simp; try (with_reducible rfl)); try simp only [Act.put, sa, s0, s1]
            refine tk 4 q134_3_16_4 (some 53) (v := ?v5) rfl rfl (by kernel_rfl) hHeld (by rfl) (fun _ _ _ x => x) (fun w h => ?y5) ?_; (case y5 => (try dsimp only at h); go_simp; try (with_reducible rfl)); try simp only [Act.put, sa, s0, s1]
            refine tk 5 q134_3_16_5 (some 54) (v := ?v6) rfl rfl (by kernel_rfl) hHeld (by rfl) (fun _ _ _ x => x) (fun w h => ?y6) ?_; (case y6 => (try dsimp only at h); go_simp; try (with_reducible rfl)); try simp only [Act.put, sa, s0, s1]
            refine tk 6 q134_3_16_6 (some 55) (v := ?v7) rfl rfl (by kernel_rfl) hHeld (by rfl) (fun _ _ _ x => x) (fun w h => ?y7) ?_; (case y7 => (try dsimp only at h); go_simp; try (with_reducible rfl)); try simp only [Act.put, sa, s0, s1]
            refine tk 7 q134_3_16_7 (some 56) (v := ?v8) rfl rfl (by kernel_rfl) hHeld (by rfl) (fun _ _ _ x => x) (fun w h => ?y8) ?_; (case y8 => (try dsimp only at h); go_simp; try (with_reducible rfl)); try simp only [Act.put, sa, s0, s1]
            refine tk 8 q134_3_16_8 (some 57) (v := ?v9) rfl rfl (by kernel_rfl) hHeld (by rfl) (fun _ _ _ x => x) (fun w h => ?y9) ?_; (case y9 => (try dsimp only at h); go_simp; try (with_reducible rfl)); try simp only [Act.put, sa, s0, s1]
            refine tk 9 q134_3_16_9 (some 58) (v := ?v10) rfl rfl (by kernel_rfl) hHeld (by rfl) (fun _ _ _ x => x) (fun w h => ?y10) ?_; (case y10 => (try dsimp only at h); go_simp; try (with_reducible rfl)); try simp only [Act.put, sa, s0, s1]
            refine tk 10 q134_3_16_10 (some 59) (v := ?v11) rfl rfl (by kernel_rfl) hHeld (by rfl) (fun _ _ _ x => x) (fun w h => ?y11) ?_; (case y11 => (try dsimp only at h); go_simp; try (with_reducible rfl)); try simp only [Act.put, sa, s0, s1]
            refine tk 11 q134_3_16_11 (some 60) (v := ?v12) rfl rfl (by kernel_rfl) hHeld (by rfl) (fun _ _ _ x => x) (fun w h => ?y12) ?_; (case y12 => (try dsimp only at h); go_simp; try (with_reducible rfl)); try simp only [Act.put, sa, s0, s1]
            refine tk 12 q134_3_16_12 (some 61) (v := ?v13) rfl rfl (by kernel_rfl) hHeld (by rfl) (fun _ _ _ x => x) (fun w h => ?y13) ?_; (case y13 => (try dsimp only at h); go_simp; try (with_reducible rfl)); try simp only [Act.put, sa, s0, s1]
            refine tk 13 q134_3_16_13 (some 62) (v := ?v14) rfl rfl (by kernel_rfl) hHeld (by rfl) (fun _ _ _ x => x) (fun w h => ?y14) ?_; (case y14 => (try dsimp only at h); go_simp; try (with_reducible rfl)); try simp only [Act.put, sa, s0, s1]
            refine tk 14 q134_3_16_14 (some 63) (v := ?v15) rfl rfl (by kernel_rfl) hHeld (by rfl) (fun _ _ _ x => x) (fun w h => ?y15) ?_; (case y15 => (try dsimp only at h); go_simp; try (with_reducible rfl)); try simp only [Act.put, sa, s0, s1]
            refine tk 15 q134_3_16_15 (some 64) (v := ?v16) rfl rfl (by kernel_rfl) hHeld (by rfl) (fun _ _ _ x => x) (fun w h => ?y16) ?_; (case y16 => (try dsimp only at h); go_simp; try (with_reducible rfl)); try simp only [Act.put, sa, s0, s1]
            refine tk 16 q134_3_16_16 (some 65) (v := ?v17) rfl rfl (by kernel_rfl) hHeld (by rfl) (fun _ _ _ x => x) (fun w h => ?y17) ?_; (case y17 => (try dsimp only at h); go_simp; try (with_reducible rfl)); try simp only [Act.put, sa, s0, s1]
            refine tn 17 q134_3_16_17 (some 66) rfl rfl (by kernel_rfl) hHeld (by rfl) (fun _ _ _ x => x) ?_; try simp only [Act.put, sa, s0, s1]
            refine tn 18 q134_3_16_18 (some 67) rfl rfl (by kernel_rfl) hHeld (by rfl) (fun _ _ _ x => x) ?_; try simp only [Act.put, sa, s0, s1]
            refine tn 19 q134_3_16_19 (some 68) rfl rfl (by kernel_rfl) hHeld (by rfl) (fun _ _ _ x => x) ?_; try simp only [Act.put, sa, s0, s1]
            refine tn 20 q134_3_16_20 (some 69) rfl rfl (by kernel_rfl) hHeld (by rfl) (fun _ _ _ x => x) ?_; try simp only [Act.put, sa, s0, s1]
            refine tn 21 q134_3_16_21 (some 70) rfl rfl (by kernel_rfl) hHeld (by rfl) (fun _ _ _ x => x) ?_; try simp only [Act.put, sa, s0, s1]
            refine tn 22 q134_3_16_22 (some 71) rfl rfl (by kernel_rfl) hHeld (by rfl) (fun _ _ _ x => x) ?_; try simp only [Act.put, sa, s0, s1]
            refine tn 23 q134_3_16_23 (some 72) rfl rfl (by kernel_rfl) hHeld (by rfl) (fun _ _ _ x => x) ?_; try simp only [Act.put, sa, s0, s1]
            refine tn 24 q134_3_16_24 (some 73) rfl rfl (by kernel_rfl) hHeld (by rfl) (fun _ _ _ x => x) ?_; try simp only [Act.put, sa, s0, s1]
            refine tn 25 q134_3_16_25 (some 74) rfl rfl (by kernel_rfl) hHeld (by rfl) (fun _ _ _ x => x) ?_; try simp only [Act.put, sa, s0, s1]
            refine tn 26 q134_3_16_26 (some 75) rfl rfl (by kernel_rfl) hHeld (by rfl) (fun _ _ _ x => x) ?_; try simp only [Act.put, sa, s0, s1]
            refine tk 27 q134_3_16_27 (some 76) (v := ?v28) rfl rfl (by kernel_rfl) hHeld (by rfl) (fun _ _ _ x => x) (fun w h => ?y28) ?_; (case y28 => (try dsimp only at h); go_simp; try (with_reducible rfl)); try simp only [Act.put, sa, s0, s1]
            refine tk 28 q134_3_16_28 (some 77) (v := ?v29) rfl rfl (by kernel_rfl) hHeld (by rfl) (fun _ _ _ x => x) (fun w h => ?y29) ?_; (case y29 => (try dsimp only at h); go_simp; try (with_reducible rfl)); try simp only [Act.put, sa, s0, s1]
            refine wpAnyH_done (by kernel_rfl) ?_ _
            go_wp2_with fail
            go_roundw
            case rel => exact ⟨1, by omega, by go_num, bthen hbj hHeld⟩
            case measure => simp [intOf]; omega
          · obtain ⟨i, rfl⟩ : ∃ i, j = i + 1 := ⟨j - 1, by omega⟩
            have hil : i < L.length := by omega
            obtain ⟨b4, o4, he4, _, hc4⟩ := (HR.out.below (hb4j.mono hx4.size)) i hil
            simp only [Option.some.injEq, Addr.mk.injEq, and_true] at he4
            obtain ⟨rfl, rfl⟩ := he4
            rw [List.getD_eq_getElem?_getD, List.getElem?_eq_getElem hil, Option.getD_some] at hc4
            have u4 : ∀ W, Below wr.heap.size wr W → W.cell? ⟨b3, o3 + i, none⟩ = some (.int .i64 L[i]) := fun W hb => (hb.cell (p := ⟨b3, o3 + i, none⟩) hB3').trans hc4
            have hup : L[i] < L[i + 1] := List.pairwise_iff_getElem.1 HWX.out.2.1 i (i + 1) hil hjl (by omega)
            have d3 : decide (L[i + 1] ≤ L[i]) = false := decide_eq_false (by omega)
            have hwr : IntKind.i64.wrap (i : Int) = (i : Int) := by rw [IntKind.wrap_i64]; omega
            have hi1 : (0 : Int) ≤ (i : Int) := by omega
            have hi2 : (i : Int) < (L.length : Int) := by omega
            have hi3 : (0 : Int) ≤ (i : Int) + 1 := by omega
            have hi4 : (i : Int) + 1 < (L.length : Int) := by omega
            generalize L[i + 1] = x at *
            generalize L[i] = y at *
            clear hc3 hc4 hup
            go_wp2_with fail
            refine wp_region_held_drew (S := fun W => Below wr.heap.size wr W) (by kernel_rfl) (Below.drew (Below.refl _ _)) (fun hHeld => ?_)
            refine tk 0 q134_3_16_0 (some 49) (v := ?v30) rfl rfl (by kernel_rfl) hHeld (by rfl) (fun _ _ _ x => x) (fun w h => ?y30) ?_; (case y30 => (try dsimp only at h); go_simp; try (with_reducible rfl)); try simp only [Act.put, sa, s0, s1]
            refine tk 1 q134_3_16_1 (some 50) (v := ?v31) rfl rfl (by kernel_rfl) hHeld (by rfl) (fun _ _ _ x => x) (fun w h => ?y31) ?_; (case y31 => (try dsimp only at h); go_simp; try (with_reducible rfl)); try simp only [Act.put, sa, s0, s1]
            refine tk 2 q134_3_16_2 (some 51) (v := ?v32) rfl rfl (by kernel_rfl) hHeld (by rfl) (fun _ _ _ x => x) (fun w h => ?y32) ?_; (case y32 => (try dsimp only at h); go_simp; try (with_reducible rfl)); try simp only [Act.put, sa, s0, s1]
            refine tk 3 q134_3_16_3 (some 52) (v := ?v33) rfl rfl (by kernel_rfl) hHeld (by rfl) (fun _ _ _ x => x) (fun w h => ?y33) ?_; (case y33 => (try dsimp only at h); go_simp; try (with_reducible rfl)); try simp only [Act.put, sa, s0, s1]
            refine tk 4 q134_3_16_4 (some 53) (v := ?v34) rfl rfl (by kernel_rfl) hHeld (by rfl) (fun _ _ _ x => x) (fun w h => ?y34) ?_; (case y34 => (try dsimp only at h); go_simp; try (with_reducible rfl)); try simp only [Act.put, sa, s0, s1]
            refine tk 5 q134_3_16_5 (some 54) (v := ?v35) rfl rfl (by kernel_rfl) hHeld (by rfl) (fun _ _ _ x => x) (fun w h => ?y35) ?_; (case y35 => (try dsimp only at h); go_simp; try (with_reducible rfl)); try simp only [Act.put, sa, s0, s1]
            refine tk 6 q134_3_16_6 (some 55) (v := ?v36) rfl rfl (by kernel_rfl) hHeld (by rfl) (fun _ _ _ x => x) (fun w h => ?y36) ?_; (case y36 => (try dsimp only at h); go_simp; try (with_reducible rfl)); try simp only [Act.put, sa, s0, s1]
            refine tk 7 q134_3_16_7 (some 56) (v := ?v37) rfl rfl (by kernel_rfl) hHeld (by rfl) (fun _ _ _ x => x) (fun w h => ?y37) ?_; (case y37 => (try dsimp only at h); go_simp; try (with_reducible rfl)); try simp only [Act.put, sa, s0, s1]
            refine tk 8 q134_3_16_8 (some 57) (v := ?v38) rfl rfl (by kernel_rfl) hHeld (by rfl) (fun _ _ _ x => x) (fun w h => ?y38) ?_; (case y38 => (try dsimp only at h); go_simp; try (with_reducible rfl)); try simp only [Act.put, sa, s0, s1]
            refine tk 9 q134_3_16_9 (some 58) (v := ?v39) rfl rfl (by kernel_rfl) hHeld (by rfl) (fun _ _ _ x => x) (fun w h => ?y39) ?_; (case y39 => (try dsimp only at h); go_simp; try (with_reducible rfl)); try simp only [Act.put, sa, s0, s1]
            refine tk 10 q134_3_16_10 (some 59) (v := ?v40) rfl rfl (by kernel_rfl) hHeld (by rfl) (fun _ _ _ x => x) (fun w h => ?y40) ?_; (case y40 => (try dsimp only at h); go_simp; try (with_reducible rfl)); try simp only [Act.put, sa, s0, s1]
            refine tk 11 q134_3_16_11 (some 60) (v := ?v41) rfl rfl (by kernel_rfl) hHeld (by rfl) (fun _ _ _ x => x) (fun w h => ?y41) ?_; (case y41 => (try dsimp only at h); go_simp; try (with_reducible rfl)); try simp only [Act.put, sa, s0, s1]
            refine tk 12 q134_3_16_12 (some 61) (v := ?v42) rfl rfl (by kernel_rfl) hHeld (by rfl) (fun _ _ _ x => x) (fun w h => ?y42) ?_; (case y42 => (try dsimp only at h); go_simp; try (with_reducible rfl)); try simp only [Act.put, sa, s0, s1]
            refine tk 13 q134_3_16_13 (some 62) (v := ?v43) rfl rfl (by kernel_rfl) hHeld (by rfl) (fun _ _ _ x => x) (fun w h => ?y43) ?_; (case y43 => (try dsimp only at h); go_simp; try (with_reducible rfl)); try simp only [Act.put, sa, s0, s1]
            refine tk 14 q134_3_16_14 (some 63) (v := ?v44) rfl rfl (by kernel_rfl) hHeld (by rfl) (fun _ _ _ x => x) (fun w h => ?y44) ?_; (case y44 => (try dsimp only at h); go_simp; try (with_reducible rfl)); try simp only [Act.put, sa, s0, s1]
            refine tk 15 q134_3_16_15 (some 64) (v := ?v45) rfl rfl (by kernel_rfl) hHeld (by rfl) (fun _ _ _ x => x) (fun w h => ?y45) ?_; (case y45 => (try dsimp only at h); go_simp; try (with_reducible rfl)); try simp only [Act.put, sa, s0, s1]
            refine tk 16 q134_3_16_16 (some 65) (v := ?v46) rfl rfl (by kernel_rfl) hHeld (by rfl) (fun _ _ _ x => x) (fun w h => ?y46) ?_; (case y46 => (try dsimp only at h); go_simp; try (with_reducible rfl)); try simp only [Act.put, sa, s0, s1]
            refine tk 17 q134_3_16_17 (some 66) (v := ?v47) rfl rfl (by kernel_rfl) hHeld (by rfl) (fun _ _ _ x => x) (fun w h => ?y47) ?_; (case y47 => (try dsimp only at h); go_simp; try (with_reducible rfl)); try simp only [Act.put, sa, s0, s1]
            refine tk 18 q134_3_16_18 (some 67) (v := ?v48) rfl rfl (by kernel_rfl) hHeld (by rfl) (fun _ _ _ x => x) (fun w h => ?y48) ?_; (case y48 => (try dsimp only at h); go_simp; try (with_reducible rfl)); try simp only [Act.put, sa, s0, s1]
            refine tk 19 q134_3_16_19 (some 68) (v := ?v49) rfl rfl (by kernel_rfl) hHeld (by rfl) (fun _ _ _ x => x) (fun w h => ?y49) ?_; (case y49 => (try dsimp only at h); go_simp; try (with_reducible rfl)); try simp only [Act.put, sa, s0, s1]
            refine tk 20 q134_3_16_20 (some 69) (v := ?v50) rfl rfl (by kernel_rfl) hHeld (by rfl) (fun _ _ _ x => x) (fun w h => ?y50) ?_; (case y50 => (try dsimp only at h); go_simp; try (with_reducible rfl)); try simp only [Act.put, sa, s0, s1]
            refine tk 21 q134_3_16_21 (some 70) (v := ?v51) rfl rfl (by kernel_rfl) hHeld (by rfl) (fun _ _ _ x => x) (fun w h => ?y51) ?_; (case y51 => (try dsimp only at h); go_simp; try (with_reducible rfl)); try simp only [Act.put, sa, s0, s1]
            refine tk 22 q134_3_16_22 (some 71) (v := ?v52) rfl rfl (by kernel_rfl) hHeld (by rfl) (fun _ _ _ x => x) (fun w h => ?y52) ?_; (case y52 => (try dsimp only at h); go_simp; try (with_reducible rfl)); try simp only [Act.put, sa, s0, s1]
            refine tk 23 q134_3_16_23 (some 72) (v := ?v53) rfl rfl (by kernel_rfl) hHeld (by rfl) (fun _ _ _ x => x) (fun w h => ?y53) ?_; (case y53 => (try dsimp only at h); go_simp; try (with_reducible rfl)); try simp only [Act.put, sa, s0, s1]
            refine tk 24 q134_3_16_24 (some 73) (v := ?v54) rfl rfl (by kernel_rfl) hHeld (by rfl) (fun _ _ _ x => x) (fun w h => ?y54) ?_; (case y54 => (try dsimp only at h); go_simp; try (with_reducible rfl)); try simp only [Act.put, sa, s0, s1]
            refine tk 25 q134_3_16_25 (some 74) (v := ?v55) rfl rfl (by kernel_rfl) hHeld (by rfl) (fun _ _ _ x => x) (fun w h => ?y55) ?_; (case y55 => (try dsimp only at h); go_simp; try (with_reducible rfl)); try simp only [Act.put, sa, s0, s1]
            refine tk 26 q134_3_16_26 (some 75) (v := ?v56) rfl rfl (by kernel_rfl) hHeld (by rfl) (fun _ _ _ x => x) (fun w h => ?y56) ?_; (case y56 => (try dsimp only at h); go_simp; try (with_reducible rfl)); try simp only [Act.put, sa, s0, s1]
            refine tk 27 q134_3_16_27 (some 76) (v := ?v57) rfl rfl (by kernel_rfl) hHeld (by rfl) (fun _ _ _ x => x) (fun w h => ?y57) ?_; (case y57 => (try dsimp only at h); go_simp; try (with_reducible rfl)); try simp only [Act.put, sa, s0, s1]
            refine tk 28 q134_3_16_28 (some 77) (v := ?v58) rfl rfl (by kernel_rfl) hHeld (by rfl) (fun _ _ _ x => x) (fun w h => ?y58) ?_; (case y58 => (try dsimp only at h); go_simp; try (with_reducible rfl)); try simp only [Act.put, sa, s0, s1]
            refine wpAnyH_done (by kernel_rfl) ?_ _
            go_wp2_with fail
            go_roundw
            case rel => exact ⟨i + 1 + 1, by omega, by go_num, bthen hbj hHeld⟩
            case measure => simp [intOf]; omega
        · have hje : j = L.length := by omega
          have yj := HBX.out _ hb2j
          have hzj : w1.heap.size < wr.heap.size := Nat.lt_of_lt_of_le hz4 hb4j.size
          have HC := Hid.mk (implMemOk_c [.slice a1 l.length c1] ⟨l⟩ wr (HRM.out _ hb2j) hww (HTB.out _ hb2j))
          have hjn : ¬ (j : Int) < (L.length : Int) := by omega
          clear hje
          by_cases h0 : ls = 0
          · have hLn : L = [] := by
              cases hL : L with
              | nil => rfl
              | cons x r => have h := HWX.out.1 x (by rw [hL]; exact List.mem_cons_self ..); omega
            have hl0 : L.length = 0 := by rw [hLn]; rfl
            have hl1 : ((L.length : Nat) : Int) = 0 := by omega
            have h01 : ((ls : Nat) : Int) = 0 := by omega
            go_wp2_with fail
            refine HC.out.mono ?_
            rintro e w5 ⟨rfl, hx5⟩
            rw [hM]
            go_wp2_with fail
            go_ret
            exact ⟨rfl, bthen hb2 (bthen hb2j hx5)⟩
          · have hne : L ≠ [] := fun e => h0 (HWX.out.2.2.1 e)
            have hla := HWX.out.2.2.2 hne
            have hpos : 0 < L.length := List.length_pos_iff.2 hne
            rw [List.getLast_eq_getElem] at hla
            obtain ⟨m, hm⟩ : ∃ m, L.length = m + 1 := ⟨L.length - 1, by omega⟩
            have hml : m < L.length := by omega
            obtain ⟨b3, o3, rfl, hB3, hc3⟩ := (HR.out.below (hb4j.mono hx4.size)) m hml
            rw [List.getD_eq_getElem?_getD, List.getElem?_eq_getElem hml, Option.getD_some] at hc3
            have hv : L[m] = (ls : Int) - 1 := by
              have h1 : L[L.length - 1]'(by omega) = L[m] := by congr 1; omega
              rw [h1] at hla
              omega
            rw [hv] at hc3
            have h01 : ¬ ((ls : Nat) : Int) = 0 := by omega
            have hl1 : ¬ ((L.length : Nat) : Int) = 0 := by omega
            have hq1 : (((ls : Nat) : Int) == 0) = false := by rw [beq_eq_false_iff_ne]; exact h01
            have hq2 : (((L.length : Nat) : Int) == 0) = false := by rw [beq_eq_false_iff_ne]; exact hl1
            have hm1 : ((L.length : Nat) : Int) - 1 = (m : Int) := by omega
            have hm2 : (0 : Int) ≤ (m : Int) := by omega
            have hm3 : (m : Int) < (L.length : Int) := by omega
            have hwm : IntKind.i64.wrap (m : Int) = (m : Int) := by rw [IntKind.wrap_i64]; omega
            have hwl : IntKind.i64.wrap ((ls : Int) - 1) = (ls : Int) - 1 := by rw [IntKind.wrap_i64]; omega
            have hwn : IntKind.i64.wrap (((L.length : Nat) : Int) - 1) = (m : Int) := by rw [hm1, hwm]
            clear hla hm hv
            go_wp2_with fail
            refine HC.out.mono ?_
            rintro e w5 ⟨rfl, hx5⟩
            rw [hM]
            go_wp2_with fail
            go_ret
            exact ⟨rfl, bthen hb2 (bthen hb2j hx5)⟩

/-- A slice of bytes that is read. -/
def rdB (B : Nat) (w : World) (v : Value) (zs : List Int) : Prop := ∃ a c, v = .slice a zs.length c ∧ LeafB B w a c zs

theorem law_FnLeaps (cs0 : Value) (m0 : List Int) (w : World) (hr0 : rdB w.heap.size w cs0 m0) (hT : Tabs w) :
    Calls Tryd.prog 3 #[cs0] w fun e w' => e = .returned (.bool true) ∧ Below w.heap.size w w' := by
  obtain ⟨a, c, rfl, h⟩ := hr0
  exact law_FnLeaps_r a m0.length c m0 w rfl h.2.2.1 hT

end Go.Proofs.YtdbmaejfmncbaaaDoor
