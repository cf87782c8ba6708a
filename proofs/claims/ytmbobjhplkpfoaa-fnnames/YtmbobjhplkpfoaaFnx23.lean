/-
  Part 24 of the texts that the proof leans on.
-/
import Derived.Test.YtmbobjhplkpfoaaFnx13
import Derived.Test.YtmbobjhplkpfoaaFnx0
import Derived.Test.YtmbobjhplkpfoaaRows
import Derived.ProofKit
import Derived.Test.YtmbobjhplkpfoaaFnx22
import Derived.Test.YtmbobjhplkpfoaaFnx8
import Derived.Test.YtmbobjhplkpfoaaFnx2
set_option linter.unusedVariables false
set_option linter.unusedSimpArgs false
set_option maxRecDepth 10000

namespace Go.Proofs.Ytmbobjhplkpfoaa
open Go.RowKit Go.Maps

set_option maxHeartbeats 1000000 in
theorem implBytes_c (cs : List Value) (m : MDisk) (s : ByteArray) (w : World) (hr : rDisk w.heap.size w cs m) (hs : s.size ≤ 9223372036854775807) (hw : wDisk m ≤ 1048576) (hw1 : s.size ≤ 1048576) :
    Calls Try.prog 15 #[.agg cs.toArray, .string s] w fun e w' => ∃ (v : Value) (F : List Nat), e = .returned (.tuple #[v, .bool (decide (callP m s = 0))]) ∧ ownB 5 w' v (bytesP m s) F ∧ F.Nodup ∧ (∀ b, b ∈ F → w.heap.size ≤ b) ∧ Below w.heap.size w w' := by
  have hq := hr
  obtain ⟨a0, c0, a1, c1, a2, c2, rfl, hI, hNm, hSf, hnx, _⟩ := hq
  have hw2 : m.fInodes.length + sumW wInode m.fInodes + (m.fNames.length + sumW wEntry m.fNames) + (m.fSafe.length + sumW wEntry m.fSafe) ≤ 1048576 := hw
  have HW := Hid.mk hw
  have HR := Hid.mk hr
  have HI := Hid.mk hI
  clear hr hI hNm hSf hw
  have hbA := (Below.refl w.heap.size w).alloc (Nat.le_refl _) (.cells #[.slice a0 m.fInodes.length c0, .slice a1 m.fNames.length c1, .slice a2 m.fSafe.length c2, .int .i64 m.fNext] 27)
  go_enter Try.func15, Try.ntmps15
  go_wp2_with fail
  refine (findFile_any _ m s _ (rDisk_good.mono (rDisk_good.below HR.out hbA) hbA.size) HW.out hs).mono ?_
  rintro e w1 ⟨p, rfl, hp, hx1⟩
  have hb1 := bthen hbA hx1
  have hbx := (Bx.new w [.slice a0 m.fInodes.length c0, .slice a1 m.fNames.length c1, .slice a2 m.fSafe.length c2, .int .i64 m.fNext] 27).under hx1
  have y0 := hbx.2 0 _ rfl
  by_cases hC : callP m s = 0
  · obtain ⟨hpl, hpi⟩ := hp hC
    have hok : diskOk m = true := by
      unfold callP at hC
      by_cases h : (diskOk m && nameOk s) = true
      · rw [Bool.and_eq_true] at h; exact h.1
      · rw [if_neg h] at hC; cases hC
    have HD : Hid (bytesP m s = m.fInodes[p].fData) := by
      show bytesP m s = _
      unfold bytesP
      rw [if_pos hC, dataOf_at (okI_sorted (diskOk_parts hok).1) hpl hpi]
    have HC := Hid.mk hC
    have hwk := sumW_le (f := wInode) hpl
    obtain ⟨b1, o1, rfl, hB, cs, hcl, hcell, hrI⟩ := (HI.out.2.2.below rInode_good hb1) p hpl
    obtain ⟨ad, cd, rfl, hid, hda, hsu, _⟩ := hrI
    have k1 := hcell 1 _ rfl
    rw [hC]
    have hdl : m.fInodes[p].fData.length ≤ 1048576 := by have : wInode m.fInodes[p] = m.fInodes[p].fData.length := rfl; omega
    generalize m.fInodes[p].fData = dt at *
    clear hp hpi hok hwk hcell hcl hC
    go_wp2_with fail
    refine (joinBytes_any ad none cd 0 dt [] w1 (hda.mono hb1.size) ⟨by simp, by omega, fun j hj => by simp at hj, fun z hz => by cases hz⟩ (by omega) (by simp)).mono ?_
    rintro e w2 ⟨v, F, rfl, ho, hN, hge, hx2⟩
    rw [List.append_nil] at ho
    go_wp2_with fail
    refine bodyPost_ret (v := .tuple #[v, .bool true]) (by simp [results, Try.results15, go_sem, *]) rfl ⟨v, F, by rw [decide_eq_true HC.out], by rw [HD.out]; exact ho, hN, fun b hb => Nat.le_trans hb1.size (hge b hb), bthen hb1 hx2⟩
  · have HD : Hid (bytesP m s = []) := by show bytesP m s = _; unfold bytesP; rw [if_neg hC]
    have HC := Hid.mk (decide_eq_false hC)
    have hcn : (callP m s == 0) = false := beq_eq_false_iff_ne.2 hC
    have hcn2 : (callP m s != 0) = true := bne_iff_ne.2 hC
    clear hp hC
    generalize callP m s = cp at hcn hcn2 ⊢
    go_wp2_with fail
    refine bodyPost_ret (v := .tuple #[.slice none 0 0, .bool false]) (by simp [results, Try.results15, go_sem, *]) rfl ⟨.slice none 0 0, [], by rw [HC.out], ?_, List.nodup_nil, (fun b hb => by cases hb), hb1⟩
    rw [HD.out]
    exact ⟨⟨by simp, .inl ⟨rfl, rfl⟩⟩, (fun z hz => by cases hz), rfl⟩

end Go.Proofs.Ytmbobjhplkpfoaa

namespace Go.Proofs.Ytmbobjhplkpfoaa
open Go.RowKit

theorem k_eq {a b : ByteArray} : (a.toList == b.toList) = true ↔ a = b := by
  rw [beq_iff_eq, ByteArray.toList_eq, ByteArray.toList_eq]
  constructor
  · intro h
    cases a; cases b
    simpa using Array.toList_inj.1 h
  · intro h; rw [h]

theorem k_ne {a b : ByteArray} (h : a ≠ b) : (a.toList == b.toList) = false := by
  rw [Bool.eq_false_iff]
  exact fun e => h (k_eq.1 e)
theorem k_same {a b : ByteArray} (h : a = b) : (a.toList == b.toList) = true := k_eq.2 h



section
variable {H : Type} {enc : TypeId × Value → H} {w : World} {base fuel : Nat} {spare : Nat → Bool} {held : Bool} {cs : List Value} {x : DataW H × List MemPlace}

theorem openBytes {t e : TypeId} (ht : Try.prog.underlying t = some (.slice e)) (he : Try.prog.underlying e = some (.int .u8)) (hc : Try.prog.cellsOf e = 1) (h : DataW.trod enc Try.prog w base spare held fuel t cs = some x) :
    ∃ a c, ∃ zs : List Int, cs = [.slice a zs.length c] ∧ LeafB w.heap.size w a c zs := by
  rcases Go.ChangeShapes.open_ints ht he hc h with ⟨rfl, _⟩ | ⟨a, len, cap, zs, rfl, _, hl, hm, hz, _, hcell, hwf⟩
  · exact ⟨none, 0, [], rfl, by simp, by omega, fun j hj => by simp at hj, fun z hz => by cases hz⟩
  · have hzl : len ≤ zs.length := by rw [hz]; split <;> omega
    refine ⟨some a, cap, zs.take len, by simp [hzl], by simp; omega, by simpa [maxLen] using hm, ?_, ?_⟩
    · intro j hj
      have hj' : j < len := by simp at hj; omega
      obtain ⟨b, off, rfl, hcc⟩ := ints_at hcell (by omega)
      have hcj := hcc j (by omega)
      refine ⟨b, off, rfl, World.block_lt_of_cell? _ _ hcj, ?_⟩
      rw [hcj]
      congr 2
      simp only [List.getD_eq_getElem?_getD, List.getElem?_take, hj', if_true]
    · intro z hz'
      have := hwf z (List.mem_of_mem_take hz')
      simpa [Lit.wf, IntKind.min, IntKind.max, IntKind.signed, IntKind.bits] using this

end

end Go.Proofs.Ytmbobjhplkpfoaa

namespace Go.Proofs.Ytmbobjhplkpfoaa
open Go.RowKit Go.Maps
abbrev q72b_4_17_0 : Oper := ⟨some 90, .move (.tmp 11), 4, "laws.go:235", #[], none⟩
abbrev q72b_4_17_1 : Oper := ⟨some 91, .move (.tmp 90), 4, "laws.go:235", #[⟨0, .data⟩], none⟩
abbrev q72b_4_17_2 : Oper := ⟨some 92, .move (.tmp 13), 4, "laws.go:235", #[⟨1, .guard⟩], some (1, true)⟩
abbrev q72b_4_17_3 : Oper := ⟨some 93, .pick (.tmp 91) (.tmp 92) (.const (.bool false)), 4, "laws.go:235", #[⟨1, .data⟩, ⟨2, .data⟩], none⟩
abbrev q72b_4_17_4 : Oper := ⟨some 94, .move (.tmp 93), 4, "laws.go:235", #[⟨3, .data⟩, ⟨1, .chain⟩], none⟩
abbrev q72b_4_17_5 : Oper := ⟨some 95, .move (.tmp 12), 22, "laws.go:235", #[⟨4, .guard⟩], some (4, true)⟩
abbrev q72b_4_17_6 : Oper := ⟨some 96, .move (.tmp 10), 22, "laws.go:235", #[⟨4, .guard⟩], some (4, true)⟩
abbrev q72b_4_17_7 : Oper := ⟨some 97, .call { callee := .value (.func 17), args := #[.tmp 95, .tmp 96], argTypes := #[22, 22] }, 4, "laws.go:235", #[⟨5, .data⟩, ⟨6, .data⟩, ⟨4, .chain⟩, ⟨4, .guard⟩], some (4, true)⟩
abbrev q72b_4_17_8 : Oper := ⟨some 98, .pick (.tmp 94) (.tmp 97) (.const (.bool false)), 4, "laws.go:235", #[⟨4, .data⟩, ⟨7, .data⟩], none⟩
abbrev q72b_4_17_9 : Oper := ⟨some 99, .move (.tmp 98), 4, "laws.go:235", #[⟨8, .data⟩, ⟨7, .chain⟩], none⟩
abbrev q72b_4_17_10 : Oper := ⟨some 100, .move (.tmp 15), 4, "laws.go:235", #[⟨9, .guard⟩], some (9, true)⟩
abbrev q72b_4_17_11 : Oper := ⟨some 101, .move (.tmp 4), 9, "laws.go:235", #[⟨9, .guard⟩], some (9, true)⟩
abbrev q72b_4_17_12 : Oper := ⟨some 102, .move (.tmp 5), 9, "laws.go:235", #[⟨9, .guard⟩], some (9, true)⟩
abbrev q72b_4_17_13 : Oper := ⟨some 103, .binOp .eql 9 (.tmp 101) (.tmp 102) 9, 4, "laws.go:235", #[⟨11, .data⟩, ⟨12, .data⟩, ⟨9, .guard⟩], some (9, true)⟩
abbrev q72b_4_17_14 : Oper := ⟨some 104, .binOp .eql 4 (.tmp 100) (.tmp 103) 4, 4, "laws.go:235", #[⟨10, .data⟩, ⟨13, .data⟩, ⟨9, .guard⟩], some (9, true)⟩
abbrev q72b_4_17_15 : Oper := ⟨some 105, .pick (.tmp 99) (.tmp 104) (.const (.bool false)), 4, "laws.go:235", #[⟨9, .data⟩, ⟨14, .data⟩], none⟩
abbrev q72b_4_17_16 : Oper := ⟨some 106, .move (.tmp 105), 4, "laws.go:235", #[⟨15, .data⟩, ⟨9, .chain⟩], none⟩
abbrev q72b_4_17_17 : Oper := ⟨some 107, .move (.tmp 17), 3, "laws.go:235", #[⟨16, .guard⟩], some (16, true)⟩
abbrev q72b_4_17_18 : Oper := ⟨some 108, .binOp .eql 3 (.tmp 107) (.const (.int .i64 0)) 3, 4, "laws.go:235", #[⟨17, .data⟩, ⟨16, .guard⟩], some (16, true)⟩
abbrev q72b_4_17_19 : Oper := ⟨some 109, .pick (.tmp 106) (.tmp 108) (.const (.bool false)), 4, "laws.go:235", #[⟨16, .data⟩, ⟨18, .data⟩], none⟩
abbrev q72b_4_17_20 : Oper := ⟨some 110, .move (.tmp 109), 4, "laws.go:235", #[⟨19, .data⟩, ⟨16, .chain⟩], none⟩
abbrev q72b_4_17_21 : Oper := ⟨some 111, .move (.tmp 19), 4, "laws.go:235", #[⟨20, .guard⟩], some (20, true)⟩
abbrev q72b_4_17_22 : Oper := ⟨some 112, .unOp .not 4 (.tmp 111), 4, "laws.go:235", #[⟨21, .data⟩, ⟨20, .guard⟩], some (20, true)⟩
abbrev q72b_4_17_23 : Oper := ⟨some 113, .pick (.tmp 110) (.tmp 112) (.const (.bool false)), 4, "laws.go:235", #[⟨20, .data⟩, ⟨22, .data⟩], none⟩
abbrev q72b_4_17_24 : Oper := ⟨some 114, .move (.tmp 113), 4, "laws.go:235", #[⟨23, .data⟩, ⟨20, .chain⟩], none⟩
abbrev q72b_4_17_25 : Oper := ⟨some 115, .load 27 (.tmp 20), 27, "laws.go:235", #[⟨24, .guard⟩], some (24, true)⟩
abbrev q72b_4_17_28 : Oper := ⟨some 118, .load 27 (.tmp 21), 27, "laws.go:235", #[⟨24, .guard⟩], some (24, true)⟩
abbrev q72b_4_17_26 : Oper := ⟨some 116, .call { callee := .value (.func 10), args := #[.tmp 115], argTypes := #[27] }, 32, "laws.go:235", #[⟨25, .data⟩, ⟨24, .chain⟩, ⟨24, .guard⟩], some (24, true)⟩
abbrev q72b_4_17_27 : Oper := ⟨some 117, .call { callee := .builtin .len, args := #[.tmp 116], argTypes := #[32] }, 3, "laws.go:235", #[⟨26, .data⟩, ⟨24, .guard⟩], some (24, true)⟩
abbrev q72b_4_17_29 : Oper := ⟨some 119, .call { callee := .value (.func 10), args := #[.tmp 118], argTypes := #[27] }, 32, "laws.go:235", #[⟨28, .data⟩, ⟨26, .chain⟩, ⟨24, .guard⟩], some (24, true)⟩
abbrev q72b_4_17_30 : Oper := ⟨some 120, .call { callee := .builtin .len, args := #[.tmp 119], argTypes := #[32] }, 3, "laws.go:235", #[⟨29, .data⟩, ⟨24, .guard⟩], some (24, true)⟩
abbrev q72b_4_17_31 : Oper := ⟨some 121, .binOp .eql 3 (.tmp 117) (.tmp 120) 3, 4, "laws.go:235", #[⟨27, .data⟩, ⟨30, .data⟩, ⟨24, .guard⟩], some (24, true)⟩
abbrev q72b_4_17_32 : Oper := ⟨some 122, .pick (.tmp 114) (.tmp 121) (.const (.bool false)), 4, "laws.go:235", #[⟨24, .data⟩, ⟨31, .data⟩], none⟩
abbrev q72b_4_17_33 : Oper := ⟨some 123, .move (.tmp 122), 4, "laws.go:235", #[⟨32, .data⟩, ⟨29, .chain⟩], none⟩
abbrev q72b_4_17_34 : Oper := ⟨some 124, .load 27 (.tmp 6), 27, "laws.go:235", #[⟨33, .guard⟩], some (33, true)⟩
abbrev q72b_4_17_35 : Oper := ⟨some 125, .call { callee := .value (.func 18), args := #[.tmp 124], argTypes := #[27] }, 4, "laws.go:235", #[⟨34, .data⟩, ⟨33, .chain⟩, ⟨33, .guard⟩], some (33, true)⟩
abbrev q72b_4_17_36 : Oper := ⟨some 126, .pick (.tmp 123) (.tmp 125) (.const (.bool false)), 4, "laws.go:235", #[⟨33, .data⟩, ⟨35, .data⟩], none⟩
abbrev q72b_4_17_37 : Oper := ⟨some 2, .assign (.tmp 126), 4, "laws.go:235", #[⟨36, .data⟩, ⟨35, .chain⟩, ⟨0, .phase⟩, ⟨1, .phase⟩, ⟨2, .phase⟩, ⟨3, .phase⟩, ⟨4, .phase⟩, ⟨5, .phase⟩, ⟨6, .phase⟩, ⟨7, .phase⟩, ⟨8, .phase⟩, ⟨9, .phase⟩, ⟨10, .phase⟩, ⟨11, .phase⟩, ⟨12, .phase⟩, ⟨13, .phase⟩, ⟨14, .phase⟩, ⟨15, .phase⟩, ⟨16, .phase⟩, ⟨17, .phase⟩, ⟨18, .phase⟩, ⟨19, .phase⟩, ⟨20, .phase⟩, ⟨21, .phase⟩, ⟨22, .phase⟩, ⟨23, .phase⟩, ⟨24, .phase⟩, ⟨25, .phase⟩, ⟨26, .phase⟩, ⟨27, .phase⟩, ⟨28, .phase⟩, ⟨29, .phase⟩, ⟨30, .phase⟩, ⟨31, .phase⟩, ⟨32, .phase⟩, ⟨33, .phase⟩, ⟨34, .phase⟩, ⟨35, .phase⟩, ⟨36, .phase⟩], none⟩
abbrev q72b_4_10_0 : Oper := ⟨some 55, .load 27 (.tmp 6), 27, "laws.go:227", #[], none⟩
abbrev q72b_4_10_3 : Oper := ⟨some 58, .load 27 (.tmp 3), 27, "laws.go:227", #[], none⟩
abbrev q72b_4_10_1 : Oper := ⟨some 56, .call { callee := .value (.func 10), args := #[.tmp 55], argTypes := #[27] }, 32, "laws.go:227", #[⟨0, .data⟩], none⟩
abbrev q72b_4_10_2 : Oper := ⟨some 57, .call { callee := .builtin .len, args := #[.tmp 56], argTypes := #[32] }, 3, "laws.go:227", #[⟨1, .data⟩], none⟩
abbrev q72b_4_10_4 : Oper := ⟨some 59, .call { callee := .value (.func 10), args := #[.tmp 58], argTypes := #[27] }, 32, "laws.go:227", #[⟨3, .data⟩, ⟨1, .chain⟩], none⟩
abbrev q72b_4_10_5 : Oper := ⟨some 60, .call { callee := .builtin .len, args := #[.tmp 59], argTypes := #[32] }, 3, "laws.go:227", #[⟨4, .data⟩], none⟩
abbrev q72b_4_10_6 : Oper := ⟨some 61, .binOp .eql 3 (.tmp 57) (.tmp 60) 3, 4, "laws.go:227", #[⟨2, .data⟩, ⟨5, .data⟩], none⟩
abbrev q72b_4_10_7 : Oper := ⟨some 2, .assign (.tmp 61), 4, "laws.go:227", #[⟨6, .data⟩, ⟨4, .chain⟩, ⟨0, .phase⟩, ⟨1, .phase⟩, ⟨2, .phase⟩, ⟨3, .phase⟩, ⟨4, .phase⟩, ⟨5, .phase⟩, ⟨6, .phase⟩], none⟩

set_option maxHeartbeats 400000 in
theorem bigF_any (a : Option Addr) (n cap : Nat) (w : World) :
    Calls Try.prog 5 #[.slice a n cap] w fun e w' => e = .returned (.bool (decide (1048576 < (n : Int)))) ∧ w' = w := by
  go_enter Try.func5, Try.ntmps5
  go_wp2_with fail
  go_ret
  exact ⟨rfl, rfl⟩

set_option maxHeartbeats 400000 in
theorem sameBytes_yes (a b : Option Addr) (n ca cb : Nat) (xs : List Int) (w : World) (B : Nat) (hx : xs.length = n) (hlen : n ≤ 1048576) (hra : Rd .u8 B w a xs) (hrb : Rd .u8 B w b xs) :
    Calls Try.prog 17 #[.slice a n ca, .slice b n cb] w fun e w' => e = .returned (.bool true) ∧ ∃ d, w' = w.drewN d := by
  have HX : Hid (xs.length = n) := hx
  clear hx
  go_enter Try.func17, Try.ntmps17
  go_wp2
  go_loopw [5] (fun i wr => ∃ k : Nat, k ≤ n ∧ i = .int .i64 k ∧ ∃ d, wr = w.drewN d) (fun i _ => n - (intOf i).toNat)
  case atStart => exact ⟨0, Nat.zero_le _, rfl, 0, rfl⟩
  case round =>
    obtain ⟨k, hk, rfl, d, rfl⟩ := hrel
    by_cases hlt : k < n
    · obtain ⟨b1, o1, rfl, _, hc1⟩ := hra k (by rw [HX.out]; exact hlt)
      obtain ⟨b2, o2, rfl, _, hc2⟩ := hrb k (by rw [HX.out]; exact hlt)
      clear hra hrb
      generalize xs.getD k 0 = x at hc1 hc2
      go_wp2
      go_quiet (fail)
      go_wp2
      go_roundw
      case rel => exact ⟨k + 1, by omega, by go_num, _, rfl⟩
      case measure => simp [intOf]; omega
    · go_wp2
      go_ret
      exact ⟨rfl, d, rfl⟩
theorem below_drewN (w : World) (d : Nat) : Below w.heap.size w (w.drewN d) := ⟨rfl, rfl, rfl, Nat.le_refl _, fun _ _ => rfl⟩

theorem small_fall {m : MDisk} {k : Int} (h : wDisk m ≤ 1048576) : wDisk (fallP m k) ≤ 1048576 := by
  by_cases hc : diskOk m = true ∧ 0 ≤ k
  · exact ok_small (fall_ok hc.1 hc.2)
  · unfold fallP
    rw [if_neg hc]
    exact h
structure DB (W : World) (b : Nat) (cs : List Value) (m : MDisk) : Prop where
  b : Bw W b 27 cs
  r : rDisk W.heap.size W cs m
theorem DB.under {W W' : World} {b : Nat} {cs : List Value} {m : MDisk} (h : DB W b cs m) (hx : Below W.heap.size W W') : DB W' b cs m := ⟨h.b.under hx, rDisk_good.mono (rDisk_good.below h.r hx) hx.size⟩
theorem DB.new {W : World} {cs : List Value} {m : MDisk} (h : rDisk W.heap.size W cs m) : DB (W.alloc (.cells cs.toArray 27)) W.heap.size cs m :=
  have hx : Below W.heap.size W (W.alloc (.cells cs.toArray 27)) := (Below.refl _ _).alloc (Nat.le_refl _) _
  ⟨Bw.new _ _ _, rDisk_good.mono (rDisk_good.below h hx) hx.size⟩
theorem rdB.under {W W' : World} {v : Value} {zs : List Int} (h : rdB W.heap.size W v zs) (hx : Below W.heap.size W W') : rdB W'.heap.size W' v zs := by
  obtain ⟨a, c, rfl, hl⟩ := h
  exact ⟨a, c, rfl, (hl.below hx).mono hx.size⟩
theorem bytes_small {m : MDisk} {s : ByteArray} (h : wDisk m ≤ 1048576) : (bytesP m s).length ≤ 1048576 := by
  unfold bytesP
  split
  · rename_i hc
    obtain ⟨x, hx, _, hd⟩ := data_has hc
    rw [hd]
    obtain ⟨p, hp, rfl⟩ := List.mem_iff_getElem.1 hx
    have h1 := sumW_le (f := wInode) hp
    rw [wDisk_eq] at h
    show wInode _ ≤ _
    omega
  · simp
theorem ownT_len {w : World} {e : TypeId} {v : Value} {l : List ByteArray} {F : List Nat} (h : ownT e w v l F) : ∃ a c, v = .slice a l.length c := own_slice h.1

set_option maxHeartbeats 8000000 in
theorem law_FnNames_r (a : Option Addr) (n cap : Nat) (zs : List Int) (w : World) (hx : zs.length = n) (hr : Rd .u8 w.heap.size w a zs) :
    Calls Try.prog 4 #[.slice a n cap] w fun e w' => e = .returned (.bool true) ∧ Below w.heap.size w w' := by
  have HX := Hid.mk hx
  have HRZ := Hid.mk hr
  clear hx hr
  go_enter Try.func4, Try.ntmps4
  go_wp2_with fail
  refine (bigF_any a n cap w).mono ?_
  rintro e w0 ⟨rfl, hw0⟩
  have hw0' := hw0.symm
  clear hw0
  subst hw0'
  by_cases hbig : 1048576 < (n : Int)
  · rw [decide_eq_true hbig]
    go_wp2_with fail
    go_ret
    exact ⟨rfl, Below.refl _ _⟩
  rw [decide_eq_false hbig]
  go_wp2_with fail
  refine (drawRename_ok a n cap zs w HX.out (by omega) HRZ.out).mono ?_
  rintro e w1 ⟨cs1, m, s, t, rfl, hk1, hsm, hs20, ht20, hB⟩
  obtain ⟨d0, dn0, dc0, d1, dn1, dc1, d2, dn2, dc2, dz, hcs⟩ := rdisk_four hk1
  subst hcs
  have HR := Hid.mk hk1
  clear hk1 hbig HX HRZ
  have HSM := Hid.mk hsm
  have hs1 : s.size ≤ 1048576 := by omega
  have hs2 : s.size ≤ 9223372036854775807 := by omega
  have ht1 : t.size ≤ 1048576 := by omega
  have ht2 : t.size ≤ 9223372036854775807 := by omega
  have HSN : Hid (wDisk (renameP m s t) ≤ 1048576) := small_rename hsm
  have HSR : Hid (wDisk (removeP (renameP m s t) t) ≤ 1048576) := small_remove (small_rename hsm)
  clear hsm hs20 ht20
  go_wp2_with fail
  obtain ⟨w2, hq⟩ : ∃ x, x = w1.alloc (.cells #[.slice d0 dn0 dc0, .slice d1 dn1 dc1, .slice d2 dn2 dc2, .int .i64 dz] 27) := ⟨_, rfl⟩
  have hx : Below w1.heap.size w1 w2 := by rw [hq]; exact (Below.refl _ _).alloc (Nat.le_refl _) _
  have HDd : Hid (DB w2 w1.heap.size [.slice d0 dn0 dc0, .slice d1 dn1 dc1, .slice d2 dn2 dc2, .int .i64 dz] m) := by unfold Hid; rw [hq]; exact DB.new HR.out
  rw [← hq]
  clear hq HR
  obtain ⟨bd, hbq⟩ : ∃ x, x = w1.heap.size := ⟨_, rfl⟩
  rw [← hbq] at HDd ⊢
  clear hbq
  replace hB := bthen hB hx
  clear hx
  refine (implRename_c _ m s t w2 HDd.out.r hs2 ht2 HSM.out hs1 ht1).mono ?_
  rintro e w3 ⟨cs3, F3, rfl, ho3, _, _, hx⟩
  have HR := Hid.mk (oDisk_good.read ho3)
  obtain ⟨n0, nn0, nc0, n1, nn1, nc1, n2, nn2, nc2, nz, hcs⟩ := rdisk_four HR.out
  subst hcs
  clear ho3
  replace HDd := Hid.mk (HDd.out.under hx)
  replace hB := bthen hB hx
  clear hx
  have y0 := fun o => (HDd.out.b.alloc o).cell 0 _ rfl
  have y1 := fun o => (HDd.out.b.alloc o).cell 1 _ rfl
  have y2 := fun o => (HDd.out.b.alloc o).cell 2 _ rfl
  have y3 := fun o => (HDd.out.b.alloc o).cell 3 _ rfl
  generalize hcc : renameC m s t = cc
  have HCC := Hid.mk hcc
  clear hcc
  go_wp2_with fail
  clear y0 y1 y2 y3
  obtain ⟨w4, hq⟩ : ∃ x, x = w3.alloc (.cells #[.slice n0 nn0 nc0, .slice n1 nn1 nc1, .slice n2 nn2 nc2, .int .i64 nz] 27) := ⟨_, rfl⟩
  have hx : Below w3.heap.size w3 w4 := by rw [hq]; exact (Below.refl _ _).alloc (Nat.le_refl _) _
  have HDn : Hid (DB w4 w3.heap.size [.slice n0 nn0 nc0, .slice n1 nn1 nc1, .slice n2 nn2 nc2, .int .i64 nz] (renameP m s t)) := by unfold Hid; rw [hq]; exact DB.new HR.out
  rw [← hq]
  clear hq HR
  obtain ⟨bn, hbq⟩ : ∃ x, x = w3.heap.size := ⟨_, rfl⟩
  rw [← hbq] at HDn ⊢
  clear hbq
  replace HDd := Hid.mk (HDd.out.under hx)
  replace hB := bthen hB hx
  clear hx
  refine (specRename_c _ m s t w4 HDd.out.r hs2 ht2 HSM.out hs1 ht1).mono ?_
  rintro e w5 ⟨cs5, rfl, hr5, hx⟩
  obtain ⟨u0, v0, q0, u1, v1, q1, u2, v2, q2, uz, hcs⟩ := rdisk_four hr5
  subst hcs
  clear hr5
  rw [HCC.out]
  replace HDd := Hid.mk (HDd.out.under hx)
  replace HDn := Hid.mk (HDn.out.under hx)
  replace hB := bthen hB hx
  clear hx
  have y0 := fun o => (HDd.out.b.alloc o).cell 0 _ rfl
  have y1 := fun o => (HDd.out.b.alloc o).cell 1 _ rfl
  have y2 := fun o => (HDd.out.b.alloc o).cell 2 _ rfl
  have y3 := fun o => (HDd.out.b.alloc o).cell 3 _ rfl
  go_wp2_with fail
  clear y0 y1 y2 y3
  obtain ⟨w6, hq⟩ : ∃ x, x = w5.alloc (.cells #[.slice u0 v0 q0, .slice u1 v1 q1, .slice u2 v2 q2, .int .i64 uz] 27) := ⟨_, rfl⟩
  have hx : Below w5.heap.size w5 w6 := by rw [hq]; exact (Below.refl _ _).alloc (Nat.le_refl _) _
  rw [← hq]
  clear hq
  replace HDd := Hid.mk (HDd.out.under hx)
  replace HDn := Hid.mk (HDn.out.under hx)
  replace hB := bthen hB hx
  clear hx
  refine (implBytes_c _ m s w6 HDd.out.r hs2 HSM.out hs1).mono ?_
  rintro e w7 ⟨vb, Fb, rfl, hob, _, _, hx⟩
  have HYb : Hid (rdB w7.heap.size w7 vb (bytesP m s)) := ownB.read hob
  obtain ⟨ab, cb, hvb⟩ := own_slice hob.1
  subst hvb
  clear hob
  replace HDd := Hid.mk (HDd.out.under hx)
  replace HDn := Hid.mk (HDn.out.under hx)
  replace hB := bthen hB hx
  clear hx
  by_cases hc : cc = 0
  · subst hc
    have hc := HCC.out
    clear HCC
    rw [decide_eq_true (rename_code hc).1]
    have HBY := Hid.mk (bytes_same hc)
    have HOLD := Hid.mk (old_is hc)
    have HGON := Hid.mk (gone_is hc)
    have HRT := Hid.mk (rename_to hc)
    have HLB := Hid.mk (list_back hc)
    have HOK := Hid.mk (renamed_ok hc)
    have HNB : Hid ((bytesP m s).length ≤ 1048576) := bytes_small HSM.out
    clear hc
    have y0 := HDn.out.b.cell 0 _ rfl
    have y1 := HDn.out.b.cell 1 _ rfl
    have y2 := HDn.out.b.cell 2 _ rfl
    have y3 := HDn.out.b.cell 3 _ rfl
    go_wp2_with fail
    clear y0 y1 y2 y3
    refine (implBytes_c _ (renameP m s t) t w7 HDn.out.r ht2 HSN.out ht1).mono ?_
    rintro e w8 ⟨vx, Fx, rfl, hox, _, _, hx⟩
    rw [HBY.out] at hox
    have HYx : Hid (rdB w8.heap.size w8 vx (bytesP m s)) := ownB.read hox
    obtain ⟨ax, cx, hvx⟩ := own_slice hox.1
    subst hvx
    clear hox
    rw [decide_eq_true HRT.out]
    replace HDd := Hid.mk (HDd.out.under hx)
    replace HDn := Hid.mk (HDn.out.under hx)
    replace HYb := Hid.mk (rdB.under HYb.out hx)
    replace hB := bthen hB hx
    clear hx
    have y0 := HDn.out.b.cell 0 _ rfl
    have y1 := HDn.out.b.cell 1 _ rfl
    have y2 := HDn.out.b.cell 2 _ rfl
    have y3 := HDn.out.b.cell 3 _ rfl
    go_wp2_with fail
    clear y0 y1 y2 y3
    refine (implBytes_c _ (renameP m s t) s w8 HDn.out.r hs2 HSN.out hs1).mono ?_
    rintro e w9 ⟨vo, Fo, rfl, hoo, _, _, hx⟩
    obtain ⟨ao, co, hvo⟩ := own_slice hoo.1
    subst hvo
    clear hoo
    rw [HOLD.out]
    generalize (bytesP (renameP m s t) s).length = no
    replace HDd := Hid.mk (HDd.out.under hx)
    replace HDn := Hid.mk (HDn.out.under hx)
    replace HYb := Hid.mk (rdB.under HYb.out hx)
    replace HYx := Hid.mk (rdB.under HYx.out hx)
    replace hB := bthen hB hx
    clear hx
    have y0 := HDn.out.b.cell 0 _ rfl
    have y1 := HDn.out.b.cell 1 _ rfl
    have y2 := HDn.out.b.cell 2 _ rfl
    have y3 := HDn.out.b.cell 3 _ rfl
    go_wp2_with fail
    clear y0 y1 y2 y3
    refine (implRemove_c _ (renameP m s t) t w9 HDn.out.r ht2 HSN.out ht1).mono ?_
    rintro e w10 ⟨cs10, F10, rfl, ho10, _, _, hx⟩
    have HR := Hid.mk (oDisk_good.read ho10)
    obtain ⟨r0, rn0, rc0, r1, rn1, rc1, r2, rn2, rc2, rz, hcs⟩ := rdisk_four HR.out
    subst hcs
    clear ho10
    rw [HRT.out]
    replace HDd := Hid.mk (HDd.out.under hx)
    replace HDn := Hid.mk (HDn.out.under hx)
    replace HYb := Hid.mk (rdB.under HYb.out hx)
    replace HYx := Hid.mk (rdB.under HYx.out hx)
    replace hB := bthen hB hx
    clear hx
    go_wp2_with fail
    obtain ⟨w11, hq⟩ : ∃ x, x = w10.alloc (.cells #[.slice r0 rn0 rc0, .slice r1 rn1 rc1, .slice r2 rn2 rc2, .int .i64 rz] 27) := ⟨_, rfl⟩
    have hx : Below w10.heap.size w10 w11 := by rw [hq]; exact (Below.refl _ _).alloc (Nat.le_refl _) _
    have HDr : Hid (DB w11 w10.heap.size [.slice r0 rn0 rc0, .slice r1 rn1 rc1, .slice r2 rn2 rc2, .int .i64 rz] (removeP (renameP m s t) t)) := by unfold Hid; rw [hq]; exact DB.new HR.out
    rw [← hq]
    clear hq HR
    obtain ⟨br, hbq⟩ : ∃ x, x = w10.heap.size := ⟨_, rfl⟩
    rw [← hbq] at HDr ⊢
    clear hbq
    replace HDd := Hid.mk (HDd.out.under hx)
    replace HDn := Hid.mk (HDn.out.under hx)
    replace HYb := Hid.mk (rdB.under HYb.out hx)
    replace HYx := Hid.mk (rdB.under HYx.out hx)
    replace hB := bthen hB hx
    clear hx
    refine (implBytes_c _ (removeP (renameP m s t) t) t w11 HDr.out.r ht2 HSR.out ht1).mono ?_
    rintro e w12 ⟨vg, Fg, rfl, hog, _, _, hx⟩
    obtain ⟨ag, cg, hvg⟩ := own_slice hog.1
    subst hvg
    clear hog
    rw [HGON.out]
    generalize (bytesP (removeP (renameP m s t) t) t).length = ng
    replace HDd := Hid.mk (HDd.out.under hx)
    replace HDn := Hid.mk (HDn.out.under hx)
    replace HDr := Hid.mk (HDr.out.under hx)
    replace HYb := Hid.mk (rdB.under HYb.out hx)
    replace HYx := Hid.mk (rdB.under HYx.out hx)
    replace hB := bthen hB hx
    clear hx
    have y0 := HDr.out.b.cell 0 _ rfl
    have y1 := HDr.out.b.cell 1 _ rfl
    have y2 := HDr.out.b.cell 2 _ rfl
    have y3 := HDr.out.b.cell 3 _ rfl
    go_wp2_with fail
    clear y0 y1 y2 y3
    refine (implFall_c _ (removeP (renameP m s t) t) 0 w12 HDr.out.r rfl HSR.out).mono ?_
    rintro e w13 ⟨cs13, F13, rfl, ho13, _, _, hx⟩
    have HR := Hid.mk (oDisk_good.read ho13)
    obtain ⟨f0, fn0, fc0, f1, fn1, fc1, f2, fn2, fc2, fz, hcs⟩ := rdisk_four HR.out
    subst hcs
    clear ho13
    replace HDd := Hid.mk (HDd.out.under hx)
    replace HDn := Hid.mk (HDn.out.under hx)
    replace HYb := Hid.mk (rdB.under HYb.out hx)
    replace HYx := Hid.mk (rdB.under HYx.out hx)
    replace hB := bthen hB hx
    clear hx
    have y0 := fun o => (HDd.out.b.alloc o).cell 0 _ rfl
    have y1 := fun o => (HDd.out.b.alloc o).cell 1 _ rfl
    have y2 := fun o => (HDd.out.b.alloc o).cell 2 _ rfl
    have y3 := fun o => (HDd.out.b.alloc o).cell 3 _ rfl
    clear HDr
    go_wp2_with fail
    clear y0 y1 y2 y3
    obtain ⟨w14, hq⟩ : ∃ x, x = w13.alloc (.cells #[.slice f0 fn0 fc0, .slice f1 fn1 fc1, .slice f2 fn2 fc2, .int .i64 fz] 27) := ⟨_, rfl⟩
    have hx : Below w13.heap.size w13 w14 := by rw [hq]; exact (Below.refl _ _).alloc (Nat.le_refl _) _
    have HDf : Hid (DB w14 w13.heap.size [.slice f0 fn0 fc0, .slice f1 fn1 fc1, .slice f2 fn2 fc2, .int .i64 fz] (fallP (removeP (renameP m s t) t) 0)) := by unfold Hid; rw [hq]; exact DB.new HR.out
    rw [← hq]
    clear hq HR
    obtain ⟨bf, hbq⟩ : ∃ x, x = w13.heap.size := ⟨_, rfl⟩
    rw [← hbq] at HDf ⊢
    clear hbq
    replace HDd := Hid.mk (HDd.out.under hx)
    replace HDn := Hid.mk (HDn.out.under hx)
    replace HYb := Hid.mk (rdB.under HYb.out hx)
    replace HYx := Hid.mk (rdB.under HYx.out hx)
    replace hB := bthen hB hx
    clear hx
    refine (implFall_c _ m 0 w14 HDd.out.r rfl HSM.out).mono ?_
    rintro e w15 ⟨cs15, F15, rfl, ho15, _, _, hx⟩
    have HR := Hid.mk (oDisk_good.read ho15)
    obtain ⟨g0, gn0, gc0, g1, gn1, gc1, g2, gn2, gc2, gz, hcs⟩ := rdisk_four HR.out
    subst hcs
    clear ho15
    replace HDn := Hid.mk (HDn.out.under hx)
    replace HDf := Hid.mk (HDf.out.under hx)
    replace HYb := Hid.mk (rdB.under HYb.out hx)
    replace HYx := Hid.mk (rdB.under HYx.out hx)
    replace hB := bthen hB hx
    clear hx
    clear HDd
    go_wp2_with fail
    obtain ⟨w16, hq⟩ : ∃ x, x = w15.alloc (.cells #[.slice g0 gn0 gc0, .slice g1 gn1 gc1, .slice g2 gn2 gc2, .int .i64 gz] 27) := ⟨_, rfl⟩
    have hx : Below w15.heap.size w15 w16 := by rw [hq]; exact (Below.refl _ _).alloc (Nat.le_refl _) _
    have HDg : Hid (DB w16 w15.heap.size [.slice g0 gn0 gc0, .slice g1 gn1 gc1, .slice g2 gn2 gc2, .int .i64 gz] (fallP m 0)) := by unfold Hid; rw [hq]; exact DB.new HR.out
    rw [← hq]
    clear hq HR
    obtain ⟨bg, hbq⟩ : ∃ x, x = w15.heap.size := ⟨_, rfl⟩
    rw [← hbq] at HDg ⊢
    clear hbq
    replace HDn := Hid.mk (HDn.out.under hx)
    replace HDf := Hid.mk (HDf.out.under hx)
    replace HYb := Hid.mk (rdB.under HYb.out hx)
    replace HYx := Hid.mk (rdB.under HYx.out hx)
    replace hB := bthen hB hx
    clear hx
    have HSF : Hid (wDisk (fallP (removeP (renameP m s t) t) 0) ≤ 1048576) := small_fall HSR.out
    have HSG : Hid (wDisk (fallP m 0) ≤ 1048576) := small_fall HSM.out
    have p0 : ∀ W, Below w16.heap.size w16 W → W.cell? ⟨bf, 0, none⟩ = some (.slice f0 fn0 fc0) := fun W h => (HDf.out.b.under h).cell 0 _ rfl
    have p1 : ∀ W, Below w16.heap.size w16 W → W.cell? ⟨bf, 1, none⟩ = some (.slice f1 fn1 fc1) := fun W h => (HDf.out.b.under h).cell 1 _ rfl
    have p2 : ∀ W, Below w16.heap.size w16 W → W.cell? ⟨bf, 2, none⟩ = some (.slice f2 fn2 fc2) := fun W h => (HDf.out.b.under h).cell 2 _ rfl
    have p3 : ∀ W, Below w16.heap.size w16 W → W.cell? ⟨bf, 3, none⟩ = some (.int .i64 fz) := fun W h => (HDf.out.b.under h).cell 3 _ rfl
    have q0 : ∀ W, Below w16.heap.size w16 W → W.cell? ⟨bg, 0, none⟩ = some (.slice g0 gn0 gc0) := fun W h => (HDg.out.b.under h).cell 0 _ rfl
    have q1 : ∀ W, Below w16.heap.size w16 W → W.cell? ⟨bg, 1, none⟩ = some (.slice g1 gn1 gc1) := fun W h => (HDg.out.b.under h).cell 1 _ rfl
    have q2 : ∀ W, Below w16.heap.size w16 W → W.cell? ⟨bg, 2, none⟩ = some (.slice g2 gn2 gc2) := fun W h => (HDg.out.b.under h).cell 2 _ rfl
    have q3 : ∀ W, Below w16.heap.size w16 W → W.cell? ⟨bg, 3, none⟩ = some (.int .i64 gz) := fun W h => (HDg.out.b.under h).cell 3 _ rfl
    have z0 : ∀ W, Below w16.heap.size w16 W → W.cell? ⟨bn, 0, none⟩ = some (.slice n0 nn0 nc0) := fun W h => (HDn.out.b.under h).cell 0 _ rfl
    have z1 : ∀ W, Below w16.heap.size w16 W → W.cell? ⟨bn, 1, none⟩ = some (.slice n1 nn1 nc1) := fun W h => (HDn.out.b.under h).cell 1 _ rfl
    have z2 : ∀ W, Below w16.heap.size w16 W → W.cell? ⟨bn, 2, none⟩ = some (.slice n2 nn2 nc2) := fun W h => (HDn.out.b.under h).cell 2 _ rfl
    have z3 : ∀ W, Below w16.heap.size w16 W → W.cell? ⟨bn, 3, none⟩ = some (.int .i64 nz) := fun W h => (HDn.out.b.under h).cell 3 _ rfl
    have HCs := Hid.mk (fun (W : World) (h : Below w16.heap.size w16 W) => (show Calls Try.prog 17 #[.slice ax (bytesP m s).length cx, .slice ab (bytesP m s).length cb] W _ from (by obtain ⟨_, _, h1, h2⟩ := rdB.under HYx.out h; obtain ⟨_, _, h3, h4⟩ := rdB.under HYb.out h; injection h1 with h5 _ h6; injection h3 with h7 _ h8; rw [h5, h7]; exact sameBytes_yes _ _ _ cx cb (bytesP m s) W W.heap.size rfl HNB.out h2.2.2.1 h4.2.2.1)))
    have HCf := Hid.mk (fun (W : World) (h : Below w16.heap.size w16 W) => implList_c [.slice f0 fn0 fc0, .slice f1 fn1 fc1, .slice f2 fn2 fc2, .int .i64 fz] _ W (HDf.out.under h).r HSF.out)
    have HCg := Hid.mk (fun (W : World) (h : Below w16.heap.size w16 W) => implList_c [.slice g0 gn0 gc0, .slice g1 gn1 gc1, .slice g2 gn2 gc2, .int .i64 gz] _ W (HDg.out.under h).r HSG.out)
    have HCn := Hid.mk (fun (W : World) (h : Below w16.heap.size w16 W) => implDiskOk_c [.slice n0 nn0 nc0, .slice n1 nn1 nc1, .slice n2 nn2 nc2, .int .i64 nz] _ W (HDn.out.under h).r HSN.out)
    skip
    skip
    by_cases hst : s = t
    · have hkk := k_same hst
      rw [decide_eq_true hst]
      clear hst
      refine wp_region_held_drew (S := fun W => Below w16.heap.size w16 W) (by kernel_rfl) (Below.drew (Below.refl _ _)) (fun hHeld => ?_)
      refine tk 0 q72b_4_17_0 (some 90) (v := ?v1) rfl rfl (by kernel_rfl) hHeld (by rfl) (fun _ _ _ x => x) (fun w h => ?y1) ?_; (case y1 => (try dsimp only at h); go_simp; try (with_reducible rfl)); try simp only [Act.put, sa, s0, s1]
      refine tk 1 q72b_4_17_1 (some 91) (v := ?v2) rfl rfl (by kernel_rfl) hHeld (by rfl) (fun _ _ _ x => x) (fun w h => ?y2) ?_; (case y2 => (try dsimp only at h); go_simp; try (with_reducible rfl)); try simp only [Act.put, sa, s0, s1]
      refine tk 2 q72b_4_17_2 (some 92) (v := ?v3) rfl rfl (by kernel_rfl) hHeld (by rfl) (fun _ _ _ x => x) (fun w h => ?y3) ?_; (case y3 => (try dsimp only at h); go_simp; try (with_reducible rfl)); try simp only [Act.put, sa, s0, s1]
      refine tk 3 q72b_4_17_3 (some 93) (v := ?v4) rfl rfl (by kernel_rfl) hHeld (by rfl) (fun _ _ _ x => x) (fun w h => ?y4) ?_; (case y4 => (try dsimp only at h); go_simp; try (with_reducible rfl)); try simp only [Act.put, sa, s0, s1]
      refine tk 4 q72b_4_17_4 (some 94) (v := ?v5) rfl rfl (by kernel_rfl) hHeld (by rfl) (fun _ _ _ x => x) (fun w h => ?y5) ?_; (case y5 => (try dsimp only at h); go_simp; try (with_reducible rfl)); try simp only [Act.put, sa, s0, s1]
      refine tk 5 q72b_4_17_5 (some 95) (v := ?v6) rfl rfl (by kernel_rfl) hHeld (by rfl) (fun _ _ _ x => x) (fun w h => ?y6) ?_; (case y6 => (try dsimp only at h); go_simp; try (with_reducible rfl)); try simp only [Act.put, sa, s0, s1]
      refine tk 6 q72b_4_17_6 (some 96) (v := ?v7) rfl rfl (by kernel_rfl) hHeld (by rfl) (fun _ _ _ x => x) (fun w h => ?y7) ?_; (case y7 => (try dsimp only at h); go_simp; try (with_reducible rfl)); try simp only [Act.put, sa, s0, s1]
      refine wpAnyH_ready (rs := [7]) (by kernel_rfl) (by simp) ?_
      refine AllReadyH.cons (o := q72b_4_17_7) rfl (fun K hK => ?_) AllReadyH.nil
      go_simp
      refine (HCs.out _ hHeld).mono ?_
      rintro e wa ⟨rfl, dd, hwa⟩
      have hop1 : Below w16.heap.size w16 wa := bthen hHeld (by rw [hwa]; exact below_drewN _ _)
      clear hwa
      go_wp2_with fail
      refine hK.out _ _ (hop1) (fun hHeld => ?_)
      clear hK K
      try simp only [Act.put, sa, s0, s1]
      refine tk 8 q72b_4_17_8 (some 98) (v := ?v8) rfl rfl (by kernel_rfl) hHeld (by rfl) (fun _ _ _ x => x) (fun w h => ?y8) ?_; (case y8 => (try dsimp only at h); go_simp; try (with_reducible rfl)); try simp only [Act.put, sa, s0, s1]
      refine tk 9 q72b_4_17_9 (some 99) (v := ?v9) rfl rfl (by kernel_rfl) hHeld (by rfl) (fun _ _ _ x => x) (fun w h => ?y9) ?_; (case y9 => (try dsimp only at h); go_simp; try (with_reducible rfl)); try simp only [Act.put, sa, s0, s1]
      refine tk 10 q72b_4_17_10 (some 100) (v := ?v10) rfl rfl (by kernel_rfl) hHeld (by rfl) (fun _ _ _ x => x) (fun w h => ?y10) ?_; (case y10 => (try dsimp only at h); go_simp; try (with_reducible rfl)); try simp only [Act.put, sa, s0, s1]
      refine tk 11 q72b_4_17_11 (some 101) (v := ?v11) rfl rfl (by kernel_rfl) hHeld (by rfl) (fun _ _ _ x => x) (fun w h => ?y11) ?_; (case y11 => (try dsimp only at h); go_simp; try (with_reducible rfl)); try simp only [Act.put, sa, s0, s1]
      refine tk 12 q72b_4_17_12 (some 102) (v := ?v12) rfl rfl (by kernel_rfl) hHeld (by rfl) (fun _ _ _ x => x) (fun w h => ?y12) ?_; (case y12 => (try dsimp only at h); go_simp; try (with_reducible rfl)); try simp only [Act.put, sa, s0, s1]
      refine tk 13 q72b_4_17_13 (some 103) (v := ?v13) rfl rfl (by kernel_rfl) hHeld (by rfl) (fun _ _ _ x => x) (fun w h => ?y13) ?_; (case y13 => (try dsimp only at h); go_simp; try (with_reducible rfl)); try simp only [Act.put, sa, s0, s1]
      refine tk 14 q72b_4_17_14 (some 104) (v := ?v14) rfl rfl (by kernel_rfl) hHeld (by rfl) (fun _ _ _ x => x) (fun w h => ?y14) ?_; (case y14 => (try dsimp only at h); go_simp; try (with_reducible rfl)); try simp only [Act.put, sa, s0, s1]
      refine tk 15 q72b_4_17_15 (some 105) (v := ?v15) rfl rfl (by kernel_rfl) hHeld (by rfl) (fun _ _ _ x => x) (fun w h => ?y15) ?_; (case y15 => (try dsimp only at h); go_simp; try (with_reducible rfl)); try simp only [Act.put, sa, s0, s1]
      refine tk 16 q72b_4_17_16 (some 106) (v := ?v16) rfl rfl (by kernel_rfl) hHeld (by rfl) (fun _ _ _ x => x) (fun w h => ?y16) ?_; (case y16 => (try dsimp only at h); go_simp; try (with_reducible rfl)); try simp only [Act.put, sa, s0, s1]
      refine tk 17 q72b_4_17_17 (some 107) (v := ?v17) rfl rfl (by kernel_rfl) hHeld (by rfl) (fun _ _ _ x => x) (fun w h => ?y17) ?_; (case y17 => (try dsimp only at h); go_simp; try (with_reducible rfl)); try simp only [Act.put, sa, s0, s1]
      refine tk 18 q72b_4_17_18 (some 108) (v := ?v18) rfl rfl (by kernel_rfl) hHeld (by rfl) (fun _ _ _ x => x) (fun w h => ?y18) ?_; (case y18 => (try dsimp only at h); go_simp; try (with_reducible rfl)); try simp only [Act.put, sa, s0, s1]
      refine tk 19 q72b_4_17_19 (some 109) (v := ?v19) rfl rfl (by kernel_rfl) hHeld (by rfl) (fun _ _ _ x => x) (fun w h => ?y19) ?_; (case y19 => (try dsimp only at h); go_simp; try (with_reducible rfl)); try simp only [Act.put, sa, s0, s1]
      refine tk 20 q72b_4_17_20 (some 110) (v := ?v20) rfl rfl (by kernel_rfl) hHeld (by rfl) (fun _ _ _ x => x) (fun w h => ?y20) ?_; (case y20 => (try dsimp only at h); go_simp; try (with_reducible rfl)); try simp only [Act.put, sa, s0, s1]
      refine tk 21 q72b_4_17_21 (some 111) (v := ?v21) rfl rfl (by kernel_rfl) hHeld (by rfl) (fun _ _ _ x => x) (fun w h => ?y21) ?_; (case y21 => (try dsimp only at h); go_simp; try (with_reducible rfl)); try simp only [Act.put, sa, s0, s1]
      refine tk 22 q72b_4_17_22 (some 112) (v := ?v22) rfl rfl (by kernel_rfl) hHeld (by rfl) (fun _ _ _ x => x) (fun w h => ?y22) ?_; (case y22 => (try dsimp only at h); go_simp; try (with_reducible rfl)); try simp only [Act.put, sa, s0, s1]
      refine tk 23 q72b_4_17_23 (some 113) (v := ?v23) rfl rfl (by kernel_rfl) hHeld (by rfl) (fun _ _ _ x => x) (fun w h => ?y23) ?_; (case y23 => (try dsimp only at h); go_simp; try (with_reducible rfl)); try simp only [Act.put, sa, s0, s1]
      refine tk 24 q72b_4_17_24 (some 114) (v := ?v24) rfl rfl (by kernel_rfl) hHeld (by rfl) (fun _ _ _ x => x) (fun w h => ?y24) ?_; (case y24 => (try dsimp only at h); go_simp; try (with_reducible rfl)); try simp only [Act.put, sa, s0, s1]
      refine tk 25 q72b_4_17_25 (some 115) (v := ?v25) rfl rfl (by kernel_rfl) hHeld (by rfl) (fun _ _ _ x => x) (fun w h => ?y25) ?_; (case y25 => (try dsimp only at h); go_simp; try (with_reducible rfl)); try simp only [Act.put, sa, s0, s1]
      refine tk 28 q72b_4_17_28 (some 118) (v := ?v26) rfl rfl (by kernel_rfl) hHeld (by rfl) (fun _ _ _ x => x) (fun w h => ?y26) ?_; (case y26 => (try dsimp only at h); go_simp; try (with_reducible rfl)); try simp only [Act.put, sa, s0, s1]
      refine wpAnyH_ready (rs := [26]) (by kernel_rfl) (by simp) ?_
      refine AllReadyH.cons (o := q72b_4_17_26) rfl (fun K hK => ?_) AllReadyH.nil
      go_simp
      refine (HCf.out _ hHeld).mono ?_
      rintro e wb ⟨vf, Ff, rfl, hof, _, _, hxb⟩
      obtain ⟨af, cf, hvf⟩ := ownT_len hof
      subst hvf
      have hop2 : Below w16.heap.size w16 wb := bthen hHeld hxb
      rw [HLB.out]
      clear hof hxb
      go_wp2_with fail
      go_wp2_with fail
      refine hK.out _ _ (hop2) (fun hHeld => ?_)
      clear hK K
      try simp only [Act.put, sa, s0, s1]
      refine tk 27 q72b_4_17_27 (some 117) (v := ?v27) rfl rfl (by kernel_rfl) hHeld (by rfl) (fun _ _ _ x => x) (fun w h => ?y27) ?_; (case y27 => (try dsimp only at h); go_simp; try (with_reducible rfl)); try simp only [Act.put, sa, s0, s1]
      refine wpAnyH_ready (rs := [29]) (by kernel_rfl) (by simp) ?_
      refine AllReadyH.cons (o := q72b_4_17_29) rfl (fun K hK => ?_) AllReadyH.nil
      go_simp
      refine (HCg.out _ hHeld).mono ?_
      rintro e wd ⟨vg2, Fg2, rfl, hog, _, _, hxb⟩
      obtain ⟨ag2, cg2, hvg⟩ := ownT_len hog
      subst hvg
      have hop3 : Below w16.heap.size w16 wd := bthen hHeld hxb
      clear hog hxb
      go_wp2_with fail
      go_wp2_with fail
      refine hK.out _ _ (hop3) (fun hHeld => ?_)
      clear hK K
      try simp only [Act.put, sa, s0, s1]
      refine tk 30 q72b_4_17_30 (some 120) (v := ?v28) rfl rfl (by kernel_rfl) hHeld (by rfl) (fun _ _ _ x => x) (fun w h => ?y28) ?_; (case y28 => (try dsimp only at h); go_simp; try (with_reducible rfl)); try simp only [Act.put, sa, s0, s1]
      refine tk 31 q72b_4_17_31 (some 121) (v := ?v29) rfl rfl (by kernel_rfl) hHeld (by rfl) (fun _ _ _ x => x) (fun w h => ?y29) ?_; (case y29 => (try dsimp only at h); go_simp; try (with_reducible rfl)); try simp only [Act.put, sa, s0, s1]
      refine tk 32 q72b_4_17_32 (some 122) (v := ?v30) rfl rfl (by kernel_rfl) hHeld (by rfl) (fun _ _ _ x => x) (fun w h => ?y30) ?_; (case y30 => (try dsimp only at h); go_simp; try (with_reducible rfl)); try simp only [Act.put, sa, s0, s1]
      refine tk 33 q72b_4_17_33 (some 123) (v := ?v31) rfl rfl (by kernel_rfl) hHeld (by rfl) (fun _ _ _ x => x) (fun w h => ?y31) ?_; (case y31 => (try dsimp only at h); go_simp; try (with_reducible rfl)); try simp only [Act.put, sa, s0, s1]
      refine tk 34 q72b_4_17_34 (some 124) (v := ?v32) rfl rfl (by kernel_rfl) hHeld (by rfl) (fun _ _ _ x => x) (fun w h => ?y32) ?_; (case y32 => (try dsimp only at h); go_simp; try (with_reducible rfl)); try simp only [Act.put, sa, s0, s1]
      refine wpAnyH_ready (rs := [35]) (by kernel_rfl) (by simp) ?_
      refine AllReadyH.cons (o := q72b_4_17_35) rfl (fun K hK => ?_) AllReadyH.nil
      go_simp
      refine (HCn.out _ hHeld).mono ?_
      rintro e we ⟨rfl, hxb⟩
      have hop4 : Below w16.heap.size w16 we := bthen hHeld hxb
      rw [HOK.out]
      clear hxb
      go_wp2_with fail
      refine hK.out _ _ (hop4) (fun hHeld => ?_)
      clear hK K
      try simp only [Act.put, sa, s0, s1]
      refine tk 36 q72b_4_17_36 (some 126) (v := ?v33) rfl rfl (by kernel_rfl) hHeld (by rfl) (fun _ _ _ x => x) (fun w h => ?y33) ?_; (case y33 => (try dsimp only at h); go_simp; try (with_reducible rfl)); try simp only [Act.put, sa, s0, s1]
      refine tk 37 q72b_4_17_37 (some 2) (v := ?v34) rfl rfl (by kernel_rfl) hHeld (by rfl) (fun _ _ _ x => x) (fun w h => ?y34) ?_; (case y34 => (try dsimp only at h); go_simp; try (with_reducible rfl)); try simp only [Act.put, sa, s0, s1]
      refine wpAnyH_done (by kernel_rfl) ?_ _
      go_wp2_with fail
      go_ret
      exact ⟨rfl, bthen hB hop4⟩
    · have hkk := k_ne hst
      rw [decide_eq_false hst]
      clear hst
      refine wp_region_held_drew (S := fun W => Below w16.heap.size w16 W) (by kernel_rfl) (Below.drew (Below.refl _ _)) (fun hHeld => ?_)
      refine tk 0 q72b_4_17_0 (some 90) (v := ?v35) rfl rfl (by kernel_rfl) hHeld (by rfl) (fun _ _ _ x => x) (fun w h => ?y35) ?_; (case y35 => (try dsimp only at h); go_simp; try (with_reducible rfl)); try simp only [Act.put, sa, s0, s1]
      refine tk 1 q72b_4_17_1 (some 91) (v := ?v36) rfl rfl (by kernel_rfl) hHeld (by rfl) (fun _ _ _ x => x) (fun w h => ?y36) ?_; (case y36 => (try dsimp only at h); go_simp; try (with_reducible rfl)); try simp only [Act.put, sa, s0, s1]
      refine tk 2 q72b_4_17_2 (some 92) (v := ?v37) rfl rfl (by kernel_rfl) hHeld (by rfl) (fun _ _ _ x => x) (fun w h => ?y37) ?_; (case y37 => (try dsimp only at h); go_simp; try (with_reducible rfl)); try simp only [Act.put, sa, s0, s1]
      refine tk 3 q72b_4_17_3 (some 93) (v := ?v38) rfl rfl (by kernel_rfl) hHeld (by rfl) (fun _ _ _ x => x) (fun w h => ?y38) ?_; (case y38 => (try dsimp only at h); go_simp; try (with_reducible rfl)); try simp only [Act.put, sa, s0, s1]
      refine tk 4 q72b_4_17_4 (some 94) (v := ?v39) rfl rfl (by kernel_rfl) hHeld (by rfl) (fun _ _ _ x => x) (fun w h => ?y39) ?_; (case y39 => (try dsimp only at h); go_simp; try (with_reducible rfl)); try simp only [Act.put, sa, s0, s1]
      refine tk 5 q72b_4_17_5 (some 95) (v := ?v40) rfl rfl (by kernel_rfl) hHeld (by rfl) (fun _ _ _ x => x) (fun w h => ?y40) ?_; (case y40 => (try dsimp only at h); go_simp; try (with_reducible rfl)); try simp only [Act.put, sa, s0, s1]
      refine tk 6 q72b_4_17_6 (some 96) (v := ?v41) rfl rfl (by kernel_rfl) hHeld (by rfl) (fun _ _ _ x => x) (fun w h => ?y41) ?_; (case y41 => (try dsimp only at h); go_simp; try (with_reducible rfl)); try simp only [Act.put, sa, s0, s1]
      refine wpAnyH_ready (rs := [7]) (by kernel_rfl) (by simp) ?_
      refine AllReadyH.cons (o := q72b_4_17_7) rfl (fun K hK => ?_) AllReadyH.nil
      go_simp
      refine (HCs.out _ hHeld).mono ?_
      rintro e wa ⟨rfl, dd, hwa⟩
      have hop1 : Below w16.heap.size w16 wa := bthen hHeld (by rw [hwa]; exact below_drewN _ _)
      clear hwa
      go_wp2_with fail
      refine hK.out _ _ (hop1) (fun hHeld => ?_)
      clear hK K
      try simp only [Act.put, sa, s0, s1]
      refine tk 8 q72b_4_17_8 (some 98) (v := ?v42) rfl rfl (by kernel_rfl) hHeld (by rfl) (fun _ _ _ x => x) (fun w h => ?y42) ?_; (case y42 => (try dsimp only at h); go_simp; try (with_reducible rfl)); try simp only [Act.put, sa, s0, s1]
      refine tk 9 q72b_4_17_9 (some 99) (v := ?v43) rfl rfl (by kernel_rfl) hHeld (by rfl) (fun _ _ _ x => x) (fun w h => ?y43) ?_; (case y43 => (try dsimp only at h); go_simp; try (with_reducible rfl)); try simp only [Act.put, sa, s0, s1]
      refine tk 10 q72b_4_17_10 (some 100) (v := ?v44) rfl rfl (by kernel_rfl) hHeld (by rfl) (fun _ _ _ x => x) (fun w h => ?y44) ?_; (case y44 => (try dsimp only at h); go_simp; try (with_reducible rfl)); try simp only [Act.put, sa, s0, s1]
      refine tk 11 q72b_4_17_11 (some 101) (v := ?v45) rfl rfl (by kernel_rfl) hHeld (by rfl) (fun _ _ _ x => x) (fun w h => ?y45) ?_; (case y45 => (try dsimp only at h); go_simp; try (with_reducible rfl)); try simp only [Act.put, sa, s0, s1]
      refine tk 12 q72b_4_17_12 (some 102) (v := ?v46) rfl rfl (by kernel_rfl) hHeld (by rfl) (fun _ _ _ x => x) (fun w h => ?y46) ?_; (case y46 => (try dsimp only at h); go_simp; try (with_reducible rfl)); try simp only [Act.put, sa, s0, s1]
      refine tk 13 q72b_4_17_13 (some 103) (v := ?v47) rfl rfl (by kernel_rfl) hHeld (by rfl) (fun _ _ _ x => x) (fun w h => ?y47) ?_; (case y47 => (try dsimp only at h); go_simp; try (with_reducible rfl)); try simp only [Act.put, sa, s0, s1]
      refine tk 14 q72b_4_17_14 (some 104) (v := ?v48) rfl rfl (by kernel_rfl) hHeld (by rfl) (fun _ _ _ x => x) (fun w h => ?y48) ?_; (case y48 => (try dsimp only at h); go_simp; try (with_reducible rfl)); try simp only [Act.put, sa, s0, s1]
      refine tk 15 q72b_4_17_15 (some 105) (v := ?v49) rfl rfl (by kernel_rfl) hHeld (by rfl) (fun _ _ _ x => x) (fun w h => ?y49) ?_; (case y49 => (try dsimp only at h); go_simp; try (with_reducible rfl)); try simp only [Act.put, sa, s0, s1]
      refine tk 16 q72b_4_17_16 (some 106) (v := ?v50) rfl rfl (by kernel_rfl) hHeld (by rfl) (fun _ _ _ x => x) (fun w h => ?y50) ?_; (case y50 => (try dsimp only at h); go_simp; try (with_reducible rfl)); try simp only [Act.put, sa, s0, s1]
      refine tk 17 q72b_4_17_17 (some 107) (v := ?v51) rfl rfl (by kernel_rfl) hHeld (by rfl) (fun _ _ _ x => x) (fun w h => ?y51) ?_; (case y51 => (try dsimp only at h); go_simp; try (with_reducible rfl)); try simp only [Act.put, sa, s0, s1]
      refine tk 18 q72b_4_17_18 (some 108) (v := ?v52) rfl rfl (by kernel_rfl) hHeld (by rfl) (fun _ _ _ x => x) (fun w h => ?y52) ?_; (case y52 => (try dsimp only at h); go_simp; try (with_reducible rfl)); try simp only [Act.put, sa, s0, s1]
      refine tk 19 q72b_4_17_19 (some 109) (v := ?v53) rfl rfl (by kernel_rfl) hHeld (by rfl) (fun _ _ _ x => x) (fun w h => ?y53) ?_; (case y53 => (try dsimp only at h); go_simp; try (with_reducible rfl)); try simp only [Act.put, sa, s0, s1]
      refine tk 20 q72b_4_17_20 (some 110) (v := ?v54) rfl rfl (by kernel_rfl) hHeld (by rfl) (fun _ _ _ x => x) (fun w h => ?y54) ?_; (case y54 => (try dsimp only at h); go_simp; try (with_reducible rfl)); try simp only [Act.put, sa, s0, s1]
      refine tk 21 q72b_4_17_21 (some 111) (v := ?v55) rfl rfl (by kernel_rfl) hHeld (by rfl) (fun _ _ _ x => x) (fun w h => ?y55) ?_; (case y55 => (try dsimp only at h); go_simp; try (with_reducible rfl)); try simp only [Act.put, sa, s0, s1]
      refine tk 22 q72b_4_17_22 (some 112) (v := ?v56) rfl rfl (by kernel_rfl) hHeld (by rfl) (fun _ _ _ x => x) (fun w h => ?y56) ?_; (case y56 => (try dsimp only at h); go_simp; try (with_reducible rfl)); try simp only [Act.put, sa, s0, s1]
      refine tk 23 q72b_4_17_23 (some 113) (v := ?v57) rfl rfl (by kernel_rfl) hHeld (by rfl) (fun _ _ _ x => x) (fun w h => ?y57) ?_; (case y57 => (try dsimp only at h); go_simp; try (with_reducible rfl)); try simp only [Act.put, sa, s0, s1]
      refine tk 24 q72b_4_17_24 (some 114) (v := ?v58) rfl rfl (by kernel_rfl) hHeld (by rfl) (fun _ _ _ x => x) (fun w h => ?y58) ?_; (case y58 => (try dsimp only at h); go_simp; try (with_reducible rfl)); try simp only [Act.put, sa, s0, s1]
      refine tk 25 q72b_4_17_25 (some 115) (v := ?v59) rfl rfl (by kernel_rfl) hHeld (by rfl) (fun _ _ _ x => x) (fun w h => ?y59) ?_; (case y59 => (try dsimp only at h); go_simp; try (with_reducible rfl)); try simp only [Act.put, sa, s0, s1]
      refine tk 28 q72b_4_17_28 (some 118) (v := ?v60) rfl rfl (by kernel_rfl) hHeld (by rfl) (fun _ _ _ x => x) (fun w h => ?y60) ?_; (case y60 => (try dsimp only at h); go_simp; try (with_reducible rfl)); try simp only [Act.put, sa, s0, s1]
      refine wpAnyH_ready (rs := [26]) (by kernel_rfl) (by simp) ?_
      refine AllReadyH.cons (o := q72b_4_17_26) rfl (fun K hK => ?_) AllReadyH.nil
      go_simp
      refine (HCf.out _ hHeld).mono ?_
      rintro e wb ⟨vf, Ff, rfl, hof, _, _, hxb⟩
      obtain ⟨af, cf, hvf⟩ := ownT_len hof
      subst hvf
      have hop2 : Below w16.heap.size w16 wb := bthen hHeld hxb
      rw [HLB.out]
      clear hof hxb
      go_wp2_with fail
      go_wp2_with fail
      refine hK.out _ _ (hop2) (fun hHeld => ?_)
      clear hK K
      try simp only [Act.put, sa, s0, s1]
      refine tk 27 q72b_4_17_27 (some 117) (v := ?v61) rfl rfl (by kernel_rfl) hHeld (by rfl) (fun _ _ _ x => x) (fun w h => ?y61) ?_; (case y61 => (try dsimp only at h); go_simp; try (with_reducible rfl)); try simp only [Act.put, sa, s0, s1]
      refine wpAnyH_ready (rs := [29]) (by kernel_rfl) (by simp) ?_
      refine AllReadyH.cons (o := q72b_4_17_29) rfl (fun K hK => ?_) AllReadyH.nil
      go_simp
      refine (HCg.out _ hHeld).mono ?_
      rintro e wd ⟨vg2, Fg2, rfl, hog, _, _, hxb⟩
      obtain ⟨ag2, cg2, hvg⟩ := ownT_len hog
      subst hvg
      have hop3 : Below w16.heap.size w16 wd := bthen hHeld hxb
      clear hog hxb
      go_wp2_with fail
      go_wp2_with fail
      refine hK.out _ _ (hop3) (fun hHeld => ?_)
      clear hK K
      try simp only [Act.put, sa, s0, s1]
      refine tk 30 q72b_4_17_30 (some 120) (v := ?v62) rfl rfl (by kernel_rfl) hHeld (by rfl) (fun _ _ _ x => x) (fun w h => ?y62) ?_; (case y62 => (try dsimp only at h); go_simp; try (with_reducible rfl)); try simp only [Act.put, sa, s0, s1]
      refine tk 31 q72b_4_17_31 (some 121) (v := ?v63) rfl rfl (by kernel_rfl) hHeld (by rfl) (fun _ _ _ x => x) (fun w h => ?y63) ?_; (case y63 => (try dsimp only at h); go_simp; try (with_reducible rfl)); try simp only [Act.put, sa, s0, s1]
      refine tk 32 q72b_4_17_32 (some 122) (v := ?v64) rfl rfl (by kernel_rfl) hHeld (by rfl) (fun _ _ _ x => x) (fun w h => ?y64) ?_; (case y64 => (try dsimp only at h); go_simp; try (with_reducible rfl)); try simp only [Act.put, sa, s0, s1]
      refine tk 33 q72b_4_17_33 (some 123) (v := ?v65) rfl rfl (by kernel_rfl) hHeld (by rfl) (fun _ _ _ x => x) (fun w h => ?y65) ?_; (case y65 => (try dsimp only at h); go_simp; try (with_reducible rfl)); try simp only [Act.put, sa, s0, s1]
      refine tk 34 q72b_4_17_34 (some 124) (v := ?v66) rfl rfl (by kernel_rfl) hHeld (by rfl) (fun _ _ _ x => x) (fun w h => ?y66) ?_; (case y66 => (try dsimp only at h); go_simp; try (with_reducible rfl)); try simp only [Act.put, sa, s0, s1]
      refine wpAnyH_ready (rs := [35]) (by kernel_rfl) (by simp) ?_
      refine AllReadyH.cons (o := q72b_4_17_35) rfl (fun K hK => ?_) AllReadyH.nil
      go_simp
      refine (HCn.out _ hHeld).mono ?_
      rintro e we ⟨rfl, hxb⟩
      have hop4 : Below w16.heap.size w16 we := bthen hHeld hxb
      rw [HOK.out]
      clear hxb
      go_wp2_with fail
      refine hK.out _ _ (hop4) (fun hHeld => ?_)
      clear hK K
      try simp only [Act.put, sa, s0, s1]
      refine tk 36 q72b_4_17_36 (some 126) (v := ?v67) rfl rfl (by kernel_rfl) hHeld (by rfl) (fun _ _ _ x => x) (fun w h => ?y67) ?_; (case y67 => (try dsimp only at h); go_simp; try (with_reducible rfl)); try simp only [Act.put, sa, s0, s1]
      refine tk 37 q72b_4_17_37 (some 2) (v := ?v68) rfl rfl (by kernel_rfl) hHeld (by rfl) (fun _ _ _ x => x) (fun w h => ?y68) ?_; (case y68 => (try dsimp only at h); go_simp; try (with_reducible rfl)); try simp only [Act.put, sa, s0, s1]
      refine wpAnyH_done (by kernel_rfl) ?_ _
      go_wp2_with fail
      go_ret
      exact ⟨rfl, bthen hB hop4⟩
  · have hcn : renameC m s t ≠ 0 := by rw [HCC.out]; exact hc
    have HLN := Hid.mk (list_no hcn)
    clear HCC hcn
    have p0 : ∀ W, Below w7.heap.size w7 W → W.cell? ⟨bd, 0, none⟩ = some (.slice d0 dn0 dc0) := fun W h => (HDd.out.b.under h).cell 0 _ rfl
    have p1 : ∀ W, Below w7.heap.size w7 W → W.cell? ⟨bd, 1, none⟩ = some (.slice d1 dn1 dc1) := fun W h => (HDd.out.b.under h).cell 1 _ rfl
    have p2 : ∀ W, Below w7.heap.size w7 W → W.cell? ⟨bd, 2, none⟩ = some (.slice d2 dn2 dc2) := fun W h => (HDd.out.b.under h).cell 2 _ rfl
    have p3 : ∀ W, Below w7.heap.size w7 W → W.cell? ⟨bd, 3, none⟩ = some (.int .i64 dz) := fun W h => (HDd.out.b.under h).cell 3 _ rfl
    have q0 : ∀ W, Below w7.heap.size w7 W → W.cell? ⟨bn, 0, none⟩ = some (.slice n0 nn0 nc0) := fun W h => (HDn.out.b.under h).cell 0 _ rfl
    have q1 : ∀ W, Below w7.heap.size w7 W → W.cell? ⟨bn, 1, none⟩ = some (.slice n1 nn1 nc1) := fun W h => (HDn.out.b.under h).cell 1 _ rfl
    have q2 : ∀ W, Below w7.heap.size w7 W → W.cell? ⟨bn, 2, none⟩ = some (.slice n2 nn2 nc2) := fun W h => (HDn.out.b.under h).cell 2 _ rfl
    have q3 : ∀ W, Below w7.heap.size w7 W → W.cell? ⟨bn, 3, none⟩ = some (.int .i64 nz) := fun W h => (HDn.out.b.under h).cell 3 _ rfl
    have HCd := Hid.mk (fun (W : World) (h : Below w7.heap.size w7 W) => implList_c [.slice d0 dn0 dc0, .slice d1 dn1 dc1, .slice d2 dn2 dc2, .int .i64 dz] _ W (HDd.out.under h).r HSM.out)
    have HCn := Hid.mk (fun (W : World) (h : Below w7.heap.size w7 W) => implList_c [.slice n0 nn0 nc0, .slice n1 nn1 nc1, .slice n2 nn2 nc2, .int .i64 nz] _ W (HDn.out.under h).r HSN.out)
    go_wp2_with fail
    refine wp_region_held_drew (S := fun W => Below w7.heap.size w7 W) (by kernel_rfl) (Below.drew (Below.refl _ _)) (fun hHeld => ?_)
    refine tk 0 q72b_4_10_0 (some 55) (v := ?v69) rfl rfl (by kernel_rfl) hHeld (by rfl) (fun _ _ _ x => x) (fun w h => ?y69) ?_; (case y69 => (try dsimp only at h); go_simp; try (with_reducible rfl)); try simp only [Act.put, sa, s0, s1]
    refine tk 3 q72b_4_10_3 (some 58) (v := ?v70) rfl rfl (by kernel_rfl) hHeld (by rfl) (fun _ _ _ x => x) (fun w h => ?y70) ?_; (case y70 => (try dsimp only at h); go_simp; try (with_reducible rfl)); try simp only [Act.put, sa, s0, s1]
    refine wpAnyH_ready (rs := [1]) (by kernel_rfl) (by simp) ?_
    refine AllReadyH.cons (o := q72b_4_10_1) rfl (fun K hK => ?_) AllReadyH.nil
    go_simp
    refine (HCn.out _ hHeld).mono ?_
    rintro e wb ⟨vf, Ff, rfl, hof, _, _, hxb⟩
    obtain ⟨af, cf, hvf⟩ := ownT_len hof
    subst hvf
    have hop1 : Below w7.heap.size w7 wb := bthen hHeld hxb
    rw [HLN.out]
    clear hof hxb
    go_wp2_with fail
    go_wp2_with fail
    refine hK.out _ _ (hop1) (fun hHeld => ?_)
    clear hK K
    try simp only [Act.put, sa, s0, s1]
    refine tk 2 q72b_4_10_2 (some 57) (v := ?v71) rfl rfl (by kernel_rfl) hHeld (by rfl) (fun _ _ _ x => x) (fun w h => ?y71) ?_; (case y71 => (try dsimp only at h); go_simp; try (with_reducible rfl)); try simp only [Act.put, sa, s0, s1]
    refine wpAnyH_ready (rs := [4]) (by kernel_rfl) (by simp) ?_
    refine AllReadyH.cons (o := q72b_4_10_4) rfl (fun K hK => ?_) AllReadyH.nil
    go_simp
    refine (HCd.out _ hHeld).mono ?_
    rintro e wd ⟨vg2, Fg2, rfl, hog, _, _, hxb⟩
    obtain ⟨ag2, cg2, hvg⟩ := ownT_len hog
    subst hvg
    have hop2 : Below w7.heap.size w7 wd := bthen hHeld hxb
    clear hog hxb
    go_wp2_with fail
    go_wp2_with fail
    refine hK.out _ _ (hop2) (fun hHeld => ?_)
    clear hK K
    try simp only [Act.put, sa, s0, s1]
    refine tk 5 q72b_4_10_5 (some 60) (v := ?v72) rfl rfl (by kernel_rfl) hHeld (by rfl) (fun _ _ _ x => x) (fun w h => ?y72) ?_; (case y72 => (try dsimp only at h); go_simp; try (with_reducible rfl)); try simp only [Act.put, sa, s0, s1]
    refine tk 6 q72b_4_10_6 (some 61) (v := ?v73) rfl rfl (by kernel_rfl) hHeld (by rfl) (fun _ _ _ x => x) (fun w h => ?y73) ?_; (case y73 => (try dsimp only at h); go_simp; try (with_reducible rfl)); try simp only [Act.put, sa, s0, s1]
    refine tk 7 q72b_4_10_7 (some 2) (v := ?v74) rfl rfl (by kernel_rfl) hHeld (by rfl) (fun _ _ _ x => x) (fun w h => ?y74) ?_; (case y74 => (try dsimp only at h); go_simp; try (with_reducible rfl)); try simp only [Act.put, sa, s0, s1]
    refine wpAnyH_done (by kernel_rfl) ?_ _
    go_wp2_with fail
    go_ret
    exact ⟨rfl, bthen hB hop2⟩

theorem law_FnNames (cs0 : Value) (m0 : List Int) (w : World) (hr0 : rdB w.heap.size w cs0 m0) :
    Calls Try.prog 4 #[cs0] w fun e w' => e = .returned (.bool true) ∧ Below w.heap.size w w' := by
  obtain ⟨a, c, rfl, h⟩ := hr0
  exact law_FnNames_r a m0.length c m0 w rfl h.2.2.1

end Go.Proofs.Ytmbobjhplkpfoaa
