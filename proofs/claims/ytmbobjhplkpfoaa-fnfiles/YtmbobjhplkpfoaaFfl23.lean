/-
  Part 24 of the texts that the proof leans on.
-/
import Derived.Test.YtmbobjhplkpfoaaFfl21
import Derived.Test.YtmbobjhplkpfoaaFfl22
import Derived.Test.YtmbobjhplkpfoaaFfl15
import Derived.Test.YtmbobjhplkpfoaaFfl8
import Derived.Test.YtmbobjhplkpfoaaFfl2
import Derived.Test.YtmbobjhplkpfoaaFfl0
import Derived.Deep.DeepCutAuto
set_option linter.unusedVariables false
set_option linter.unusedSimpArgs false
set_option maxRecDepth 10000

namespace Go.Proofs.Ytmbobjhplkpfoaa
open Go.RowKit Go.Maps
abbrev qab7_3_8_0 : Oper := ⟨some 33, .move (.tmp 6), 3, "laws.go:201", #[], none⟩
abbrev qab7_3_8_1 : Oper := ⟨some 34, .move (.tmp 8), 3, "laws.go:201", #[], none⟩
abbrev qab7_3_8_2 : Oper := ⟨some 35, .binOp .eql 3 (.tmp 33) (.tmp 34) 3, 4, "laws.go:201", #[⟨0, .data⟩, ⟨1, .data⟩], none⟩
abbrev qab7_3_8_3 : Oper := ⟨some 36, .move (.tmp 35), 4, "laws.go:201", #[⟨2, .data⟩], none⟩
abbrev qab7_3_8_4 : Oper := ⟨some 37, .load 27 (.tmp 5), 27, "laws.go:201", #[⟨3, .guard⟩], some (3, true)⟩
abbrev qab7_3_8_7 : Oper := ⟨some 40, .load 27 (.tmp 3), 27, "laws.go:201", #[⟨3, .guard⟩], some (3, true)⟩
abbrev qab7_3_8_5 : Oper := ⟨some 38, .call { callee := .value (.func 10), args := #[.tmp 37], argTypes := #[27] }, 32, "laws.go:201", #[⟨4, .data⟩, ⟨3, .chain⟩, ⟨3, .guard⟩], some (3, true)⟩
abbrev qab7_3_8_6 : Oper := ⟨some 39, .call { callee := .builtin .len, args := #[.tmp 38], argTypes := #[32] }, 3, "laws.go:201", #[⟨5, .data⟩, ⟨3, .guard⟩], some (3, true)⟩
abbrev qab7_3_8_8 : Oper := ⟨some 41, .call { callee := .value (.func 10), args := #[.tmp 40], argTypes := #[27] }, 32, "laws.go:201", #[⟨7, .data⟩, ⟨5, .chain⟩, ⟨3, .guard⟩], some (3, true)⟩
abbrev qab7_3_8_9 : Oper := ⟨some 42, .call { callee := .builtin .len, args := #[.tmp 41], argTypes := #[32] }, 3, "laws.go:201", #[⟨8, .data⟩, ⟨3, .guard⟩], some (3, true)⟩
abbrev qab7_3_8_10 : Oper := ⟨some 43, .binOp .eql 3 (.tmp 39) (.tmp 42) 3, 4, "laws.go:201", #[⟨6, .data⟩, ⟨9, .data⟩, ⟨3, .guard⟩], some (3, true)⟩
abbrev qab7_3_8_11 : Oper := ⟨some 44, .pick (.tmp 36) (.tmp 43) (.const (.bool false)), 4, "laws.go:201", #[⟨3, .data⟩, ⟨10, .data⟩], none⟩
abbrev qab7_3_8_12 : Oper := ⟨some 2, .assign (.tmp 44), 4, "laws.go:201", #[⟨11, .data⟩, ⟨8, .chain⟩, ⟨0, .phase⟩, ⟨1, .phase⟩, ⟨2, .phase⟩, ⟨3, .phase⟩, ⟨4, .phase⟩, ⟨5, .phase⟩, ⟨6, .phase⟩, ⟨7, .phase⟩, ⟨8, .phase⟩, ⟨9, .phase⟩, ⟨10, .phase⟩, ⟨11, .phase⟩], none⟩
abbrev qab7_3_11_0 : Oper := ⟨some 56, .load 27 (.tmp 5), 27, "laws.go:205", #[], none⟩
abbrev qab7_3_11_1 : Oper := ⟨some 57, .move (.tmp 0), 22, "laws.go:205", #[], none⟩
abbrev qab7_3_11_5 : Oper := ⟨some 9, .alloc 27, 0, "laws.go:205", #[], none⟩
abbrev qab7_3_11_2 : Oper := ⟨some 58, .call { callee := .value (.func 14), args := #[.tmp 57, .const (.int .i64 2)], argTypes := #[22, 3] }, 3, "laws.go:205", #[⟨1, .data⟩], none⟩
abbrev qab7_3_11_3 : Oper := ⟨some 59, .binOp .rem 3 (.tmp 58) (.const (.int .i64 9)) 3, 3, "laws.go:205", #[⟨2, .data⟩], none⟩
abbrev qab7_3_11_4 : Oper := ⟨some 60, .call { callee := .value (.func 13), args := #[.tmp 56, .tmp 59], argTypes := #[27, 3] }, 27, "laws.go:205", #[⟨0, .data⟩, ⟨3, .data⟩, ⟨2, .chain⟩], none⟩
abbrev qab7_3_11_6 : Oper := ⟨none, .store 27 (.tmp 9) (.tmp 60), 0, "laws.go:205", #[⟨5, .data⟩, ⟨4, .data⟩, ⟨4, .chain⟩, ⟨0, .phase⟩, ⟨1, .phase⟩, ⟨2, .phase⟩, ⟨3, .phase⟩, ⟨4, .phase⟩, ⟨5, .phase⟩], none⟩
abbrev qab7_3_15_0 : Oper := ⟨some 77, .load 27 (.tmp 5), 27, "laws.go:209", #[], none⟩
abbrev qab7_3_15_1 : Oper := ⟨some 78, .move (.tmp 0), 22, "laws.go:209", #[], none⟩
abbrev qab7_3_15_5 : Oper := ⟨some 12, .alloc 27, 0, "laws.go:209", #[], none⟩
abbrev qab7_3_15_2 : Oper := ⟨some 79, .call { callee := .value (.func 14), args := #[.tmp 78, .const (.int .i64 2)], argTypes := #[22, 3] }, 3, "laws.go:209", #[⟨1, .data⟩], none⟩
abbrev qab7_3_15_3 : Oper := ⟨some 80, .binOp .rem 3 (.tmp 79) (.const (.int .i64 9)) 3, 3, "laws.go:209", #[⟨2, .data⟩], none⟩
abbrev qab7_3_15_4 : Oper := ⟨some 81, .call { callee := .value (.func 13), args := #[.tmp 77, .tmp 80], argTypes := #[27, 3] }, 27, "laws.go:209", #[⟨0, .data⟩, ⟨3, .data⟩, ⟨2, .chain⟩], none⟩
abbrev qab7_3_15_6 : Oper := ⟨none, .store 27 (.tmp 12) (.tmp 81), 0, "laws.go:209", #[⟨5, .data⟩, ⟨4, .data⟩, ⟨4, .chain⟩, ⟨0, .phase⟩, ⟨1, .phase⟩, ⟨2, .phase⟩, ⟨3, .phase⟩, ⟨4, .phase⟩, ⟨5, .phase⟩], none⟩

set_option maxHeartbeats 400000 in
theorem bigF_any (a : Option Addr) (n cap : Nat) (w : World) :
    Calls Try.prog 5 #[.slice a n cap] w fun e w' => e = .returned (.bool (decide (1048576 < (n : Int)))) ∧ w' = w := by
  go_enter Try.func5, Try.ntmps5
  go_wp2_with fail
  go_ret
  exact ⟨rfl, rfl⟩

set_option maxHeartbeats 400000 in
theorem sameBytes_yes (a b : Option Addr) (n ca cb : Nat) (xs : List Int) (w : World) (B : Nat) (hx : xs.length = n) (hlen : n ≤ 1048576) (hra : Rd .u8 B w a xs) (hrb : Rd .u8 B w b xs) :
    Calls Try.prog 17 #[.slice a n ca, .slice b n cb] w fun e w' => e = .returned (.bool true) ∧ ∃ d, w' = w.drewN d := by
  have HX : Hid (xs.length = n) := hx
  clear hx
  go_enter Try.func17, Try.ntmps17
  go_wp2
  go_loopw [5] (fun i wr => ∃ k : Nat, k ≤ n ∧ i = .int .i64 k ∧ ∃ d, wr = w.drewN d) (fun i _ => n - (intOf i).toNat)
  case atStart => exact ⟨0, Nat.zero_le _, rfl, 0, rfl⟩
  case round =>
    obtain ⟨k, hk, rfl, d, rfl⟩ := hrel
    by_cases hlt : k < n
    · obtain ⟨b1, o1, rfl, _, hc1⟩ := hra k (by rw [HX.out]; exact hlt)
      obtain ⟨b2, o2, rfl, _, hc2⟩ := hrb k (by rw [HX.out]; exact hlt)
      clear hra hrb
      generalize xs.getD k 0 = x at hc1 hc2
      go_wp2
      go_quiet (fail)
      go_wp2
      go_roundw
      case rel => exact ⟨k + 1, by omega, by go_num, _, rfl⟩
      case measure => simp [intOf]; omega
    · go_wp2
      go_ret
      exact ⟨rfl, d, rfl⟩
theorem below_drewN (w : World) (d : Nat) : Below w.heap.size w (w.drewN d) := ⟨rfl, rfl, rfl, Nat.le_refl _, fun _ _ => rfl⟩

theorem small_fall {m : MDisk} {k : Int} (h : wDisk m ≤ 1048576) : wDisk (fallP m k) ≤ 1048576 := by
  by_cases hc : diskOk m = true ∧ 0 ≤ k
  · exact ok_small (fall_ok hc.1 hc.2)
  · unfold fallP
    rw [if_neg hc]
    exact h
structure DB (W : World) (b : Nat) (cs : List Value) (m : MDisk) : Prop where
  b : Bw W b 27 cs
  r : rDisk W.heap.size W cs m
theorem DB.under {W W' : World} {b : Nat} {cs : List Value} {m : MDisk} (h : DB W b cs m) (hx : Below W.heap.size W W') : DB W' b cs m := ⟨h.b.under hx, rDisk_good.mono (rDisk_good.below h.r hx) hx.size⟩
theorem DB.new {W : World} {cs : List Value} {m : MDisk} (h : rDisk W.heap.size W cs m) : DB (W.alloc (.cells cs.toArray 27)) W.heap.size cs m :=
  have hx : Below W.heap.size W (W.alloc (.cells cs.toArray 27)) := (Below.refl _ _).alloc (Nat.le_refl _) _
  ⟨Bw.new _ _ _, rDisk_good.mono (rDisk_good.below h hx) hx.size⟩
theorem rdB.under {W W' : World} {v : Value} {zs : List Int} (h : rdB W.heap.size W v zs) (hx : Below W.heap.size W W') : rdB W'.heap.size W' v zs := by
  obtain ⟨a, c, rfl, hl⟩ := h
  exact ⟨a, c, rfl, (hl.below hx).mono hx.size⟩
theorem ownT_len {w : World} {e : TypeId} {v : Value} {l : List ByteArray} {F : List Nat} (h : ownT e w v l F) : ∃ a c, v = .slice a l.length c := own_slice h.1

set_option maxHeartbeats 400000 in
theorem drawFrame_ok (a : Option Addr) (n cap : Nat) (zs : List Int) (w : World) (hx : zs.length = n) (hlen : n ≤ 1048576) (hr : Rd .u8 w.heap.size w a zs) :
    Calls Try.prog 7 #[.slice a n cap] w fun e w' => ∃ (v : Value) (bs : List Int), e = .returned v ∧ bs.length ≤ 9 ∧ BytesOk bs ∧ w'.ownsRow w.heap.size 5 1 v bs.length (bs.map (Value.int .u8)) ∧ Below w.heap.size w w' := by
  go_enter Try.func7, Try.ntmps7
  go_wp2_with fail
  refine (l1New_any a n cap zs _ hx (by omega) (by exact hr)).mono ?_
  rintro e w1 ⟨rfl, hc1, hb1⟩
  go_wp2_with fail
  refine (l1Some_ok hc1).mono ?_
  rintro e w2 ⟨v2, rfl, bs, hbl, hbo, hown2, hc2, hg2⟩
  have hb2 := hb1.grown hg2 hb1.size (fun k h => by simp at h; omega)
  have hown3 := own_base hown2 hb1.size
  clear hg2 hc1 hown2
  go_wp2_with fail
  go_ret
  exact ⟨v2, bs, rfl, hbl, hbo, hown3, hb2⟩

set_option maxHeartbeats 400000 in
theorem at_any (a : Option Addr) (n cap i : Nat) (zs : List Int) (w : World) (hx : zs.length = n) (hlen : n ≤ 1048576) (hi : i ≤ 1000) (hb : BytesOk zs) (hr : Rd .u8 w.heap.size w a zs) :
    Calls Try.prog 14 #[.slice a n cap, .int .i64 i] w fun e w' => ∃ x : Nat, (e = .returned (.int .i64 x) ∧ x ≤ 255) ∧ w' = w := by
  have HX := Hid.mk hx
  clear hx
  by_cases hlt : i < n
  · obtain ⟨b1, o1, rfl, _, hc1⟩ := hr i (by rw [HX.out]; exact hlt)
    have hbd : 0 ≤ zs.getD i 0 ∧ zs.getD i 0 ≤ 255 := by
      rw [List.getD_eq_getElem?_getD, List.getElem?_eq_getElem (by rw [HX.out]; exact hlt)]
      exact hb _ (List.getElem_mem _)
    generalize zs.getD i 0 = z at hc1 hbd
    go_enter Try.func14, Try.ntmps14
    go_wp2_with fail
    go_ret
    obtain ⟨x, rfl⟩ := Int.eq_ofNat_of_zero_le hbd.1
    exact ⟨x, ⟨by go_num, by omega⟩, rfl⟩
  · go_enter Try.func14, Try.ntmps14
    go_wp2_with fail
    go_ret
    exact ⟨(i * 31 + n * 7) % 256, ⟨by go_num, by omega⟩, rfl⟩

theorem DB.put {W W' : World} {b : Nat} {cs : List Value} {m m' : MDisk} {x0 x1 x2 x3 : Value} (h : DB W b cs m) (hx : Below W.heap.size W W') (hr : rDisk W'.heap.size W' [x0, x1, x2, x3] m') :
    DB ((((W'.setCell ⟨b, 0, none⟩ x0).setCell ⟨b, 1, none⟩ x1).setCell ⟨b, 2, none⟩ x2).setCell ⟨b, 3, none⟩ x3) b [x0, x1, x2, x3] m' := by
  have hT := turn4 W' b x0 x1 x2 x3
  have hz : ((((W'.setCell ⟨b, 0, none⟩ x0).setCell ⟨b, 1, none⟩ x1).setCell ⟨b, 2, none⟩ x2).setCell ⟨b, 3, none⟩ x3).heap.size = W'.heap.size := by simp
  have hl : cs.length = 4 := by obtain ⟨_, _, _, _, _, _, rfl, _⟩ := h.r; rfl
  refine ⟨(h.b.under hx).put4 hl _ _ _ _, ?_⟩
  rw [hz]
  exact rDisk_turn (Bw.dbox (h.b.under hx) h.r) hT hr
theorem DB.box {W : World} {b : Nat} {cs : List Value} {m : MDisk} (h : DB W b cs m) : DBox W b := Bw.dbox h.b h.r
theorem DB.turn {W W' : World} {b b' : Nat} {cs : List Value} {m : MDisk} (h : DB W b cs m) (hx : DBox W b') (hT : Turn [b'] W W') (hz : W'.heap.size = W.heap.size) (hne : b ≠ b') : DB W' b cs m := ⟨h.b.turn hT (by simpa using hne), by rw [hz]; exact rDisk_turn hx hT h.r⟩
theorem rdB.turn {W W' : World} {b' : Nat} {v : Value} {zs : List Int} (h : rdB W.heap.size W v zs) (hx : DBox W b') (hT : Turn [b'] W W') (hz : W'.heap.size = W.heap.size) : rdB W'.heap.size W' v zs := by
  obtain ⟨a, c, rfl, hl⟩ := h
  exact ⟨a, c, rfl, by rw [hz]; exact leafB_turn hx hT hl⟩
theorem Rd.take_ {k : IntKind} {B : Nat} {w : World} {a : Option Addr} {zs : List Int} (h : Rd k B w a zs) (q : Nat) : Rd k B w a (zs.take q) := by
  intro j hj
  have hjq : j < q ∧ j < zs.length := by simp at hj; omega
  obtain ⟨b, o, e, hB, hc⟩ := h j hjq.2
  refine ⟨b, o, e, hB, ?_⟩
  rw [hc]
  congr 2
  simp [List.getD_eq_getElem?_getD, List.getElem?_take, hjq.1]
def ownN : ByteArray := ⟨#[111, 119, 110]⟩
theorem names_not : ∀ s, s ∈ namesL → s.data.toList ≠ [111, 119, 110] := by decide
theorem own_out : ownN ∉ namesL := fun h => names_not _ h rfl
theorem own_gone {l : List MEntry} (h : ∀ e, e ∈ l → e.fName ∈ namesL) : hasName l ownN = false := by
  rw [Bool.eq_false_iff]
  intro hh
  obtain ⟨e, he, hn⟩ := hasName_iff.1 hh
  exact own_out (hn ▸ h e he)
theorem rem9 (x : Nat) : ∃ k : Nat, ((x : Int).tmod 9 = (k : Int) ∧ IntKind.i64.wrap (k : Int) = (k : Int)) ∧ k < 9 := ⟨x % 9, ⟨by rw [Int.tmod_eq_emod_of_nonneg (by omega)]; rfl, by rw [IntKind.wrap_i64]; omega⟩, by omega⟩

def Size30 (w : World) (e : Ending) (w' : World) : Prop := ∃ x : Int, (e = .returned (.int .i64 x) ∧ x ≤ 30 ∧ 0 ≤ x) ∧ w' = w
set_option maxHeartbeats 400000 in
theorem l1Size30_ok (a : Option Addr) (n cap : Nat) (w : World) (hn : n ≤ 1048576) :
    Calls Try.prog 25 #[.slice a n cap, .int .i64 30] w fun e w' => Size30 w e w' := by
  have e1 : ((n : Int)).tdiv 12 = (n : Int) / 12 := Int.tdiv_eq_ediv_of_nonneg (by omega)
  have e2 : IntKind.i64.wrap ((n : Int) / 12) = (n : Int) / 12 := by rw [IntKind.wrap_i64]; omega
  go_enter Try.func25, Try.ntmps25
  by_cases h : 30 < 3 + (n : Int) / 12
  · go_wp2_with fail
    go_ret
    exact (show Size30 w _ _ from ⟨30, ⟨rfl, by omega, by omega⟩, rfl⟩)
  · go_wp2_with fail
    go_ret
    exact (show Size30 w _ _ from ⟨3 + (n : Int) / 12, ⟨rfl, by omega, by omega⟩, rfl⟩)

def DiskOne (w : World) (e : Ending) (w' : World) : Prop :=
  ∃ (cs : List Value) (m : MDisk), e = .returned (.agg cs.toArray) ∧ rDisk w'.heap.size w' cs m ∧ wDisk m ≤ 1048576 ∧ Fam 100 m ∧ Below w.heap.size w w'

set_option maxHeartbeats 4000000 in
theorem drawDisk_ok (a : Option Addr) (n cap : Nat) (zs : List Int) (w : World) (hx : zs.length = n) (hn : n ≤ 1048576) (hr : Rd .u8 w.heap.size w a zs) :
    Calls Try.prog 6 #[.slice a n cap] w fun e w' => DiskOne w e w' := by
  have HX := Hid.mk hx
  have HR := Hid.mk hr
  clear hx hr
  go_enter Try.func6, Try.ntmps6
  go_wp2_with fail
  obtain ⟨wq, hwq⟩ : ∃ wq, wq = w.alloc (.cells #[.slice none 0 0, .slice none 0 0, .slice none 0 0, .int .i64 0] 27) := ⟨_, rfl⟩
  have hbq : Below w.heap.size w wq := by rw [hwq]; exact (Below.refl _ _).alloc (Nat.le_refl _) _
  have hbr : Bw wq w.heap.size 27 dZ := by rw [hwq]; exact Bw.new _ _ _
  rw [← hwq]
  clear hwq
  refine (l1New_any a n cap zs wq HX.out (by omega) ((HR.out.below hbq).mono hbq.size)).mono ?_
  rintro e w1 ⟨rfl, hc1, hx1⟩
  have hrl := hbr.lt
  obtain ⟨g, hg⟩ : ∃ x, x = wq.heap.size := ⟨_, rfl⟩
  obtain ⟨br, hbrq⟩ : ∃ x, x = w.heap.size := ⟨_, rfl⟩
  rw [← hg] at hc1 hrl ⊢
  have hB1 := bthen hbq hx1
  replace hbr := hbr.under hx1
  have hbw : w.heap.size ≤ br := by omega
  rw [← hbrq] at hbr hrl ⊢
  clear hg hbrq hx1 hbq
  go_wp2_with fail
  refine (l1Size30_ok a n cap w1 hn).mono ?_
  rintro e w1' ⟨x, ⟨rfl, hx30, hx0⟩, hw1⟩
  replace hw1 := hw1.symm
  subst hw1
  have hgl := hc1.lt
  have hwr : IntKind.i64.wrap (4 + x) = 4 + x := by rw [IntKind.wrap_i64]; omega
  go_wp2_with fail
  refine (l2DrawK_ok (4 + x) hc1 (by omega)).mono ?_
  rintro e w2 ⟨cs, m, rfl, hfa, ⟨F2, ho2, _⟩, hf2, hc2, ht2⟩
  have hk2 := oDisk_good.read ho2
  clear ho2
  obtain ⟨a0, n0, c0, a1, n1, c1, a2, n2, c2, z, hcs⟩ := rdisk_four hk2
  subst hcs
  have hbr2 := hbr.turn ht2 (by simp; omega)
  have hB2 : Below w.heap.size w w2 := hB1.trans (ht2.below (fun k hk => by simp at hk; omega) hB1.size)
  have HK2 := Hid.mk hk2
  have HFA := Hid.mk hfa
  have HF2 := Hid.mk hf2.small
  clear hk2 ht2 hbr hB1 hc1 hfa hf2 hc2
  have q0 := hbr2.cell 0 _ rfl
  have q1 := hbr2.cell 1 _ rfl
  have q2 := hbr2.cell 2 _ rfl
  have q3 := hbr2.cell 3 _ rfl
  have e0 := hbr2.free 0
  have e1 := hbr2.free 1
  have e2 := hbr2.free 2
  have e3 := hbr2.free 3
  have le := hbr2.lt
  have HP := Hid.mk (fun W (hT : Turn [br] w2 W) (hz : W.heap.size = w2.heap.size) => (show rDisk W.heap.size W [.slice a0 n0 c0, .slice a1 n1 c1, .slice a2 n2 c2, .int .i64 z] m ∧ Below w.heap.size w W from ⟨by rw [hz]; exact rDisk_turn (Bw.dzero hbr2) hT HK2.out, hB2.trans (hT.below (fun k hk => by simp at hk; omega) hB2.size)⟩))
  clear hbr2 HK2 hB2
  go_wp2_with fail
  obtain ⟨h1, h2⟩ := HP.out _ (turn4 w2 br (.slice a0 n0 c0) (.slice a1 n1 c1) (.slice a2 n2 c2) (.int .i64 z)) (by simp)
  refine bodyPost_ret (v := .agg #[.slice a0 n0 c0, .slice a1 n1 c1, .slice a2 n2 c2, .int .i64 z]) (by simp [results, Try.results6, go_sem, *]) rfl (show DiskOne w _ _ from ⟨[.slice a0 n0 c0, .slice a1 n1 c1, .slice a2 n2 c2, .int .i64 z], m, rfl, h1, HF2.out, HFA.out, h2⟩)

set_option maxHeartbeats 16000000 in
theorem law_FnFiles_r (a : Option Addr) (n cap : Nat) (zs : List Int) (w : World) (hx : zs.length = n) (hbz : BytesOk zs) (hr : Rd .u8 w.heap.size w a zs) :
    Calls Try.prog 3 #[.slice a n cap] w fun e w' => e = .returned (.bool true) ∧ Below w.heap.size w w' := by
  have HX := Hid.mk hx
  have HBZ := Hid.mk hbz
  have HRZ := Hid.mk hr
  clear hx hr hbz
  go_enter Try.func3, Try.ntmps3
  go_wp2_with fail
  refine (bigF_any a n cap w).mono ?_
  rintro e w0 ⟨rfl, hw0⟩
  have hw0' := hw0.symm
  clear hw0
  subst hw0'
  by_cases hbig : 1048576 < (n : Int)
  · rw [decide_eq_true hbig]
    go_wp2_with fail
    go_ret
    exact ⟨rfl, Below.refl _ _⟩
  rw [decide_eq_false hbig]
  have hn20 : n ≤ 1048576 := by omega
  have HAT : Hid (∀ W : World, Below w.heap.size w W → Calls Try.prog 14 #[.slice a n cap, .int .i64 2] W fun e w' => ∃ x : Nat, (e = .returned (.int .i64 x) ∧ x ≤ 255) ∧ w' = W) := fun W h => at_any a n cap 2 zs W HX.out hn20 (by omega) HBZ.out ((HRZ.out.below h).mono h.size)
  clear hbig
  go_wp2_with fail
  refine (drawDisk_ok a n cap zs w HX.out hn20 HRZ.out).mono ?_
  rintro e w1 ⟨cs1, m, rfl, hk1, hsm, hfa, hB⟩
  obtain ⟨d0, dn0, dc0, d1, dn1, dc1, d2, dn2, dc2, dz, hcs⟩ := rdisk_four hk1
  subst hcs
  have HR := Hid.mk hk1
  have HSM := Hid.mk hsm
  have HFA := Hid.mk hfa
  clear hk1 hsm hfa
  go_wp2_with fail
  obtain ⟨w2, hq⟩ : ∃ x, x = w1.alloc (.cells #[.slice d0 dn0 dc0, .slice d1 dn1 dc1, .slice d2 dn2 dc2, .int .i64 dz] 27) := ⟨_, rfl⟩
  have hx : Below w1.heap.size w1 w2 := by rw [hq]; exact (Below.refl _ _).alloc (Nat.le_refl _) _
  have HDd : Hid (DB w2 w1.heap.size [.slice d0 dn0 dc0, .slice d1 dn1 dc1, .slice d2 dn2 dc2, .int .i64 dz] m) := by unfold Hid; rw [hq]; exact DB.new HR.out
  rw [← hq]
  clear hq HR
  obtain ⟨bd, hbq⟩ : ∃ x, x = w1.heap.size := ⟨_, rfl⟩
  have hbd : w.heap.size ≤ bd := by have := hB.size; omega
  rw [← hbq] at HDd ⊢
  clear hbq
  replace hB := bthen hB hx
  clear hx
  refine (drawFrame_ok a n cap zs w2 HX.out hn20 ((HRZ.out.below hB).mono hB.size)).mono ?_
  rintro e w3 ⟨v3, bs, rfl, hb9, hbok, hob, hx⟩
  have HYb : Hid (rdB w3.heap.size w3 v3 bs) := ownB.read (e := 5) (F := _) ⟨own_base hob (Nat.zero_le _), hbok, rfl⟩
  obtain ⟨ab, cb, hvb⟩ := own_slice hob
  subst hvb
  clear hob hbok
  replace HDd := Hid.mk (HDd.out.under hx)
  replace hB := bthen hB hx
  clear hx HX HBZ HRZ
  obtain ⟨nb, hnb⟩ : ∃ x, x = bs.length := ⟨_, rfl⟩
  have HNB := Hid.mk hnb
  rw [← hnb] at hb9 ⊢
  rw [← hnb] at HYb
  clear hnb
  have hs1 : ownN.size ≤ 1048576 := by decide
  have hs2 : ownN.size ≤ 9223372036854775807 := by decide
  have HCRE := Hid.mk (implCreate_c [.slice d0 dn0 dc0, .slice d1 dn1 dc1, .slice d2 dn2 dc2, .int .i64 dz] m ownN w3 HDd.out.r hs2 HSM.out hs1)
  have y0 := HDd.out.b.cell 0 _ rfl
  have y1 := HDd.out.b.cell 1 _ rfl
  have y2 := HDd.out.b.cell 2 _ rfl
  have y3 := HDd.out.b.cell 3 _ rfl
  go_wp2_with fail
  clear y0 y1 y2 y3
  refine HCRE.out.mono ?_
  rintro e w4 ⟨cs4, F4, rfl, ho4, _, _, hx⟩
  have HR := Hid.mk (oDisk_good.read ho4)
  obtain ⟨n0, nn0, nc0, n1, nn1, nc1, n2, nn2, nc2, nz, hcs⟩ := rdisk_four HR.out
  subst hcs
  clear ho4 HCRE
  generalize hcc : createC m ownN = cc
  have HCC := Hid.mk hcc
  clear hcc
  replace HDd := Hid.mk (HDd.out.under hx)
  replace HYb := Hid.mk (rdB.under HYb.out hx)
  replace hB := bthen hB hx
  clear hx
  by_cases hc : cc = 0
  · subst hc
    have HF1 := Hid.mk (fun (c : List Int) (k : Int) (hk : 0 ≤ k) => files_ok (b := bs) (c := c) HCC.out (by have h1 := HFA.out.z; have h2 := HNB.out; omega) (own_gone HFA.out.s) hk)
    have HS1 : Hid (wDisk (createP m ownN) ≤ 1048576) := small_create HSM.out
    have HS2 : Hid (wDisk (appendP (createP m ownN) ownN bs) ≤ 1048576) := small_append HS1.out
    have HS3 : Hid (wDisk (syncP (appendP (createP m ownN) ownN bs) ownN) ≤ 1048576) := small_sync HS2.out
    have HS4 : Hid (wDisk (syncDirP (syncP (appendP (createP m ownN) ownN bs) ownN)) ≤ 1048576) := small_syncDir HS3.out
    have HS5 : Hid (wDisk (appendP (syncDirP (syncP (appendP (createP m ownN) ownN bs) ownN)) ownN [1, 2, 3]) ≤ 1048576) := small_append HS4.out
    clear HCC HFA HSM HDd
    go_wp2_with fail
    obtain ⟨w5, hq⟩ : ∃ x, x = w4.alloc (.cells #[.slice n0 nn0 nc0, .slice n1 nn1 nc1, .slice n2 nn2 nc2, .int .i64 nz] 27) := ⟨_, rfl⟩
    have hx : Below w4.heap.size w4 w5 := by rw [hq]; exact (Below.refl _ _).alloc (Nat.le_refl _) _
    have HDn : Hid (DB w5 w4.heap.size [.slice n0 nn0 nc0, .slice n1 nn1 nc1, .slice n2 nn2 nc2, .int .i64 nz] (createP m ownN)) := by unfold Hid; rw [hq]; exact DB.new HR.out
    rw [← hq]
    clear hq HR
    obtain ⟨bn, hbq⟩ : ∃ x, x = w4.heap.size := ⟨_, rfl⟩
    have hbn : w.heap.size ≤ bn := by have := hB.size; omega
    rw [← hbq] at HDn ⊢
    clear hbq
    replace HYb := Hid.mk (rdB.under HYb.out hx)
    replace hB := bthen hB hx
    clear hx
    have HYc : Hid (rdB w5.heap.size w5 (.slice ab nb cb) bs) := HYb
    refine (implAppend_c _ (createP m ownN) ownN _ bs w5 HDn.out.r hs2 HYc.out HS1.out hs1 (by have := HNB.out; omega)).mono ?_
    rintro e w6 ⟨cs6, F6, rfl, ho6, _, _, hx⟩
    have HR := Hid.mk (oDisk_good.read ho6)
    obtain ⟨p0, pn0, pc0, p1, pn1, pc1, p2, pn2, pc2, pz, hcs⟩ := rdisk_four HR.out
    subst hcs
    clear ho6 HYc
    generalize appendC (createP m ownN) ownN bs = ac
    have hp := DB.put HDn.out hx HR.out
    have hbo := (HDn.out.under hx).b
    have hbx := (HDn.out.under hx).box
    have hOy := rdB.under HYb.out hx
    have hBo := bthen hB hx
    have f0 := hbo.free 0
    have f1 := hbo.free 1
    have f2 := hbo.free 2
    have f3 := hbo.free 3
    have o0 := hbo.cell 0 _ rfl
    have o1 := hbo.cell 1 _ rfl
    have o2 := hbo.cell 2 _ rfl
    have o3 := hbo.cell 3 _ rfl
    have lo := hbo.lt
    obtain ⟨v6, hW⟩ : ∃ x, x = (((w6.setCell ⟨bn, 0, none⟩ (.slice p0 pn0 pc0)).setCell ⟨bn, 1, none⟩ (.slice p1 pn1 pc1)).setCell ⟨bn, 2, none⟩ (.slice p2 pn2 pc2)).setCell ⟨bn, 3, none⟩ (.int .i64 pz) := ⟨_, rfl⟩
    have hT : Turn [bn] w6 v6 := by rw [hW]; exact turn4 _ _ _ _ _ _
    have hz : v6.heap.size = w6.heap.size := by rw [hW]; simp
    rw [← hW] at hp
    replace HDn := Hid.mk hp
    replace HYb := Hid.mk (rdB.turn hOy hbx hT hz)
    replace hB : Below w.heap.size w v6 := hBo.trans (hT.below (fun k hk => by simp at hk; omega) hBo.size)
    clear hp hbo hbx hOy hBo hT hz hx HR 
    have HWW := Hid.mk hW
    clear hW
    have y0 := HDn.out.b.cell 0 _ rfl
    have y1 := HDn.out.b.cell 1 _ rfl
    have y2 := HDn.out.b.cell 2 _ rfl
    have y3 := HDn.out.b.cell 3 _ rfl
    rw [HWW.out] at y0 y1 y2 y3
    go_wp2_with fail
    clear y0 y1 y2 y3
    rw [← HWW.out]
    clear HWW f0 f1 f2 f3 o0 o1 o2 o3 lo
    refine (implSync_c _ (appendP (createP m ownN) ownN bs) ownN v6 HDn.out.r hs2 HS2.out hs1).mono ?_
    rintro e w7 ⟨cs7, F7, rfl, ho7, _, _, hx⟩
    have HR := Hid.mk (oDisk_good.read ho7)
    obtain ⟨q0, qn0, qc0, q1, qn1, qc1, q2, qn2, qc2, qz, hcs⟩ := rdisk_four HR.out
    subst hcs
    clear ho7
    generalize callP (appendP (createP m ownN) ownN bs) ownN = sc
    have hp := DB.put HDn.out hx HR.out
    have hbo := (HDn.out.under hx).b
    have hbx := (HDn.out.under hx).box
    have hOy := rdB.under HYb.out hx
    have hBo := bthen hB hx
    have f0 := hbo.free 0
    have f1 := hbo.free 1
    have f2 := hbo.free 2
    have f3 := hbo.free 3
    have o0 := hbo.cell 0 _ rfl
    have o1 := hbo.cell 1 _ rfl
    have o2 := hbo.cell 2 _ rfl
    have o3 := hbo.cell 3 _ rfl
    have lo := hbo.lt
    obtain ⟨v7, hW⟩ : ∃ x, x = (((w7.setCell ⟨bn, 0, none⟩ (.slice q0 qn0 qc0)).setCell ⟨bn, 1, none⟩ (.slice q1 qn1 qc1)).setCell ⟨bn, 2, none⟩ (.slice q2 qn2 qc2)).setCell ⟨bn, 3, none⟩ (.int .i64 qz) := ⟨_, rfl⟩
    have hT : Turn [bn] w7 v7 := by rw [hW]; exact turn4 _ _ _ _ _ _
    have hz : v7.heap.size = w7.heap.size := by rw [hW]; simp
    rw [← hW] at hp
    replace HDn := Hid.mk hp
    replace HYb := Hid.mk (rdB.turn hOy hbx hT hz)
    replace hB : Below w.heap.size w v7 := hBo.trans (hT.below (fun k hk => by simp at hk; omega) hBo.size)
    clear hp hbo hbx hOy hBo hT hz hx HR 
    have HWW := Hid.mk hW
    clear hW
    have y0 := HDn.out.b.cell 0 _ rfl
    have y1 := HDn.out.b.cell 1 _ rfl
    have y2 := HDn.out.b.cell 2 _ rfl
    have y3 := HDn.out.b.cell 3 _ rfl
    rw [HWW.out] at y0 y1 y2 y3
    go_wp2_with fail
    rw [← HWW.out]
    clear HWW f0 f1 f2 f3 o0 o1 o2 o3 lo
    clear y0 y1 y2 y3
    have y0 : ∀ W, Below v7.heap.size v7 W → W.cell? ⟨bn, 0, none⟩ = some (.slice q0 qn0 qc0) := fun W h => (HDn.out.b.under h).cell 0 _ rfl
    have y1 : ∀ W, Below v7.heap.size v7 W → W.cell? ⟨bn, 1, none⟩ = some (.slice q1 qn1 qc1) := fun W h => (HDn.out.b.under h).cell 1 _ rfl
    have y2 : ∀ W, Below v7.heap.size v7 W → W.cell? ⟨bn, 2, none⟩ = some (.slice q2 qn2 qc2) := fun W h => (HDn.out.b.under h).cell 2 _ rfl
    have y3 : ∀ W, Below v7.heap.size v7 W → W.cell? ⟨bn, 3, none⟩ = some (.int .i64 qz) := fun W h => (HDn.out.b.under h).cell 3 _ rfl
    have HFL := Hid.mk (fun (W : World) (kp : Int) (hb : Below v7.heap.size v7 W) (hkw : (Lit.int .i64 kp).wf = true) => implFall_c [.slice q0 qn0 qc0, .slice q1 qn1 qc1, .slice q2 qn2 qc2, .int .i64 qz] (syncP (appendP (createP m ownN) ownN bs) ownN) kp W (HDn.out.under hb).r hkw HS3.out)
    have HAW := Hid.mk (fun (W : World) (hb : Below v7.heap.size v7 W) => HAT.out W (bthen hB hb))
    go_cut [9] (fun x wc => ∃ (bl : Nat) (l0 l1 l2 : Option Addr) (ln0 lc0 ln1 lc1 ln2 lc2 : Nat) (lz : Int) (kl : Nat), x = .pointer (some ⟨bl, 0, none⟩) ∧ Hid (DB wc bl [.slice l0 ln0 lc0, .slice l1 ln1 lc1, .slice l2 ln2 lc2, .int .i64 lz] (fallP (syncP (appendP (createP m ownN) ownN bs) ownN) (kl : Int))) ∧ v7.heap.size ≤ bl ∧ Below v7.heap.size v7 wc)
    case first =>
      refine wp_region_held_drew (S := fun W => Below v7.heap.size v7 W) (by kernel_rfl) (Below.drew (Below.refl _ _)) (fun hHeld => ?_)
      obtain ⟨wS, hwS⟩ : ∃ wS, wS = v7.drew := ⟨_, rfl⟩
      rw [← hwS] at hHeld ⊢
      clear hwS
      refine tk 0 qab7_3_11_0 (some 56) (v := ?v12) rfl rfl (by kernel_rfl) hHeld (by rfl) (fun _ _ _ x => x) (fun w h => ?y12) ?_; (case y12 => (try dsimp only at h); go_simp; try (with_reducible rfl)); try simp only [Act.put, sa, s0, s1]
      refine tk 1 qab7_3_11_1 (some 57) (v := ?v13) rfl rfl (by kernel_rfl) hHeld (by rfl) (fun _ _ _ x => x) (fun w h => ?y13) ?_; (case y13 => (try dsimp only at h); go_simp; try (with_reducible rfl)); try simp only [Act.put, sa, s0, s1]
      refine wpAnyH_ready (rs := [2, 5]) (by kernel_rfl) (by simp) ?_
      refine (AllReadyH.cons (o := qab7_3_11_2) rfl (fun K hK => ?_) (AllReadyH.cons (o := qab7_3_11_5) rfl (fun K hK => ?_) AllReadyH.nil))
      · go_simp
        refine (HAW.out wS hHeld).mono ?_
        rintro e wE2 ⟨xr, ⟨rfl, hxr⟩, hwE⟩
        have hop2 : Below wS.heap.size wS wE2 := by rw [hwE]; exact Below.refl _ _
        clear hwE
        obtain ⟨kr, ⟨hk1, hk2⟩, hk9⟩ := rem9 xr
        have hkw : (Lit.int .i64 (kr : Int)).wf = true := WalkArith.wf_i64 (by omega)
        go_wp2_with fail
        refine hK.out _ _ (bthen hHeld hop2) (fun hHeld => ?_)
        clear hK K
        try simp only [Act.put, sa, s0, s1]
        refine tk 3 qab7_3_11_3 (some 59) (v := ?v14) rfl rfl (by kernel_rfl) hHeld (by rfl) (fun _ _ _ x => x) (fun w h => ?y14) ?_; (case y14 => (try dsimp only at h); go_simp; try (with_reducible rfl)); try simp only [Act.put, sa, s0, s1]
        refine wpAnyH_ready (rs := [4, 5]) (by kernel_rfl) (by simp) ?_
        refine (AllReadyH.cons (o := qab7_3_11_4) rfl (fun K hK => ?_) (AllReadyH.cons (o := qab7_3_11_5) rfl (fun K hK => ?_) AllReadyH.nil))
        · go_simp
          refine (HFL.out wE2 _ hHeld hkw).mono ?_
          rintro e wE4 ⟨cs4, F4, rfl, ho4, _, _, hop4⟩
          have HR4 := Hid.mk (oDisk_good.read ho4)
          clear ho4
          obtain ⟨l0, ln0, lc0, l1, ln1, lc1, l2, ln2, lc2, lz, hcs⟩ := rdisk_four HR4.out
          subst hcs
          go_wp2_with fail
          refine hK.out _ _ (bthen hHeld hop4) (fun hHeld => ?_)
          clear hK K
          try simp only [Act.put, sa, s0, s1]
          refine wpAnyH_ready (rs := [5]) (by kernel_rfl) (by simp) ?_
          refine (AllReadyH.cons (o := qab7_3_11_5) rfl (fun K hK => ?_) AllReadyH.nil)
          · go_simp
            obtain ⟨wE5, hq5⟩ : ∃ q, q = wE4.alloc (.cells #[.slice none 0 0, .slice none 0 0, .slice none 0 0, .int .i64 0] 27) := ⟨_, rfl⟩
            have hop5 : Below wE4.heap.size wE4 wE5 := by rw [hq5]; exact (Below.refl _ _).alloc (Nat.le_refl _) _
            obtain ⟨bx, HBX⟩ : ∃ z, Hid (z = wE4.heap.size) := ⟨_, Hid.mk rfl⟩
            have HB5 : Hid (Bw wE5 bx 27 [.slice none 0 0, .slice none 0 0, .slice none 0 0, .int .i64 0]) := by unfold Hid; rw [HBX.out, hq5]; exact Bw.new _ _ _
            have HBL : Hid (v7.heap.size ≤ bx) := by unfold Hid; rw [HBX.out]; exact hHeld.size
            rw [← HBX.out]
            rw [← hq5]
            clear hq5
            refine hK.out _ _ (bthen hHeld hop5) (fun hHeld => ?_)
            clear hK K
            try simp only [Act.put, sa, s0, s1]
            refine wpAnyH_ready (rs := [6]) (by kernel_rfl) (by simp) ?_
            refine (AllReadyH.cons (o := qab7_3_11_6) rfl (fun K hK => ?_) AllReadyH.nil)
            · skip
              have hbd := HB5.out.under (show Below wE5.heap.size wE5 wE5 from Below.refl _ _)
              have s0 := hbd.cell 0 _ rfl
              have s1 := hbd.cell 1 _ rfl
              have s2 := hbd.cell 2 _ rfl
              have s3 := hbd.cell 3 _ rfl
              have t0 := hbd.free 0
              have t1 := hbd.free 1
              have t2 := hbd.free 2
              have t3 := hbd.free 3
              have s4 := hbd.lt
              go_simp
              obtain ⟨wE6, hq6⟩ : ∃ q, q = (((wE5.setCell ⟨bx, 0, none⟩ (.slice l0 ln0 lc0)).setCell ⟨bx, 1, none⟩ (.slice l1 ln1 lc1)).setCell ⟨bx, 2, none⟩ (.slice l2 ln2 lc2)).setCell ⟨bx, 3, none⟩ (.int .i64 lz) := ⟨_, rfl⟩
              have hT6 : Turn [bx] wE5 wE6 := by rw [hq6]; exact turn4 _ _ _ _ _ _
              have hs6 : wE6.heap.size = wE5.heap.size := by rw [hq6]; simp
              have HB6 : Hid (Bw wE6 bx 27 [.slice l0 ln0 lc0, .slice l1 ln1 lc1, .slice l2 ln2 lc2, .int .i64 lz]) := by unfold Hid; rw [hq6]; exact Bw.put4 hbd rfl _ _ _ _
              have HR6 : Hid (rDisk wE6.heap.size wE6 [.slice l0 ln0 lc0, .slice l1 ln1 lc1, .slice l2 ln2 lc2, .int .i64 lz] (fallP (syncP (appendP (createP m ownN) ownN bs) ownN) (kr : Int))) := by unfold Hid; rw [hs6]; exact rDisk_turn hbd.dzero hT6 (rDisk_good.mono (rDisk_good.below HR4.out (show Below wE4.heap.size wE4 wE5 from bthen (Below.refl _ _) hop5)) ((show Below wE4.heap.size wE4 wE5 from bthen (Below.refl _ _) hop5)).size)
              rw [← hq6]
              clear hq6 s0 s1 s2 s3 s4 t0 t1 t2 t3 hbd hs6
              refine hK.out _ _ (hHeld.trans (hT6.below (fun k hk => by simp at hk; rw [hk]; exact HBL.out) hHeld.size)) (fun hHeld => ?_)
              clear hK K
              try simp only [Act.put, sa, s0, s1]
              refine wpAnyH_done (by kernel_rfl) ?_ _
              try go_wp2_with fail
              go_meet
              case rel => exact ⟨bx, l0, l1, l2, ln0, lc0, ln1, lc1, ln2, lc2, lz, kr, rfl, ⟨HB6.out, HR6.out⟩, HBL.out, hHeld⟩
        · go_simp
          obtain ⟨wE5, hq5⟩ : ∃ q, q = wE2.alloc (.cells #[.slice none 0 0, .slice none 0 0, .slice none 0 0, .int .i64 0] 27) := ⟨_, rfl⟩
          have hop5 : Below wE2.heap.size wE2 wE5 := by rw [hq5]; exact (Below.refl _ _).alloc (Nat.le_refl _) _
          obtain ⟨bx, HBX⟩ : ∃ z, Hid (z = wE2.heap.size) := ⟨_, Hid.mk rfl⟩
          have HB5 : Hid (Bw wE5 bx 27 [.slice none 0 0, .slice none 0 0, .slice none 0 0, .int .i64 0]) := by unfold Hid; rw [HBX.out, hq5]; exact Bw.new _ _ _
          have HBL : Hid (v7.heap.size ≤ bx) := by unfold Hid; rw [HBX.out]; exact hHeld.size
          rw [← HBX.out]
          rw [← hq5]
          clear hq5
          refine hK.out _ _ (bthen hHeld hop5) (fun hHeld => ?_)
          clear hK K
          try simp only [Act.put, sa, s0, s1]
          refine wpAnyH_ready (rs := [4]) (by kernel_rfl) (by simp) ?_
          refine (AllReadyH.cons (o := qab7_3_11_4) rfl (fun K hK => ?_) AllReadyH.nil)
          · go_simp
            refine (HFL.out wE5 _ hHeld hkw).mono ?_
            rintro e wE4 ⟨cs4, F4, rfl, ho4, _, _, hop4⟩
            have HR4 := Hid.mk (oDisk_good.read ho4)
            clear ho4
            obtain ⟨l0, ln0, lc0, l1, ln1, lc1, l2, ln2, lc2, lz, hcs⟩ := rdisk_four HR4.out
            subst hcs
            go_wp2_with fail
            refine hK.out _ _ (bthen hHeld hop4) (fun hHeld => ?_)
            clear hK K
            try simp only [Act.put, sa, s0, s1]
            refine wpAnyH_ready (rs := [6]) (by kernel_rfl) (by simp) ?_
            refine (AllReadyH.cons (o := qab7_3_11_6) rfl (fun K hK => ?_) AllReadyH.nil)
            · skip
              have hbd := HB5.out.under (show Below wE5.heap.size wE5 wE4 from bthen (Below.refl _ _) hop4)
              have s0 := hbd.cell 0 _ rfl
              have s1 := hbd.cell 1 _ rfl
              have s2 := hbd.cell 2 _ rfl
              have s3 := hbd.cell 3 _ rfl
              have t0 := hbd.free 0
              have t1 := hbd.free 1
              have t2 := hbd.free 2
              have t3 := hbd.free 3
              have s4 := hbd.lt
              go_simp
              obtain ⟨wE6, hq6⟩ : ∃ q, q = (((wE4.setCell ⟨bx, 0, none⟩ (.slice l0 ln0 lc0)).setCell ⟨bx, 1, none⟩ (.slice l1 ln1 lc1)).setCell ⟨bx, 2, none⟩ (.slice l2 ln2 lc2)).setCell ⟨bx, 3, none⟩ (.int .i64 lz) := ⟨_, rfl⟩
              have hT6 : Turn [bx] wE4 wE6 := by rw [hq6]; exact turn4 _ _ _ _ _ _
              have hs6 : wE6.heap.size = wE4.heap.size := by rw [hq6]; simp
              have HB6 : Hid (Bw wE6 bx 27 [.slice l0 ln0 lc0, .slice l1 ln1 lc1, .slice l2 ln2 lc2, .int .i64 lz]) := by unfold Hid; rw [hq6]; exact Bw.put4 hbd rfl _ _ _ _
              have HR6 : Hid (rDisk wE6.heap.size wE6 [.slice l0 ln0 lc0, .slice l1 ln1 lc1, .slice l2 ln2 lc2, .int .i64 lz] (fallP (syncP (appendP (createP m ownN) ownN bs) ownN) (kr : Int))) := by unfold Hid; rw [hs6]; exact rDisk_turn hbd.dzero hT6 (rDisk_good.mono (rDisk_good.below HR4.out (show Below wE4.heap.size wE4 wE4 from Below.refl _ _)) ((show Below wE4.heap.size wE4 wE4 from Below.refl _ _)).size)
              rw [← hq6]
              clear hq6 s0 s1 s2 s3 s4 t0 t1 t2 t3 hbd hs6
              refine hK.out _ _ (hHeld.trans (hT6.below (fun k hk => by simp at hk; rw [hk]; exact HBL.out) hHeld.size)) (fun hHeld => ?_)
              clear hK K
              try simp only [Act.put, sa, s0, s1]
              refine wpAnyH_done (by kernel_rfl) ?_ _
              try go_wp2_with fail
              go_meet
              case rel => exact ⟨bx, l0, l1, l2, ln0, lc0, ln1, lc1, ln2, lc2, lz, kr, rfl, ⟨HB6.out, HR6.out⟩, HBL.out, hHeld⟩
      · go_simp
        obtain ⟨wE5, hq5⟩ : ∃ q, q = wS.alloc (.cells #[.slice none 0 0, .slice none 0 0, .slice none 0 0, .int .i64 0] 27) := ⟨_, rfl⟩
        have hop5 : Below wS.heap.size wS wE5 := by rw [hq5]; exact (Below.refl _ _).alloc (Nat.le_refl _) _
        obtain ⟨bx, HBX⟩ : ∃ z, Hid (z = wS.heap.size) := ⟨_, Hid.mk rfl⟩
        have HB5 : Hid (Bw wE5 bx 27 [.slice none 0 0, .slice none 0 0, .slice none 0 0, .int .i64 0]) := by unfold Hid; rw [HBX.out, hq5]; exact Bw.new _ _ _
        have HBL : Hid (v7.heap.size ≤ bx) := by unfold Hid; rw [HBX.out]; exact hHeld.size
        rw [← HBX.out]
        rw [← hq5]
        clear hq5
        refine hK.out _ _ (bthen hHeld hop5) (fun hHeld => ?_)
        clear hK K
        try simp only [Act.put, sa, s0, s1]
        refine wpAnyH_ready (rs := [2]) (by kernel_rfl) (by simp) ?_
        refine (AllReadyH.cons (o := qab7_3_11_2) rfl (fun K hK => ?_) AllReadyH.nil)
        · go_simp
          refine (HAW.out wE5 hHeld).mono ?_
          rintro e wE2 ⟨xr, ⟨rfl, hxr⟩, hwE⟩
          have hop2 : Below wE5.heap.size wE5 wE2 := by rw [hwE]; exact Below.refl _ _
          clear hwE
          obtain ⟨kr, ⟨hk1, hk2⟩, hk9⟩ := rem9 xr
          have hkw : (Lit.int .i64 (kr : Int)).wf = true := WalkArith.wf_i64 (by omega)
          go_wp2_with fail
          refine hK.out _ _ (bthen hHeld hop2) (fun hHeld => ?_)
          clear hK K
          try simp only [Act.put, sa, s0, s1]
          refine tk 3 qab7_3_11_3 (some 59) (v := ?v15) rfl rfl (by kernel_rfl) hHeld (by rfl) (fun _ _ _ x => x) (fun w h => ?y15) ?_; (case y15 => (try dsimp only at h); go_simp; try (with_reducible rfl)); try simp only [Act.put, sa, s0, s1]
          refine wpAnyH_ready (rs := [4]) (by kernel_rfl) (by simp) ?_
          refine (AllReadyH.cons (o := qab7_3_11_4) rfl (fun K hK => ?_) AllReadyH.nil)
          · go_simp
            refine (HFL.out wE2 _ hHeld hkw).mono ?_
            rintro e wE4 ⟨cs4, F4, rfl, ho4, _, _, hop4⟩
            have HR4 := Hid.mk (oDisk_good.read ho4)
            clear ho4
            obtain ⟨l0, ln0, lc0, l1, ln1, lc1, l2, ln2, lc2, lz, hcs⟩ := rdisk_four HR4.out
            subst hcs
            go_wp2_with fail
            refine hK.out _ _ (bthen hHeld hop4) (fun hHeld => ?_)
            clear hK K
            try simp only [Act.put, sa, s0, s1]
            refine wpAnyH_ready (rs := [6]) (by kernel_rfl) (by simp) ?_
            refine (AllReadyH.cons (o := qab7_3_11_6) rfl (fun K hK => ?_) AllReadyH.nil)
            · skip
              have hbd := HB5.out.under (show Below wE5.heap.size wE5 wE4 from bthen (bthen (Below.refl _ _) hop2) hop4)
              have s0 := hbd.cell 0 _ rfl
              have s1 := hbd.cell 1 _ rfl
              have s2 := hbd.cell 2 _ rfl
              have s3 := hbd.cell 3 _ rfl
              have t0 := hbd.free 0
              have t1 := hbd.free 1
              have t2 := hbd.free 2
              have t3 := hbd.free 3
              have s4 := hbd.lt
              go_simp
              obtain ⟨wE6, hq6⟩ : ∃ q, q = (((wE4.setCell ⟨bx, 0, none⟩ (.slice l0 ln0 lc0)).setCell ⟨bx, 1, none⟩ (.slice l1 ln1 lc1)).setCell ⟨bx, 2, none⟩ (.slice l2 ln2 lc2)).setCell ⟨bx, 3, none⟩ (.int .i64 lz) := ⟨_, rfl⟩
              have hT6 : Turn [bx] wE4 wE6 := by rw [hq6]; exact turn4 _ _ _ _ _ _
              have hs6 : wE6.heap.size = wE4.heap.size := by rw [hq6]; simp
              have HB6 : Hid (Bw wE6 bx 27 [.slice l0 ln0 lc0, .slice l1 ln1 lc1, .slice l2 ln2 lc2, .int .i64 lz]) := by unfold Hid; rw [hq6]; exact Bw.put4 hbd rfl _ _ _ _
              have HR6 : Hid (rDisk wE6.heap.size wE6 [.slice l0 ln0 lc0, .slice l1 ln1 lc1, .slice l2 ln2 lc2, .int .i64 lz] (fallP (syncP (appendP (createP m ownN) ownN bs) ownN) (kr : Int))) := by unfold Hid; rw [hs6]; exact rDisk_turn hbd.dzero hT6 (rDisk_good.mono (rDisk_good.below HR4.out (show Below wE4.heap.size wE4 wE4 from Below.refl _ _)) ((show Below wE4.heap.size wE4 wE4 from Below.refl _ _)).size)
              rw [← hq6]
              clear hq6 s0 s1 s2 s3 s4 t0 t1 t2 t3 hbd hs6
              refine hK.out _ _ (hHeld.trans (hT6.below (fun k hk => by simp at hk; rw [hk]; exact HBL.out) hHeld.size)) (fun hHeld => ?_)
              clear hK K
              try simp only [Act.put, sa, s0, s1]
              refine wpAnyH_done (by kernel_rfl) ?_ _
              try go_wp2_with fail
              go_meet
              case rel => exact ⟨bx, l0, l1, l2, ln0, lc0, ln1, lc1, ln2, lc2, lz, kr, rfl, ⟨HB6.out, HR6.out⟩, HBL.out, hHeld⟩
    case rest =>
      obtain ⟨bl, l0, l1, l2, ln0, lc0, ln1, lc1, ln2, lc2, lz, kl, rfl, HDl, hbl, hxc⟩ := hcut
      generalize wc = cv7 at *
      have hbnl : bn ≠ bl := by have := HDn.out.b.lt; omega
      clear HFL HAW y0 y1 y2 y3
      replace HDn := Hid.mk (HDn.out.under hxc)
      replace HYb := Hid.mk (rdB.under HYb.out hxc)
      replace hB := bthen hB hxc
      clear hxc hbl
      have HSL : Hid (wDisk (fallP (syncP (appendP (createP m ownN) ownN bs) ownN) (kl : Int)) ≤ 1048576) := small_fall HS3.out
      have HFl := Hid.mk (HF1.out [] (kl : Int) (by omega))
      have y0 := HDl.out.b.cell 0 _ rfl
      have y1 := HDl.out.b.cell 1 _ rfl
      have y2 := HDl.out.b.cell 2 _ rfl
      have y3 := HDl.out.b.cell 3 _ rfl
      go_wp2_with fail
      clear y0 y1 y2 y3
      refine (implBytes_c _ (fallP (syncP (appendP (createP m ownN) ownN bs) ownN) (kl : Int)) ownN cv7 HDl.out.r hs2 HSL.out hs1).mono ?_
      rintro e w8 ⟨vt, Ft, rfl, hot, _, _, hx⟩
      obtain ⟨at_, ct, hvt⟩ := own_slice hot.1
      subst hvt
      clear hot
      rw [decide_eq_false HFl.out.lost]
      generalize (bytesP (fallP (syncP (appendP (createP m ownN) ownN bs) ownN) (kl : Int)) ownN).length = nt
      replace HDn := Hid.mk (HDn.out.under hx)
      replace HDl := Hid.mk (HDl.out.under hx)
      replace HYb := Hid.mk (rdB.under HYb.out hx)
      replace hB := bthen hB hx
      clear hx
      have y0 := HDn.out.b.cell 0 _ rfl
      have y1 := HDn.out.b.cell 1 _ rfl
      have y2 := HDn.out.b.cell 2 _ rfl
      have y3 := HDn.out.b.cell 3 _ rfl
      go_wp2_with fail
      clear y0 y1 y2 y3
      refine (implSyncDir_c _ (syncP (appendP (createP m ownN) ownN bs) ownN) w8 HDn.out.r HS3.out).mono ?_
      rintro e w9 ⟨cs9, F9, rfl, ho9, _, _, hx⟩
      have HR := Hid.mk (oDisk_good.read ho9)
      obtain ⟨r0, rn0, rc0, r1, rn1, rc1, r2, rn2, rc2, rz, hcs⟩ := rdisk_four HR.out
      subst hcs
      clear ho9
      generalize syncDirC (syncP (appendP (createP m ownN) ownN bs) ownN) = dc
      have hp := DB.put HDn.out hx HR.out
      have hbo := (HDn.out.under hx).b
      have hbx := (HDn.out.under hx).box
      have hOl := HDl.out.under hx
      have hOy := rdB.under HYb.out hx
      have hBo := bthen hB hx
      have f0 := hbo.free 0
      have f1 := hbo.free 1
      have f2 := hbo.free 2
      have f3 := hbo.free 3
      have o0 := hbo.cell 0 _ rfl
      have o1 := hbo.cell 1 _ rfl
      have o2 := hbo.cell 2 _ rfl
      have o3 := hbo.cell 3 _ rfl
      have lo := hbo.lt
      obtain ⟨v9, hW⟩ : ∃ x, x = (((w9.setCell ⟨bn, 0, none⟩ (.slice r0 rn0 rc0)).setCell ⟨bn, 1, none⟩ (.slice r1 rn1 rc1)).setCell ⟨bn, 2, none⟩ (.slice r2 rn2 rc2)).setCell ⟨bn, 3, none⟩ (.int .i64 rz) := ⟨_, rfl⟩
      have hT : Turn [bn] w9 v9 := by rw [hW]; exact turn4 _ _ _ _ _ _
      have hz : v9.heap.size = w9.heap.size := by rw [hW]; simp
      rw [← hW] at hp
      replace HDn := Hid.mk hp
      replace HDl := Hid.mk (hOl.turn hbx hT hz (fun h => hbnl h.symm))
      replace HYb := Hid.mk (rdB.turn hOy hbx hT hz)
      replace hB : Below w.heap.size w v9 := hBo.trans (hT.below (fun k hk => by simp at hk; omega) hBo.size)
      clear hp hbo hbx hOy hBo hT hz hx HR hOl
      have HWW := Hid.mk hW
      clear hW
      obtain ⟨w10, hq10⟩ : ∃ x, x = v9.alloc (.cells #[.int .u8 1, .int .u8 2, .int .u8 3] 5) := ⟨_, rfl⟩
      have hx10 : Below v9.heap.size v9 w10 := by rw [hq10]; exact (Below.refl _ _).alloc (Nat.le_refl _) _
      have hz9 : v9.heap.size = w9.heap.size := by rw [HWW.out]; simp
      have HY3 : Hid (rdB w10.heap.size w10 (.slice (some ⟨w9.heap.size, 0, none⟩) 3 3) [1, 2, 3]) := by
        refine ⟨_, 3, rfl, Nat.le_refl _, by omega, ?_, by intro z hz; simp at hz; omega⟩
        have h := rd_lit .u8 v9 [1, 2, 3] 5
        rw [hz9] at h
        rw [hq10]
        exact h.mono (by simp; omega)
      clear hz9
      have HW10 := Hid.mk hq10
      clear hq10
      have y0 := HDn.out.b.cell 0 _ rfl
      have y1 := HDn.out.b.cell 1 _ rfl
      have y2 := HDn.out.b.cell 2 _ rfl
      have y3 := HDn.out.b.cell 3 _ rfl
      rw [HWW.out] at y0 y1 y2 y3
      go_wp2_with fail
      clear y0 y1 y2 y3
      rw [← HWW.out]
      rw [← HW10.out]
      have hsz9 : Hid (True) := trivial
      clear HWW HW10 f0 f1 f2 f3 o0 o1 o2 o3 lo
      skip
      replace HDn := Hid.mk (HDn.out.under hx10)
      replace HDl := Hid.mk (HDl.out.under hx10)
      replace HYb := Hid.mk (rdB.under HYb.out hx10)
      replace hB := bthen hB hx10
      clear hx10
      refine (implAppend_c _ (syncDirP (syncP (appendP (createP m ownN) ownN bs) ownN)) ownN _ [1, 2, 3] w10 HDn.out.r hs2 HY3.out HS4.out hs1 (by decide)).mono ?_
      rintro e w11 ⟨cs11, F11, rfl, ho11, _, _, hx⟩
      have HR := Hid.mk (oDisk_good.read ho11)
      obtain ⟨s0, sn0, sc0, s1, sn1, sc1, s2, sn2, sc2, sz, hcs⟩ := rdisk_four HR.out
      subst hcs
      clear ho11 HY3
      generalize appendC (syncDirP (syncP (appendP (createP m ownN) ownN bs) ownN)) ownN [1, 2, 3] = ad
      have hp := DB.put HDn.out hx HR.out
      have hbo := (HDn.out.under hx).b
      have hbx := (HDn.out.under hx).box
      have hOl := HDl.out.under hx
      have hOy := rdB.under HYb.out hx
      have hBo := bthen hB hx
      have f0 := hbo.free 0
      have f1 := hbo.free 1
      have f2 := hbo.free 2
      have f3 := hbo.free 3
      have o0 := hbo.cell 0 _ rfl
      have o1 := hbo.cell 1 _ rfl
      have o2 := hbo.cell 2 _ rfl
      have o3 := hbo.cell 3 _ rfl
      have lo := hbo.lt
      obtain ⟨v11, hW⟩ : ∃ x, x = (((w11.setCell ⟨bn, 0, none⟩ (.slice s0 sn0 sc0)).setCell ⟨bn, 1, none⟩ (.slice s1 sn1 sc1)).setCell ⟨bn, 2, none⟩ (.slice s2 sn2 sc2)).setCell ⟨bn, 3, none⟩ (.int .i64 sz) := ⟨_, rfl⟩
      have hT : Turn [bn] w11 v11 := by rw [hW]; exact turn4 _ _ _ _ _ _
      have hz : v11.heap.size = w11.heap.size := by rw [hW]; simp
      rw [← hW] at hp
      replace HDn := Hid.mk hp
      replace HDl := Hid.mk (hOl.turn hbx hT hz (fun h => hbnl h.symm))
      replace HYb := Hid.mk (rdB.turn hOy hbx hT hz)
      replace hB : Below w.heap.size w v11 := hBo.trans (hT.below (fun k hk => by simp at hk; omega) hBo.size)
      clear hp hbo hbx hOy hBo hT hz hx HR hOl
      have HWW := Hid.mk hW
      clear hW
      have y0 := HDn.out.b.cell 0 _ rfl
      have y1 := HDn.out.b.cell 1 _ rfl
      have y2 := HDn.out.b.cell 2 _ rfl
      have y3 := HDn.out.b.cell 3 _ rfl
      rw [HWW.out] at y0 y1 y2 y3
      go_wp2_with fail
      rw [← HWW.out]
      clear HWW f0 f1 f2 f3 o0 o1 o2 o3 lo
      clear y0 y1 y2 y3
      have y0 : ∀ W, Below v11.heap.size v11 W → W.cell? ⟨bn, 0, none⟩ = some (.slice s0 sn0 sc0) := fun W h => (HDn.out.b.under h).cell 0 _ rfl
      have y1 : ∀ W, Below v11.heap.size v11 W → W.cell? ⟨bn, 1, none⟩ = some (.slice s1 sn1 sc1) := fun W h => (HDn.out.b.under h).cell 1 _ rfl
      have y2 : ∀ W, Below v11.heap.size v11 W → W.cell? ⟨bn, 2, none⟩ = some (.slice s2 sn2 sc2) := fun W h => (HDn.out.b.under h).cell 2 _ rfl
      have y3 : ∀ W, Below v11.heap.size v11 W → W.cell? ⟨bn, 3, none⟩ = some (.int .i64 sz) := fun W h => (HDn.out.b.under h).cell 3 _ rfl
      have HFL := Hid.mk (fun (W : World) (kp : Int) (hb : Below v11.heap.size v11 W) (hkw : (Lit.int .i64 kp).wf = true) => implFall_c [.slice s0 sn0 sc0, .slice s1 sn1 sc1, .slice s2 sn2 sc2, .int .i64 sz] (appendP (syncDirP (syncP (appendP (createP m ownN) ownN bs) ownN)) ownN [1, 2, 3]) kp W (HDn.out.under hb).r hkw HS5.out)
      have HAW := Hid.mk (fun (W : World) (hb : Below v11.heap.size v11 W) => HAT.out W (bthen hB hb))
      go_cut [12] (fun x wc => ∃ (bk : Nat) (k0 k1 k2 : Option Addr) (kn0 kc0 kn1 kc1 kn2 kc2 : Nat) (kz : Int) (kk : Nat), x = .pointer (some ⟨bk, 0, none⟩) ∧ Hid (DB wc bk [.slice k0 kn0 kc0, .slice k1 kn1 kc1, .slice k2 kn2 kc2, .int .i64 kz] (fallP (appendP (syncDirP (syncP (appendP (createP m ownN) ownN bs) ownN)) ownN [1, 2, 3]) (kk : Int))) ∧ v11.heap.size ≤ bk ∧ Below v11.heap.size v11 wc)
      case first =>
        refine wp_region_held_drew (S := fun W => Below v11.heap.size v11 W) (by kernel_rfl) (Below.drew (Below.refl _ _)) (fun hHeld => ?_)
        obtain ⟨wS, hwS⟩ : ∃ wS, wS = v11.drew := ⟨_, rfl⟩
        rw [← hwS] at hHeld ⊢
        clear hwS
        refine tk 0 qab7_3_15_0 (some 77) (v := ?v16) rfl rfl (by kernel_rfl) hHeld (by rfl) (fun _ _ _ x => x) (fun w h => ?y16) ?_; (case y16 => (try dsimp only at h); go_simp; try (with_reducible rfl)); try simp only [Act.put, sa, s0, s1]
        refine tk 1 qab7_3_15_1 (some 78) (v := ?v17) rfl rfl (by kernel_rfl) hHeld (by rfl) (fun _ _ _ x => x) (fun w h => ?y17) ?_; (case y17 => (try dsimp only at h); go_simp; try (with_reducible rfl)); try simp only [Act.put, sa, s0, s1]
        refine wpAnyH_ready (rs := [2, 5]) (by kernel_rfl) (by simp) ?_
        refine (AllReadyH.cons (o := qab7_3_15_2) rfl (fun K hK => ?_) (AllReadyH.cons (o := qab7_3_15_5) rfl (fun K hK => ?_) AllReadyH.nil))
        · go_simp
          refine (HAW.out wS hHeld).mono ?_
          rintro e wE2 ⟨xr, ⟨rfl, hxr⟩, hwE⟩
          have hop2 : Below wS.heap.size wS wE2 := by rw [hwE]; exact Below.refl _ _
          clear hwE
          obtain ⟨kr, ⟨hk1, hk2⟩, hk9⟩ := rem9 xr
          have hkw : (Lit.int .i64 (kr : Int)).wf = true := WalkArith.wf_i64 (by omega)
          go_wp2_with fail
          refine hK.out _ _ (bthen hHeld hop2) (fun hHeld => ?_)
          clear hK K
          try simp only [Act.put, sa, s0, s1]
          refine tk 3 qab7_3_15_3 (some 80) (v := ?v18) rfl rfl (by kernel_rfl) hHeld (by rfl) (fun _ _ _ x => x) (fun w h => ?y18) ?_; (case y18 => (try dsimp only at h); go_simp; try (with_reducible rfl)); try simp only [Act.put, sa, s0, s1]
          refine wpAnyH_ready (rs := [4, 5]) (by kernel_rfl) (by simp) ?_
          refine (AllReadyH.cons (o := qab7_3_15_4) rfl (fun K hK => ?_) (AllReadyH.cons (o := qab7_3_15_5) rfl (fun K hK => ?_) AllReadyH.nil))
          · go_simp
            refine (HFL.out wE2 _ hHeld hkw).mono ?_
            rintro e wE4 ⟨cs4, F4, rfl, ho4, _, _, hop4⟩
            have HR4 := Hid.mk (oDisk_good.read ho4)
            clear ho4
            obtain ⟨k0, kn0, kc0, k1, kn1, kc1, k2, kn2, kc2, kz, hcs⟩ := rdisk_four HR4.out
            subst hcs
            go_wp2_with fail
            refine hK.out _ _ (bthen hHeld hop4) (fun hHeld => ?_)
            clear hK K
            try simp only [Act.put, sa, s0, s1]
            refine wpAnyH_ready (rs := [5]) (by kernel_rfl) (by simp) ?_
            refine (AllReadyH.cons (o := qab7_3_15_5) rfl (fun K hK => ?_) AllReadyH.nil)
            · go_simp
              obtain ⟨wE5, hq5⟩ : ∃ q, q = wE4.alloc (.cells #[.slice none 0 0, .slice none 0 0, .slice none 0 0, .int .i64 0] 27) := ⟨_, rfl⟩
              have hop5 : Below wE4.heap.size wE4 wE5 := by rw [hq5]; exact (Below.refl _ _).alloc (Nat.le_refl _) _
              obtain ⟨bx, HBX⟩ : ∃ z, Hid (z = wE4.heap.size) := ⟨_, Hid.mk rfl⟩
              have HB5 : Hid (Bw wE5 bx 27 [.slice none 0 0, .slice none 0 0, .slice none 0 0, .int .i64 0]) := by unfold Hid; rw [HBX.out, hq5]; exact Bw.new _ _ _
              have HBL : Hid (v11.heap.size ≤ bx) := by unfold Hid; rw [HBX.out]; exact hHeld.size
              rw [← HBX.out]
              rw [← hq5]
              clear hq5
              refine hK.out _ _ (bthen hHeld hop5) (fun hHeld => ?_)
              clear hK K
              try simp only [Act.put, sa, s0, s1]
              refine wpAnyH_ready (rs := [6]) (by kernel_rfl) (by simp) ?_
              refine (AllReadyH.cons (o := qab7_3_15_6) rfl (fun K hK => ?_) AllReadyH.nil)
              · skip
                have hbd := HB5.out.under (show Below wE5.heap.size wE5 wE5 from Below.refl _ _)
                have s0 := hbd.cell 0 _ rfl
                have s1 := hbd.cell 1 _ rfl
                have s2 := hbd.cell 2 _ rfl
                have s3 := hbd.cell 3 _ rfl
                have t0 := hbd.free 0
                have t1 := hbd.free 1
                have t2 := hbd.free 2
                have t3 := hbd.free 3
                have s4 := hbd.lt
                go_simp
                obtain ⟨wE6, hq6⟩ : ∃ q, q = (((wE5.setCell ⟨bx, 0, none⟩ (.slice k0 kn0 kc0)).setCell ⟨bx, 1, none⟩ (.slice k1 kn1 kc1)).setCell ⟨bx, 2, none⟩ (.slice k2 kn2 kc2)).setCell ⟨bx, 3, none⟩ (.int .i64 kz) := ⟨_, rfl⟩
                have hT6 : Turn [bx] wE5 wE6 := by rw [hq6]; exact turn4 _ _ _ _ _ _
                have hs6 : wE6.heap.size = wE5.heap.size := by rw [hq6]; simp
                have HB6 : Hid (Bw wE6 bx 27 [.slice k0 kn0 kc0, .slice k1 kn1 kc1, .slice k2 kn2 kc2, .int .i64 kz]) := by unfold Hid; rw [hq6]; exact Bw.put4 hbd rfl _ _ _ _
                have HR6 : Hid (rDisk wE6.heap.size wE6 [.slice k0 kn0 kc0, .slice k1 kn1 kc1, .slice k2 kn2 kc2, .int .i64 kz] (fallP (appendP (syncDirP (syncP (appendP (createP m ownN) ownN bs) ownN)) ownN [1, 2, 3]) (kr : Int))) := by unfold Hid; rw [hs6]; exact rDisk_turn hbd.dzero hT6 (rDisk_good.mono (rDisk_good.below HR4.out (show Below wE4.heap.size wE4 wE5 from bthen (Below.refl _ _) hop5)) ((show Below wE4.heap.size wE4 wE5 from bthen (Below.refl _ _) hop5)).size)
                rw [← hq6]
                clear hq6 s0 s1 s2 s3 s4 t0 t1 t2 t3 hbd hs6
                refine hK.out _ _ (hHeld.trans (hT6.below (fun k hk => by simp at hk; rw [hk]; exact HBL.out) hHeld.size)) (fun hHeld => ?_)
                clear hK K
                try simp only [Act.put, sa, s0, s1]
                refine wpAnyH_done (by kernel_rfl) ?_ _
                try go_wp2_with fail
                go_meet
                case rel => exact ⟨bx, k0, k1, k2, kn0, kc0, kn1, kc1, kn2, kc2, kz, kr, rfl, ⟨HB6.out, HR6.out⟩, HBL.out, hHeld⟩
          · go_simp
            obtain ⟨wE5, hq5⟩ : ∃ q, q = wE2.alloc (.cells #[.slice none 0 0, .slice none 0 0, .slice none 0 0, .int .i64 0] 27) := ⟨_, rfl⟩
            have hop5 : Below wE2.heap.size wE2 wE5 := by rw [hq5]; exact (Below.refl _ _).alloc (Nat.le_refl _) _
            obtain ⟨bx, HBX⟩ : ∃ z, Hid (z = wE2.heap.size) := ⟨_, Hid.mk rfl⟩
            have HB5 : Hid (Bw wE5 bx 27 [.slice none 0 0, .slice none 0 0, .slice none 0 0, .int .i64 0]) := by unfold Hid; rw [HBX.out, hq5]; exact Bw.new _ _ _
            have HBL : Hid (v11.heap.size ≤ bx) := by unfold Hid; rw [HBX.out]; exact hHeld.size
            rw [← HBX.out]
            rw [← hq5]
            clear hq5
            refine hK.out _ _ (bthen hHeld hop5) (fun hHeld => ?_)
            clear hK K
            try simp only [Act.put, sa, s0, s1]
            refine wpAnyH_ready (rs := [4]) (by kernel_rfl) (by simp) ?_
            refine (AllReadyH.cons (o := qab7_3_15_4) rfl (fun K hK => ?_) AllReadyH.nil)
            · go_simp
              refine (HFL.out wE5 _ hHeld hkw).mono ?_
              rintro e wE4 ⟨cs4, F4, rfl, ho4, _, _, hop4⟩
              have HR4 := Hid.mk (oDisk_good.read ho4)
              clear ho4
              obtain ⟨k0, kn0, kc0, k1, kn1, kc1, k2, kn2, kc2, kz, hcs⟩ := rdisk_four HR4.out
              subst hcs
              go_wp2_with fail
              refine hK.out _ _ (bthen hHeld hop4) (fun hHeld => ?_)
              clear hK K
              try simp only [Act.put, sa, s0, s1]
              refine wpAnyH_ready (rs := [6]) (by kernel_rfl) (by simp) ?_
              refine (AllReadyH.cons (o := qab7_3_15_6) rfl (fun K hK => ?_) AllReadyH.nil)
              · skip
                have hbd := HB5.out.under (show Below wE5.heap.size wE5 wE4 from bthen (Below.refl _ _) hop4)
                have s0 := hbd.cell 0 _ rfl
                have s1 := hbd.cell 1 _ rfl
                have s2 := hbd.cell 2 _ rfl
                have s3 := hbd.cell 3 _ rfl
                have t0 := hbd.free 0
                have t1 := hbd.free 1
                have t2 := hbd.free 2
                have t3 := hbd.free 3
                have s4 := hbd.lt
                go_simp
                obtain ⟨wE6, hq6⟩ : ∃ q, q = (((wE4.setCell ⟨bx, 0, none⟩ (.slice k0 kn0 kc0)).setCell ⟨bx, 1, none⟩ (.slice k1 kn1 kc1)).setCell ⟨bx, 2, none⟩ (.slice k2 kn2 kc2)).setCell ⟨bx, 3, none⟩ (.int .i64 kz) := ⟨_, rfl⟩
                have hT6 : Turn [bx] wE4 wE6 := by rw [hq6]; exact turn4 _ _ _ _ _ _
                have hs6 : wE6.heap.size = wE4.heap.size := by rw [hq6]; simp
                have HB6 : Hid (Bw wE6 bx 27 [.slice k0 kn0 kc0, .slice k1 kn1 kc1, .slice k2 kn2 kc2, .int .i64 kz]) := by unfold Hid; rw [hq6]; exact Bw.put4 hbd rfl _ _ _ _
                have HR6 : Hid (rDisk wE6.heap.size wE6 [.slice k0 kn0 kc0, .slice k1 kn1 kc1, .slice k2 kn2 kc2, .int .i64 kz] (fallP (appendP (syncDirP (syncP (appendP (createP m ownN) ownN bs) ownN)) ownN [1, 2, 3]) (kr : Int))) := by unfold Hid; rw [hs6]; exact rDisk_turn hbd.dzero hT6 (rDisk_good.mono (rDisk_good.below HR4.out (show Below wE4.heap.size wE4 wE4 from Below.refl _ _)) ((show Below wE4.heap.size wE4 wE4 from Below.refl _ _)).size)
                rw [← hq6]
                clear hq6 s0 s1 s2 s3 s4 t0 t1 t2 t3 hbd hs6
                refine hK.out _ _ (hHeld.trans (hT6.below (fun k hk => by simp at hk; rw [hk]; exact HBL.out) hHeld.size)) (fun hHeld => ?_)
                clear hK K
                try simp only [Act.put, sa, s0, s1]
                refine wpAnyH_done (by kernel_rfl) ?_ _
                try go_wp2_with fail
                go_meet
                case rel => exact ⟨bx, k0, k1, k2, kn0, kc0, kn1, kc1, kn2, kc2, kz, kr, rfl, ⟨HB6.out, HR6.out⟩, HBL.out, hHeld⟩
        · go_simp
          obtain ⟨wE5, hq5⟩ : ∃ q, q = wS.alloc (.cells #[.slice none 0 0, .slice none 0 0, .slice none 0 0, .int .i64 0] 27) := ⟨_, rfl⟩
          have hop5 : Below wS.heap.size wS wE5 := by rw [hq5]; exact (Below.refl _ _).alloc (Nat.le_refl _) _
          obtain ⟨bx, HBX⟩ : ∃ z, Hid (z = wS.heap.size) := ⟨_, Hid.mk rfl⟩
          have HB5 : Hid (Bw wE5 bx 27 [.slice none 0 0, .slice none 0 0, .slice none 0 0, .int .i64 0]) := by unfold Hid; rw [HBX.out, hq5]; exact Bw.new _ _ _
          have HBL : Hid (v11.heap.size ≤ bx) := by unfold Hid; rw [HBX.out]; exact hHeld.size
          rw [← HBX.out]
          rw [← hq5]
          clear hq5
          refine hK.out _ _ (bthen hHeld hop5) (fun hHeld => ?_)
          clear hK K
          try simp only [Act.put, sa, s0, s1]
          refine wpAnyH_ready (rs := [2]) (by kernel_rfl) (by simp) ?_
          refine (AllReadyH.cons (o := qab7_3_15_2) rfl (fun K hK => ?_) AllReadyH.nil)
          · go_simp
            refine (HAW.out wE5 hHeld).mono ?_
            rintro e wE2 ⟨xr, ⟨rfl, hxr⟩, hwE⟩
            have hop2 : Below wE5.heap.size wE5 wE2 := by rw [hwE]; exact Below.refl _ _
            clear hwE
            obtain ⟨kr, ⟨hk1, hk2⟩, hk9⟩ := rem9 xr
            have hkw : (Lit.int .i64 (kr : Int)).wf = true := WalkArith.wf_i64 (by omega)
            go_wp2_with fail
            refine hK.out _ _ (bthen hHeld hop2) (fun hHeld => ?_)
            clear hK K
            try simp only [Act.put, sa, s0, s1]
            refine tk 3 qab7_3_15_3 (some 80) (v := ?v19) rfl rfl (by kernel_rfl) hHeld (by rfl) (fun _ _ _ x => x) (fun w h => ?y19) ?_; (case y19 => (try dsimp only at h); go_simp; try (with_reducible rfl)); try simp only [Act.put, sa, s0, s1]
            refine wpAnyH_ready (rs := [4]) (by kernel_rfl) (by simp) ?_
            refine (AllReadyH.cons (o := qab7_3_15_4) rfl (fun K hK => ?_) AllReadyH.nil)
            · go_simp
              refine (HFL.out wE2 _ hHeld hkw).mono ?_
              rintro e wE4 ⟨cs4, F4, rfl, ho4, _, _, hop4⟩
              have HR4 := Hid.mk (oDisk_good.read ho4)
              clear ho4
              obtain ⟨k0, kn0, kc0, k1, kn1, kc1, k2, kn2, kc2, kz, hcs⟩ := rdisk_four HR4.out
              subst hcs
              go_wp2_with fail
              refine hK.out _ _ (bthen hHeld hop4) (fun hHeld => ?_)
              clear hK K
              try simp only [Act.put, sa, s0, s1]
              refine wpAnyH_ready (rs := [6]) (by kernel_rfl) (by simp) ?_
              refine (AllReadyH.cons (o := qab7_3_15_6) rfl (fun K hK => ?_) AllReadyH.nil)
              · skip
                have hbd := HB5.out.under (show Below wE5.heap.size wE5 wE4 from bthen (bthen (Below.refl _ _) hop2) hop4)
                have s0 := hbd.cell 0 _ rfl
                have s1 := hbd.cell 1 _ rfl
                have s2 := hbd.cell 2 _ rfl
                have s3 := hbd.cell 3 _ rfl
                have t0 := hbd.free 0
                have t1 := hbd.free 1
                have t2 := hbd.free 2
                have t3 := hbd.free 3
                have s4 := hbd.lt
                go_simp
                obtain ⟨wE6, hq6⟩ : ∃ q, q = (((wE4.setCell ⟨bx, 0, none⟩ (.slice k0 kn0 kc0)).setCell ⟨bx, 1, none⟩ (.slice k1 kn1 kc1)).setCell ⟨bx, 2, none⟩ (.slice k2 kn2 kc2)).setCell ⟨bx, 3, none⟩ (.int .i64 kz) := ⟨_, rfl⟩
                have hT6 : Turn [bx] wE4 wE6 := by rw [hq6]; exact turn4 _ _ _ _ _ _
                have hs6 : wE6.heap.size = wE4.heap.size := by rw [hq6]; simp
                have HB6 : Hid (Bw wE6 bx 27 [.slice k0 kn0 kc0, .slice k1 kn1 kc1, .slice k2 kn2 kc2, .int .i64 kz]) := by unfold Hid; rw [hq6]; exact Bw.put4 hbd rfl _ _ _ _
                have HR6 : Hid (rDisk wE6.heap.size wE6 [.slice k0 kn0 kc0, .slice k1 kn1 kc1, .slice k2 kn2 kc2, .int .i64 kz] (fallP (appendP (syncDirP (syncP (appendP (createP m ownN) ownN bs) ownN)) ownN [1, 2, 3]) (kr : Int))) := by unfold Hid; rw [hs6]; exact rDisk_turn hbd.dzero hT6 (rDisk_good.mono (rDisk_good.below HR4.out (show Below wE4.heap.size wE4 wE4 from Below.refl _ _)) ((show Below wE4.heap.size wE4 wE4 from Below.refl _ _)).size)
                rw [← hq6]
                clear hq6 s0 s1 s2 s3 s4 t0 t1 t2 t3 hbd hs6
                refine hK.out _ _ (hHeld.trans (hT6.below (fun k hk => by simp at hk; rw [hk]; exact HBL.out) hHeld.size)) (fun hHeld => ?_)
                clear hK K
                try simp only [Act.put, sa, s0, s1]
                refine wpAnyH_done (by kernel_rfl) ?_ _
                try go_wp2_with fail
                go_meet
                case rel => exact ⟨bx, k0, k1, k2, kn0, kc0, kn1, kc1, kn2, kc2, kz, kr, rfl, ⟨HB6.out, HR6.out⟩, HBL.out, hHeld⟩
      case rest =>
        obtain ⟨bk, k0, k1, k2, kn0, kc0, kn1, kc1, kn2, kc2, kz, kk, rfl, HDk, hbk, hxc⟩ := hcut
        generalize wc = cv11 at *
        have hbnk : bn ≠ bk := by have := HDn.out.b.lt; omega
        clear HFL HAW y0 y1 y2 y3
        replace HDn := Hid.mk (HDn.out.under hxc)
        replace HDl := Hid.mk (HDl.out.under hxc)
        replace HYb := Hid.mk (rdB.under HYb.out hxc)
        replace hB := bthen hB hxc
        clear hxc hbk
        have HSK : Hid (wDisk (fallP (appendP (syncDirP (syncP (appendP (createP m ownN) ownN bs) ownN)) ownN [1, 2, 3]) (kk : Int)) ≤ 1048576) := small_fall HS5.out
        have HFk := Hid.mk (HF1.out [1, 2, 3] (kk : Int) (by omega))
        have y0 := HDk.out.b.cell 0 _ rfl
        have y1 := HDk.out.b.cell 1 _ rfl
        have y2 := HDk.out.b.cell 2 _ rfl
        have y3 := HDk.out.b.cell 3 _ rfl
        go_wp2_with fail
        clear y0 y1 y2 y3
        refine (implBytes_c _ (fallP (appendP (syncDirP (syncP (appendP (createP m ownN) ownN bs) ownN)) ownN [1, 2, 3]) (kk : Int)) ownN cv11 HDk.out.r hs2 HSK.out hs1).mono ?_
        rintro e w12 ⟨vk, Fk, rfl, hok, _, _, hx⟩
        obtain ⟨ak, ck, hvk, hlk⟩ := ownB.read hok
        subst hvk
        clear hok
        have HLK := Hid.mk hlk
        have hlen := HFk.out.len
        rw [← HNB.out] at hlen
        have hnk : (bytesP (fallP (appendP (syncDirP (syncP (appendP (createP m ownN) ownN bs) ownN)) ownN [1, 2, 3]) (kk : Int)) ownN).length ≤ 9223372036854775807 := Nat.le_trans hlk.1 hlk.2.1
        have hckk := hlk.1
        have hck2 := hlk.2.1
        have HTK : Hid (Rd .u8 w12.heap.size w12 ak bs) := by
          have h := Rd.take_ HLK.out.2.2.1 nb
          rw [HNB.out, HFk.out.take] at h
          exact h
        rw [decide_eq_true HFk.out.kept]
        generalize (bytesP (fallP (appendP (syncDirP (syncP (appendP (createP m ownN) ownN bs) ownN)) ownN [1, 2, 3]) (kk : Int)) ownN).length = nk at *
        clear hlk HLK
        replace HDk := Hid.mk (HDk.out.under hx)
        replace HDl := Hid.mk (HDl.out.under hx)
        replace HYb := Hid.mk (rdB.under HYb.out hx)
        replace hB := bthen hB hx
        clear hx HDn
        have hnn : (nb : Int) ≤ (nk : Int) := by omega
        have hcc2 : (nb : Int) ≤ (ck : Int) := by omega
        go_wp2_with fail
        refine (sameBytes_yes ak ab nb _ cb bs w12 w12.heap.size HNB.out.symm (by omega) HTK.out (by obtain ⟨_, _, h1, h2⟩ := HYb.out; injection h1 with h3 _ _; rw [h3]; exact h2.2.2.1)).mono ?_
        rintro e w13 ⟨rfl, dd, hw13⟩
        have hx : Below w12.heap.size w12 w13 := by rw [hw13]; exact below_drewN _ _
        clear hw13
        replace HDk := Hid.mk (HDk.out.under hx)
        replace HDl := Hid.mk (HDl.out.under hx)
        replace hB := bthen hB hx
        clear hx HYb HTK
        have y0 := HDk.out.b.cell 0 _ rfl
        have y1 := HDk.out.b.cell 1 _ rfl
        have y2 := HDk.out.b.cell 2 _ rfl
        have y3 := HDk.out.b.cell 3 _ rfl
        go_wp2_with fail
        clear y0 y1 y2 y3
        refine (implDiskOk_c _ _ w13 HDk.out.r HSK.out).mono ?_
        rintro e w14 ⟨rfl, hx⟩
        rw [HFk.out.keptOk]
        replace HDl := Hid.mk (HDl.out.under hx)
        replace hB := bthen hB hx
        clear hx HDk
        have y0 := HDl.out.b.cell 0 _ rfl
        have y1 := HDl.out.b.cell 1 _ rfl
        have y2 := HDl.out.b.cell 2 _ rfl
        have y3 := HDl.out.b.cell 3 _ rfl
        go_wp2_with fail
        clear y0 y1 y2 y3
        refine (implDiskOk_c _ _ w14 HDl.out.r HSL.out).mono ?_
        rintro e w15 ⟨rfl, hx⟩
        rw [HFl.out.lostOk]
        replace hB := bthen hB hx
        go_wp2_with fail
        go_ret
        exact ⟨rfl, hB⟩
  · have hcn : createC m ownN ≠ 0 := by rw [HCC.out]; exact hc
    have HLN := Hid.mk (list_same hcn)
    rw [HLN.out] at HR
    clear hcn
    have y0 := fun o => (HDd.out.b.alloc o).cell 0 _ rfl
    have y1 := fun o => (HDd.out.b.alloc o).cell 1 _ rfl
    have y2 := fun o => (HDd.out.b.alloc o).cell 2 _ rfl
    have y3 := fun o => (HDd.out.b.alloc o).cell 3 _ rfl
    go_wp2_with fail
    clear y0 y1 y2 y3
    obtain ⟨w5, hq⟩ : ∃ x, x = w4.alloc (.cells #[.slice n0 nn0 nc0, .slice n1 nn1 nc1, .slice n2 nn2 nc2, .int .i64 nz] 27) := ⟨_, rfl⟩
    have hx : Below w4.heap.size w4 w5 := by rw [hq]; exact (Below.refl _ _).alloc (Nat.le_refl _) _
    have HDn : Hid (DB w5 w4.heap.size [.slice n0 nn0 nc0, .slice n1 nn1 nc1, .slice n2 nn2 nc2, .int .i64 nz] m) := by unfold Hid; rw [hq]; exact DB.new HR.out
    rw [← hq]
    clear hq HR
    obtain ⟨bn, hbq⟩ : ∃ x, x = w4.heap.size := ⟨_, rfl⟩
    have hbn : w.heap.size ≤ bn := by have := hB.size; omega
    rw [← hbq] at HDn ⊢
    clear hbq
    replace HDd := Hid.mk (HDd.out.under hx)
    replace HYb := Hid.mk (rdB.under HYb.out hx)
    replace hB := bthen hB hx
    clear hx
    refine (specCreate_c _ m ownN w5 HDd.out.r hs2 HSM.out hs1).mono ?_
    rintro e w6 ⟨cs6, rfl, hr6, hx⟩
    obtain ⟨u0, v0, q0, u1, v1, q1, u2, v2, q2, uz, hcs⟩ := rdisk_four hr6
    subst hcs
    clear hr6
    rw [HCC.out]
    replace HDd := Hid.mk (HDd.out.under hx)
    replace HDn := Hid.mk (HDn.out.under hx)
    replace HYb := Hid.mk (rdB.under HYb.out hx)
    replace hB := bthen hB hx
    clear hx
    go_wp2_with fail
    obtain ⟨w7, hq⟩ : ∃ x, x = w6.alloc (.cells #[.slice u0 v0 q0, .slice u1 v1 q1, .slice u2 v2 q2, .int .i64 uz] 27) := ⟨_, rfl⟩
    have hx : Below w6.heap.size w6 w7 := by rw [hq]; exact (Below.refl _ _).alloc (Nat.le_refl _) _
    rw [← hq]
    clear hq
    replace HDd := Hid.mk (HDd.out.under hx)
    replace HDn := Hid.mk (HDn.out.under hx)
    replace HYb := Hid.mk (rdB.under HYb.out hx)
    replace hB := bthen hB hx
    clear hx
    have p0 : ∀ W, Below w7.heap.size w7 W → W.cell? ⟨bd, 0, none⟩ = some (.slice d0 dn0 dc0) := fun W h => (HDd.out.b.under h).cell 0 _ rfl
    have p1 : ∀ W, Below w7.heap.size w7 W → W.cell? ⟨bd, 1, none⟩ = some (.slice d1 dn1 dc1) := fun W h => (HDd.out.b.under h).cell 1 _ rfl
    have p2 : ∀ W, Below w7.heap.size w7 W → W.cell? ⟨bd, 2, none⟩ = some (.slice d2 dn2 dc2) := fun W h => (HDd.out.b.under h).cell 2 _ rfl
    have p3 : ∀ W, Below w7.heap.size w7 W → W.cell? ⟨bd, 3, none⟩ = some (.int .i64 dz) := fun W h => (HDd.out.b.under h).cell 3 _ rfl
    have r0 : ∀ W, Below w7.heap.size w7 W → W.cell? ⟨bn, 0, none⟩ = some (.slice n0 nn0 nc0) := fun W h => (HDn.out.b.under h).cell 0 _ rfl
    have r1 : ∀ W, Below w7.heap.size w7 W → W.cell? ⟨bn, 1, none⟩ = some (.slice n1 nn1 nc1) := fun W h => (HDn.out.b.under h).cell 1 _ rfl
    have r2 : ∀ W, Below w7.heap.size w7 W → W.cell? ⟨bn, 2, none⟩ = some (.slice n2 nn2 nc2) := fun W h => (HDn.out.b.under h).cell 2 _ rfl
    have r3 : ∀ W, Below w7.heap.size w7 W → W.cell? ⟨bn, 3, none⟩ = some (.int .i64 nz) := fun W h => (HDn.out.b.under h).cell 3 _ rfl
    have HCd := Hid.mk (fun (W : World) (h : Below w7.heap.size w7 W) => implList_c [.slice d0 dn0 dc0, .slice d1 dn1 dc1, .slice d2 dn2 dc2, .int .i64 dz] _ W (HDd.out.under h).r HSM.out)
    have HCn := Hid.mk (fun (W : World) (h : Below w7.heap.size w7 W) => implList_c [.slice n0 nn0 nc0, .slice n1 nn1 nc1, .slice n2 nn2 nc2, .int .i64 nz] _ W (HDn.out.under h).r HSM.out)
    refine wp_region_held_drew (S := fun W => Below w7.heap.size w7 W) (by kernel_rfl) (Below.drew (Below.refl _ _)) (fun hHeld => ?_)
    refine tk 0 qab7_3_8_0 (some 33) (v := ?v1) rfl rfl (by kernel_rfl) hHeld (by rfl) (fun _ _ _ x => x) (fun w h => ?y1) ?_; (case y1 => (try dsimp only at h); go_simp; try (with_reducible rfl)); try simp only [Act.put, sa, s0, s1]
    refine tk 1 qab7_3_8_1 (some 34) (v := ?v2) rfl rfl (by kernel_rfl) hHeld (by rfl) (fun _ _ _ x => x) (fun w h => ?y2) ?_; (case y2 => (try dsimp only at h); go_simp; try (with_reducible rfl)); try simp only [Act.put, sa, s0, s1]
    refine tk 2 qab7_3_8_2 (some 35) (v := ?v3) rfl rfl (by kernel_rfl) hHeld (by rfl) (fun _ _ _ x => x) (fun w h => ?y3) ?_; (case y3 => (try dsimp only at h); go_simp; try (with_reducible rfl)); try simp only [Act.put, sa, s0, s1]
    refine tk 3 qab7_3_8_3 (some 36) (v := ?v4) rfl rfl (by kernel_rfl) hHeld (by rfl) (fun _ _ _ x => x) (fun w h => ?y4) ?_; (case y4 => (try dsimp only at h); go_simp; try (with_reducible rfl)); try simp only [Act.put, sa, s0, s1]
    refine tk 4 qab7_3_8_4 (some 37) (v := ?v5) rfl rfl (by kernel_rfl) hHeld (by rfl) (fun _ _ _ x => x) (fun w h => ?y5) ?_; (case y5 => (try dsimp only at h); go_simp; try (with_reducible rfl)); try simp only [Act.put, sa, s0, s1]
    refine tk 7 qab7_3_8_7 (some 40) (v := ?v6) rfl rfl (by kernel_rfl) hHeld (by rfl) (fun _ _ _ x => x) (fun w h => ?y6) ?_; (case y6 => (try dsimp only at h); go_simp; try (with_reducible rfl)); try simp only [Act.put, sa, s0, s1]
    refine wpAnyH_ready (rs := [5]) (by kernel_rfl) (by simp) ?_
    refine AllReadyH.cons (o := qab7_3_8_5) rfl (fun K hK => ?_) AllReadyH.nil
    go_simp
    refine (HCn.out _ hHeld).mono ?_
    rintro e wb ⟨vf, Ff, rfl, hof, _, _, hxb⟩
    obtain ⟨af, cf, hvf⟩ := ownT_len hof
    subst hvf
    have hop1 : Below w7.heap.size w7 wb := bthen hHeld hxb
    clear hof hxb
    go_wp2_with fail
    go_wp2_with fail
    refine hK.out _ _ (hop1) (fun hHeld => ?_)
    clear hK K
    try simp only [Act.put, sa, s0, s1]
    refine tk 6 qab7_3_8_6 (some 39) (v := ?v7) rfl rfl (by kernel_rfl) hHeld (by rfl) (fun _ _ _ x => x) (fun w h => ?y7) ?_; (case y7 => (try dsimp only at h); go_simp; try (with_reducible rfl)); try simp only [Act.put, sa, s0, s1]
    refine wpAnyH_ready (rs := [8]) (by kernel_rfl) (by simp) ?_
    refine AllReadyH.cons (o := qab7_3_8_8) rfl (fun K hK => ?_) AllReadyH.nil
    go_simp
    refine (HCd.out _ hHeld).mono ?_
    rintro e wd ⟨vg2, Fg2, rfl, hog, _, _, hxb⟩
    obtain ⟨ag2, cg2, hvg⟩ := ownT_len hog
    subst hvg
    have hop2 : Below w7.heap.size w7 wd := bthen hHeld hxb
    clear hog hxb
    go_wp2_with fail
    go_wp2_with fail
    refine hK.out _ _ (hop2) (fun hHeld => ?_)
    clear hK K
    try simp only [Act.put, sa, s0, s1]
    refine tk 9 qab7_3_8_9 (some 42) (v := ?v8) rfl rfl (by kernel_rfl) hHeld (by rfl) (fun _ _ _ x => x) (fun w h => ?y8) ?_; (case y8 => (try dsimp only at h); go_simp; try (with_reducible rfl)); try simp only [Act.put, sa, s0, s1]
    refine tk 10 qab7_3_8_10 (some 43) (v := ?v9) rfl rfl (by kernel_rfl) hHeld (by rfl) (fun _ _ _ x => x) (fun w h => ?y9) ?_; (case y9 => (try dsimp only at h); go_simp; try (with_reducible rfl)); try simp only [Act.put, sa, s0, s1]
    refine tk 11 qab7_3_8_11 (some 44) (v := ?v10) rfl rfl (by kernel_rfl) hHeld (by rfl) (fun _ _ _ x => x) (fun w h => ?y10) ?_; (case y10 => (try dsimp only at h); go_simp; try (with_reducible rfl)); try simp only [Act.put, sa, s0, s1]
    refine tk 12 qab7_3_8_12 (some 2) (v := ?v11) rfl rfl (by kernel_rfl) hHeld (by rfl) (fun _ _ _ x => x) (fun w h => ?y11) ?_; (case y11 => (try dsimp only at h); go_simp; try (with_reducible rfl)); try simp only [Act.put, sa, s0, s1]
    refine wpAnyH_done (by kernel_rfl) ?_ _
    go_wp2_with fail
    go_ret
    exact ⟨rfl, bthen hB hop2⟩

theorem law_FnFiles (cs0 : Value) (m0 : List Int) (w : World) (hr0 : rdB w.heap.size w cs0 m0) :
    Calls Try.prog 3 #[cs0] w fun e w' => e = .returned (.bool true) ∧ Below w.heap.size w w' := by
  obtain ⟨a, c, rfl, h⟩ := hr0
  exact law_FnFiles_r a m0.length c m0 w rfl h.2.2.2 h.2.2.1

end Go.Proofs.Ytmbobjhplkpfoaa
