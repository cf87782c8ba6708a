/-
  Part 23 of the texts that the proof leans on.
-/
import Derived.Test.YtmbobjhplkpfoaaFnx0
import Derived.Test.YtmbobjhplkpfoaaFnx21
import Derived.Test.YtmbobjhplkpfoaaFnx1
import Derived.Test.YtmbobjhplkpfoaaFnx7
import Derived.Test.YtmbobjhplkpfoaaFnx9
import Derived.Test.YtmbobjhplkpfoaaFnx15
import Derived.Test.YtmbobjhplkpfoaaFnx13
import Derived.Test.YtmbobjhplkpfoaaFnx2
import Derived.Test.YtmbobjhplkpfoaaFnx3
set_option linter.unusedVariables false
set_option linter.unusedSimpArgs false
set_option maxRecDepth 10000

namespace Go.Proofs.Ytmbobjhplkpfoaa
open Go.RowKit
abbrev q739_41_3_0 : Oper := ⟨some 12, .load 27 (.tmp 5), 27, "l02_files.go:307", #[], none⟩
abbrev q739_41_3_1 : Oper := ⟨some 13, .move (.tmp 4), 45, "l02_files.go:307", #[], none⟩
abbrev q739_41_3_2 : Oper := ⟨some 14, .call { callee := .value (.func 42), args := #[.tmp 13], argTypes := #[45] }, 9, "l02_files.go:307", #[⟨1, .data⟩], none⟩
abbrev q739_41_3_3 : Oper := ⟨none, .store 27 (.tmp 2) (.tmp 12), 0, "l02_files.go:307", #[⟨0, .data⟩, ⟨2, .chain⟩, ⟨0, .phase⟩, { on := 1, ground := Ground.textOnly Departure.lateStores }, { on := 2, ground := Ground.textOnly Departure.lateStoresUnsure }], none⟩
abbrev q739_41_3_4 : Oper := ⟨some 3, .assign (.tmp 14), 9, "l02_files.go:307", #[⟨2, .data⟩, ⟨3, .chain⟩, ⟨0, .phase⟩, ⟨1, .phase⟩, ⟨2, .phase⟩, ⟨3, .phase⟩], none⟩
abbrev q739_19_3_0 : Oper := ⟨some 15, .load 27 (.tmp 5), 27, "l02_files.go:336", #[], none⟩
abbrev q739_19_3_1 : Oper := ⟨some 16, .move (.tmp 6), 9, "l02_files.go:336", #[{ on := 4, ground := Ground.gcOnly Departure.lateStores }], none⟩
abbrev q739_19_3_2 : Oper := ⟨some 17, .move (.tmp 7), 45, "l02_files.go:336", #[], none⟩
abbrev q739_19_3_3 : Oper := ⟨some 18, .call { callee := .value (.func 42), args := #[.tmp 17], argTypes := #[45] }, 9, "l02_files.go:336", #[⟨2, .data⟩], none⟩
abbrev q739_19_3_4 : Oper := ⟨none, .store 27 (.tmp 2) (.tmp 15), 0, "l02_files.go:336", #[⟨0, .data⟩, ⟨3, .chain⟩, ⟨0, .phase⟩, { on := 1, ground := Ground.textOnly Departure.lateStores }, { on := 2, ground := Ground.textOnly Departure.lateStores }, { on := 3, ground := Ground.textOnly Departure.lateStoresUnsure }], none⟩
abbrev q739_19_3_5 : Oper := ⟨some 3, .assign (.tmp 16), 9, "l02_files.go:336", #[⟨1, .data⟩, ⟨4, .chain⟩, ⟨0, .phase⟩, ⟨1, .phase⟩, { on := 2, ground := Ground.textOnly Departure.lateStores }, { on := 3, ground := Ground.textOnly Departure.lateStoresUnsure }, ⟨4, .phase⟩], none⟩
abbrev q739_19_3_6 : Oper := ⟨some 4, .assign (.tmp 18), 9, "l02_files.go:336", #[⟨3, .data⟩, ⟨5, .chain⟩, ⟨0, .phase⟩, ⟨1, .phase⟩, ⟨2, .phase⟩, ⟨3, .phase⟩, ⟨4, .phase⟩, ⟨5, .phase⟩], none⟩

section
variable {B : Nat} {W W' : World} {g : Nat}
theorem CurOk.at (h : CurOk W g) (k : Nat) : (k = 0 ∧ ∃ a n c, W.cell? ⟨g, k, none⟩ = some (.slice a n c)) ∨ ((k = 1 ∨ k = 2) ∧ ∃ z, W.cell? ⟨g, k, none⟩ = some (.int .i64 z)) ∨ (3 ≤ k ∧ W.cell? ⟨g, k, none⟩ = none) := by
  obtain ⟨a, n, cap, B, zs, _, _, _, _, ⟨i, q, _, _, hg⟩, _⟩ := h
  have hc := cell_of_row W g k _ _ (0, 0) hg
  rw [hc]
  match k with
  | 0 => exact .inl ⟨rfl, _, _, _, rfl⟩
  | 1 => exact .inr (.inl ⟨.inl rfl, _, rfl⟩)
  | 2 => exact .inr (.inl ⟨.inr rfl, _, rfl⟩)
  | k + 3 => exact .inr (.inr ⟨by omega, rfl⟩)
theorem leafB_cur (hx : CurOk W g) (h : Turn [g] W W') {a : Option Addr} {c : Nat} {zs : List Int} (hl : LeafB B W a c zs) : LeafB B W' a c zs := by
  refine ⟨hl.1, hl.2.1, fun j hj => ?_, hl.2.2.2⟩
  obtain ⟨b, off, e, hB, hc⟩ := hl.2.2.1 j hj
  refine ⟨b, off, e, hB, turn_cell h ?_ hc⟩
  rintro rfl
  rcases hx.at (off + j) with ⟨_, _, _, _, h1⟩ | ⟨_, z, h1⟩ | ⟨_, h1⟩ <;> rw [hc] at h1 <;> cases h1
theorem leafE_cur (hx : CurOk W g) (h : Turn [g] W W') {a : Option Addr} {c : Nat} {l : List MEntry} (hl : LeafL 2 rEntry B W a c l) : LeafL 2 rEntry B W' a c l := by
  refine ⟨hl.1, hl.2.1, fun j hj => ?_⟩
  obtain ⟨b, off, e, hB, cs, h1, h2, h3⟩ := hl.2.2 j hj
  have h3' := h3
  obtain ⟨rfl, _⟩ := h3
  have hne : b ≠ g := by
    rintro rfl
    have h4 := h2 0 _ rfl
    rcases hx.at (off + j * 2 + 0) with ⟨_, _, _, _, h5⟩ | ⟨_, z, h5⟩ | ⟨_, h5⟩ <;> rw [h4] at h5 <;> cases h5
  exact ⟨b, off, e, hB, _, h1, fun i u hu => turn_cell h hne (h2 i u hu), h3'⟩
theorem leafI_cur (hx : CurOk W g) (h : Turn [g] W W') {a : Option Addr} {c : Nat} {l : List MInode} (hl : LeafL 3 rInode B W a c l) : LeafL 3 rInode B W' a c l := by
  refine ⟨hl.1, hl.2.1, fun j hj => ?_⟩
  obtain ⟨b, off, e, hB, cs, h1, h2, a1, c1, rfl, h3, h4, h5, _⟩ := hl.2.2 j hj
  have hne : b ≠ g := by
    rintro rfl
    have h6 := h2 0 _ rfl
    have h7 := h2 1 _ rfl
    rcases hx.at (off + j * 3 + 0) with ⟨_, _, _, _, h8⟩ | ⟨hk, z, h8⟩ | ⟨_, h8⟩
    · rw [h6] at h8; cases h8
    · rcases hx.at (off + j * 3 + 1) with ⟨hk2, _, _, _, h9⟩ | ⟨_, z, h9⟩ | ⟨_, h9⟩
      · omega
      · rw [h7] at h9; cases h9
      · rw [h7] at h9; cases h9
    · rw [h6] at h8; cases h8
  exact ⟨b, off, e, hB, _, h1, fun i u hu => turn_cell h hne (h2 i u hu), a1, c1, rfl, h3, leafB_cur hx h h4, h5, trivial⟩
/-- A disk that is read stands where a cursor moves on. -/
theorem rDisk_cur {cs : List Value} {m : MDisk} (hx : CurOk W g) (h : Turn [g] W W') (hr : rDisk B W cs m) : rDisk B W' cs m := by
  obtain ⟨a0, c0, a1, c1, a2, c2, rfl, h0, h1, h2, h3, _⟩ := hr
  exact ⟨a0, c0, a1, c1, a2, c2, rfl, leafI_cur hx h h0, leafE_cur hx h h1, leafE_cur hx h h2, h3, trivial⟩
end
theorem rdisk_four {W : World} {cs : List Value} {m : MDisk} {B : Nat} (h : rDisk B W cs m) : ∃ a0 n0 c0 a1 n1 c1 a2 n2 c2 z, cs = [.slice a0 n0 c0, .slice a1 n1 c1, .slice a2 n2 c2, .int .i64 z] := by
  obtain ⟨a0, c0, a1, c1, a2, c2, hc, _⟩ := h
  exact ⟨a0, _, c0, a1, _, c1, a2, _, c2, _, hc⟩

def DiskTwo (w : World) (e : Ending) (w' : World) : Prop :=
  ∃ (cs : List Value) (m : MDisk) (s : ByteArray), e = .returned (.tuple #[.agg cs.toArray, .string s]) ∧ rDisk w'.heap.size w' cs m ∧ wDisk m ≤ 1048576 ∧ s.size ≤ 20 ∧ Below w.heap.size w w'
def DiskThree (w : World) (e : Ending) (w' : World) : Prop :=
  ∃ (cs : List Value) (m : MDisk) (s t : ByteArray), e = .returned (.tuple #[.agg cs.toArray, .string s, .string t]) ∧ rDisk w'.heap.size w' cs m ∧ wDisk m ≤ 1048576 ∧ s.size ≤ 20 ∧ t.size ≤ 20 ∧ Below w.heap.size w w'

set_option maxHeartbeats 4000000 in
theorem l2Two_ok (a : Option Addr) (n cap : Nat) (zs : List Int) (w : World) (hx : zs.length = n) (hn : n ≤ 1048576) (hr : Rd .u8 w.heap.size w a zs) :
    Calls Try.prog 41 #[.slice a n cap] w fun e w' => DiskTwo w e w' := by
  have HX := Hid.mk hx
  have HR := Hid.mk hr
  clear hx hr
  go_enter Try.func41, Try.ntmps41
  go_wp2_with fail
  obtain ⟨wq, hwq⟩ : ∃ wq, wq = w.alloc (.cells #[.slice none 0 0, .slice none 0 0, .slice none 0 0, .int .i64 0] 27) := ⟨_, rfl⟩
  have hbq : Below w.heap.size w wq := by rw [hwq]; exact (Below.refl _ _).alloc (Nat.le_refl _) _
  have hbr : Bw wq w.heap.size 27 dZ := by rw [hwq]; exact Bw.new _ _ _
  rw [← hwq]
  clear hwq
  refine (l1New_any a n cap zs wq HX.out (by omega) ((HR.out.below hbq).mono hbq.size)).mono ?_
  rintro e w1 ⟨rfl, hc1, hx1⟩
  have hrl := hbr.lt
  obtain ⟨g, hg⟩ : ∃ x, x = wq.heap.size := ⟨_, rfl⟩
  obtain ⟨br, hbrq⟩ : ∃ x, x = w.heap.size := ⟨_, rfl⟩
  rw [← hg] at hc1 hrl ⊢
  have hB1 := bthen hbq hx1
  replace hbr := hbr.under hx1
  have hbw : w.heap.size ≤ br := by omega
  rw [← hbrq] at hbr hrl ⊢
  clear hg hbrq hx1 hbq
  go_wp2_with fail
  refine (l1Size_ok a n cap 20 w1 hn (by omega) (by omega)).mono ?_
  rintro e w1' ⟨x, ⟨rfl, hx100⟩, hw1⟩
  replace hw1 := hw1.symm
  subst hw1
  have hgl := hc1.lt
  go_wp2_with fail
  refine (l2DrawAny_ok x hc1 hx100).mono ?_
  rintro e w2 ⟨cs, m, rfl, hk2, hs2, hc2, ht2⟩
  obtain ⟨a0, n0, c0, a1, n1, c1, a2, n2, c2, z, hcs⟩ := rdisk_four hk2
  subst hcs
  have hbr2 := hbr.turn ht2 (by simp; omega)
  have hB2 : Below w.heap.size w w2 := hB1.trans (ht2.below (fun k hk => by simp at hk; omega) hB1.size)
  have HK2 := Hid.mk hk2
  have hz2 := ht2.size
  clear hk2 ht2 hbr hB1 hc1 hx100
  go_wp2_with fail
  obtain ⟨w4, hw4⟩ : ∃ x, x = w2.alloc (.cells #[.slice a0 n0 c0, .slice a1 n1 c1, .slice a2 n2 c2, .int .i64 z] 27) := ⟨_, rfl⟩
  have hx4 : Below w2.heap.size w2 w4 := by rw [hw4]; exact (Below.refl _ _).alloc (Nat.le_refl _) _
  have hbd : Bw w4 w2.heap.size 27 [.slice a0 n0 c0, .slice a1 n1 c1, .slice a2 n2 c2, .int .i64 z] := by rw [hw4]; exact Bw.new _ _ _
  rw [← hw4]
  obtain ⟨bd, hbdq⟩ : ∃ x, x = w2.heap.size := ⟨_, rfl⟩
  have hgbd : g < bd ∧ br < bd := by have := hc2.lt; omega
  rw [← hbdq] at hbd ⊢
  have HBD := Hid.mk hbd
  have HBR := Hid.mk (hbr2.under hx4)
  have HK : Hid (rDisk w4.heap.size w4 [.slice a0 n0 c0, .slice a1 n1 c1, .slice a2 n2 c2, .int .i64 z] m) := rDisk_good.mono (rDisk_good.below HK2.out hx4) hx4.size
  have HCU : Hid (CurOk w4.drew g) := (hc2.below hx4).below (Below.drew (Below.refl _ _))
  have hB := bthen hB2 hx4
  have d0 := hbd.cell 0 _ rfl
  have d1 := hbd.cell 1 _ rfl
  have d2 := hbd.cell 2 _ rfl
  have d3 := hbd.cell 3 _ rfl
  clear hw4 hx4 hbd hbdq hbr2 hB2 hc2 HK2
  refine wp_region_held_drew (S := fun W => W.cell? ⟨bd, 0, none⟩ = some (.slice a0 n0 c0) ∧ W.cell? ⟨bd, 1, none⟩ = some (.slice a1 n1 c1) ∧ W.cell? ⟨bd, 2, none⟩ = some (.slice a2 n2 c2) ∧ W.cell? ⟨bd, 3, none⟩ = some (.int .i64 z)) (by kernel_rfl) (⟨d0, d1, d2, d3⟩) (fun hHeld => ?_)
  refine tk 0 q739_41_3_0 (some 12) (v := ?v1) rfl rfl (by kernel_rfl) hHeld (by rfl) (fun _ _ _ x => x) (fun w h => ?y1) ?_; (case y1 => (try dsimp only at h); go_simp; try (with_reducible rfl)); try simp only [Act.put, sa, s0, s1]
  refine tk 1 q739_41_3_1 (some 13) (v := ?v2) rfl rfl (by kernel_rfl) hHeld (by rfl) (fun _ _ _ x => x) (fun w h => ?y2) ?_; (case y2 => (try dsimp only at h); go_simp; try (with_reducible rfl)); try simp only [Act.put, sa, s0, s1]
  refine wpAnyH_ready (rs := [2]) (by kernel_rfl) (by simp) ?_
  refine AllReadyH.cons (o := q739_41_3_2) rfl (fun K hK => ?_) AllReadyH.nil
  go_simp
  refine (l2NameAny_ok HCU.out).mono ?_
  rintro e w5 ⟨t, ⟨rfl, ht20⟩, hc5, hg5⟩
  have hT4 : Turn [g] w4.drew w5 := Turn.ofGrown hg5 (fun k hk => (by have hk2 := Option.some.inj hk; simp [hk2]))
  have hT5 : Turn [g] w4 w5 := (Turn.ofBelow (Below.drew (Below.refl _ _))).trans hT4
  have hd5 := HBD.out.turn hT5 (by simp; omega)
  have hr5 := HBR.out.turn hT5 (by simp; omega)
  have HK5 : Hid (rDisk w5.heap.size w5 [.slice a0 n0 c0, .slice a1 n1 c1, .slice a2 n2 c2, .int .i64 z] m) := rDisk_good.mono (rDisk_cur HCU.out hT4 (rDisk_good.below HK.out (Below.drew (Below.refl _ _)))) hT5.size
  have hop1 : w5.cell? ⟨bd, 0, none⟩ = some (.slice a0 n0 c0) ∧ w5.cell? ⟨bd, 1, none⟩ = some (.slice a1 n1 c1) ∧ w5.cell? ⟨bd, 2, none⟩ = some (.slice a2 n2 c2) ∧ w5.cell? ⟨bd, 3, none⟩ = some (.int .i64 z) := ⟨hd5.cell 0 _ rfl, hd5.cell 1 _ rfl, hd5.cell 2 _ rfl, hd5.cell 3 _ rfl⟩
  go_wp2_with fail
  refine hK.out _ _ (hop1) (fun hHeld => ?_)
  clear hK K
  try simp only [Act.put, sa, s0, s1]
  refine wpAnyH_ready (rs := [3]) (by kernel_rfl) (by simp) ?_
  refine AllReadyH.cons (o := q739_41_3_3) rfl (fun K hK => ?_) AllReadyH.nil
  have q0 := hr5.cell 0 _ rfl
  have q1 := hr5.cell 1 _ rfl
  have q2 := hr5.cell 2 _ rfl
  have q3 := hr5.cell 3 _ rfl
  have e0 := hr5.free 0
  have e1 := hr5.free 1
  have e2 := hr5.free 2
  have e3 := hr5.free 3
  have lr := hr5.lt
  go_simp
  obtain ⟨w6, hq6⟩ : ∃ x, x = (((w5.setCell ⟨br, 0, none⟩ (.slice a0 n0 c0)).setCell ⟨br, 1, none⟩ (.slice a1 n1 c1)).setCell ⟨br, 2, none⟩ (.slice a2 n2 c2)).setCell ⟨br, 3, none⟩ (.int .i64 z) := ⟨_, rfl⟩
  have hT6 : Turn [br] w5 w6 := by rw [hq6]; exact turn4 _ _ _ _ _ _
  have hz6 : w6.heap.size = w5.heap.size := by rw [hq6]; simp
  have hd6 := hd5.turn hT6 (by simp; omega)
  have hr6 : Bw w6 br 27 [.slice a0 n0 c0, .slice a1 n1 c1, .slice a2 n2 c2, .int .i64 z] := by rw [hq6]; exact Bw.put4 hr5 rfl _ _ _ _
  have HK6 : Hid (rDisk w6.heap.size w6 [.slice a0 n0 c0, .slice a1 n1 c1, .slice a2 n2 c2, .int .i64 z] m) := by unfold Hid; rw [hz6]; exact rDisk_turn (Bw.dzero hr5) hT6 HK5.out
  have hop2 : w6.cell? ⟨bd, 0, none⟩ = some (.slice a0 n0 c0) ∧ w6.cell? ⟨bd, 1, none⟩ = some (.slice a1 n1 c1) ∧ w6.cell? ⟨bd, 2, none⟩ = some (.slice a2 n2 c2) ∧ w6.cell? ⟨bd, 3, none⟩ = some (.int .i64 z) := ⟨hd6.cell 0 _ rfl, hd6.cell 1 _ rfl, hd6.cell 2 _ rfl, hd6.cell 3 _ rfl⟩
  rw [← hq6]
  clear hq6 q0 q1 q2 q3 e0 e1 e2 e3 lr
  refine hK.out _ _ (hop2) (fun hHeld => ?_)
  clear hK K
  try simp only [Act.put, sa, s0, s1]
  refine tk 4 q739_41_3_4 (some 3) (v := ?v3) rfl rfl (by kernel_rfl) hHeld (by rfl) (fun _ _ _ x => x) (fun w h => ?y3) ?_; (case y3 => (try dsimp only at h); go_simp; try (with_reducible rfl)); try simp only [Act.put, sa, s0, s1]
  refine wpAnyH_done (by kernel_rfl) ?_ _
  have hB6 : Below w.heap.size w w6 := (hB.trans (hT5.below (fun k hk => by simp at hk; omega) hB.size)).trans (hT6.below (fun k hk => by simp at hk; omega) (by have := hT5.size; have := hB.size; omega))
  have q0 := hr6.cell 0 _ rfl
  have q1 := hr6.cell 1 _ rfl
  have q2 := hr6.cell 2 _ rfl
  have q3 := hr6.cell 3 _ rfl
  clear hr5 hd5 hT5 hT6 hB HBD HBR hd6 hr6 hop1 hop2 d0 d1 d2 d3
  go_wp2_with fail
  refine bodyPost_ret (v := .tuple #[.agg #[.slice a0 n0 c0, .slice a1 n1 c1, .slice a2 n2 c2, .int .i64 z], .string t]) (by simp [results, Try.results41, go_sem, *]) rfl (show DiskTwo w _ _ from ⟨[.slice a0 n0 c0, .slice a1 n1 c1, .slice a2 n2 c2, .int .i64 z], m, t, rfl, HK6.out, hs2, ht20, hB6⟩)

set_option maxHeartbeats 4000000 in
theorem drawRename_ok (a : Option Addr) (n cap : Nat) (zs : List Int) (w : World) (hx : zs.length = n) (hn : n ≤ 1048576) (hr : Rd .u8 w.heap.size w a zs) :
    Calls Try.prog 19 #[.slice a n cap] w fun e w' => DiskThree w e w' := by
  have HX := Hid.mk hx
  have HR := Hid.mk hr
  clear hx hr
  go_enter Try.func19, Try.ntmps19
  go_wp2_with fail
  obtain ⟨wq, hwq⟩ : ∃ wq, wq = w.alloc (.cells #[.slice none 0 0, .slice none 0 0, .slice none 0 0, .int .i64 0] 27) := ⟨_, rfl⟩
  have hbq : Below w.heap.size w wq := by rw [hwq]; exact (Below.refl _ _).alloc (Nat.le_refl _) _
  have hbr : Bw wq w.heap.size 27 dZ := by rw [hwq]; exact Bw.new _ _ _
  rw [← hwq]
  clear hwq
  refine (l2Two_ok a n cap zs wq HX.out hn ((HR.out.below hbq).mono hbq.size)).mono ?_
  rintro e w1 ⟨cs, m, s, rfl, hk1, hs2, hs20, hx1⟩
  obtain ⟨a0, n0, c0, a1, n1, c1, a2, n2, c2, z, hcs⟩ := rdisk_four hk1
  subst hcs
  have HK1 := Hid.mk hk1
  have hrl := hbr.lt
  obtain ⟨br, hbrq⟩ : ∃ x, x = w.heap.size := ⟨_, rfl⟩
  have hB1 := bthen hbq hx1
  have hzz := hx1.size
  replace hbr := hbr.under hx1
  have hbw : w.heap.size ≤ br := by omega
  rw [← hbrq] at hbr hrl ⊢
  clear hbrq hx1 hbq hk1
  go_wp2_with fail
  obtain ⟨w2, hw2⟩ : ∃ x, x = w1.alloc (.cells #[.slice a0 n0 c0, .slice a1 n1 c1, .slice a2 n2 c2, .int .i64 z] 27) := ⟨_, rfl⟩
  have hx2 : Below w1.heap.size w1 w2 := by rw [hw2]; exact (Below.refl _ _).alloc (Nat.le_refl _) _
  have hbd : Bw w2 w1.heap.size 27 [.slice a0 n0 c0, .slice a1 n1 c1, .slice a2 n2 c2, .int .i64 z] := by rw [hw2]; exact Bw.new _ _ _
  rw [← hw2]
  obtain ⟨bd, hbdq⟩ : ∃ x, x = w1.heap.size := ⟨_, rfl⟩
  have hbrd : br < bd := by omega
  rw [← hbdq] at hbd ⊢
  have hB2 := bthen hB1 hx2
  have HK2 : Hid (rDisk w2.heap.size w2 [.slice a0 n0 c0, .slice a1 n1 c1, .slice a2 n2 c2, .int .i64 z] m) := rDisk_good.mono (rDisk_good.below HK1.out hx2) hx2.size
  replace hbr := hbr.under hx2
  clear hw2 hx2 hbdq hB1 HK1 hzz
  refine (l1New_any a n cap zs w2 HX.out (by omega) ((HR.out.below hB2).mono hB2.size)).mono ?_
  rintro e w4 ⟨rfl, hc4, hx4⟩
  have hdl := hbd.lt
  obtain ⟨g, hg⟩ : ∃ x, x = w2.heap.size := ⟨_, rfl⟩
  rw [← hg] at hc4 hdl ⊢
  have hgw : w.heap.size ≤ g := by have := hB2.size; omega
  have HBD := Hid.mk (hbd.under hx4)
  have HBR := Hid.mk (hbr.under hx4)
  have HK : Hid (rDisk w4.heap.size w4 [.slice a0 n0 c0, .slice a1 n1 c1, .slice a2 n2 c2, .int .i64 z] m) := rDisk_good.mono (rDisk_good.below HK2.out hx4) hx4.size
  have HCU : Hid (CurOk w4.drew g) := hc4.below (Below.drew (Below.refl _ _))
  have hB := bthen hB2 hx4
  have d0 := HBD.out.cell 0 _ rfl
  have d1 := HBD.out.cell 1 _ rfl
  have d2 := HBD.out.cell 2 _ rfl
  have d3 := HBD.out.cell 3 _ rfl
  clear hg hx4 hbd hbr hB2 hc4 HK2
  go_wp2_with fail
  refine wp_region_held_drew (S := fun W => W.cell? ⟨bd, 0, none⟩ = some (.slice a0 n0 c0) ∧ W.cell? ⟨bd, 1, none⟩ = some (.slice a1 n1 c1) ∧ W.cell? ⟨bd, 2, none⟩ = some (.slice a2 n2 c2) ∧ W.cell? ⟨bd, 3, none⟩ = some (.int .i64 z)) (by kernel_rfl) (⟨d0, d1, d2, d3⟩) (fun hHeld => ?_)
  refine tk 0 q739_19_3_0 (some 15) (v := ?v4) rfl rfl (by kernel_rfl) hHeld (by rfl) (fun _ _ _ x => x) (fun w h => ?y4) ?_; (case y4 => (try dsimp only at h); go_simp; try (with_reducible rfl)); try simp only [Act.put, sa, s0, s1]
  refine tk 1 q739_19_3_1 (some 16) (v := ?v5) rfl rfl (by kernel_rfl) hHeld (by rfl) (fun _ _ _ x => x) (fun w h => ?y5) ?_; (case y5 => (try dsimp only at h); go_simp; try (with_reducible rfl)); try simp only [Act.put, sa, s0, s1]
  refine tk 2 q739_19_3_2 (some 17) (v := ?v6) rfl rfl (by kernel_rfl) hHeld (by rfl) (fun _ _ _ x => x) (fun w h => ?y6) ?_; (case y6 => (try dsimp only at h); go_simp; try (with_reducible rfl)); try simp only [Act.put, sa, s0, s1]
  refine wpAnyH_ready (rs := [3]) (by kernel_rfl) (by simp) ?_
  refine AllReadyH.cons (o := q739_19_3_3) rfl (fun K hK => ?_) AllReadyH.nil
  go_simp
  refine (l2NameAny_ok HCU.out).mono ?_
  rintro e w5 ⟨t, ⟨rfl, ht20⟩, hc5, hg5⟩
  have hT4 : Turn [g] w4.drew w5 := Turn.ofGrown hg5 (fun k hk => (by have hk2 := Option.some.inj hk; simp [hk2]))
  have hT5 : Turn [g] w4 w5 := (Turn.ofBelow (Below.drew (Below.refl _ _))).trans hT4
  have hd5 := HBD.out.turn hT5 (by simp; omega)
  have hr5 := HBR.out.turn hT5 (by simp; omega)
  have HK5 : Hid (rDisk w5.heap.size w5 [.slice a0 n0 c0, .slice a1 n1 c1, .slice a2 n2 c2, .int .i64 z] m) := rDisk_good.mono (rDisk_cur HCU.out hT4 (rDisk_good.below HK.out (Below.drew (Below.refl _ _)))) hT5.size
  have hop1 : w5.cell? ⟨bd, 0, none⟩ = some (.slice a0 n0 c0) ∧ w5.cell? ⟨bd, 1, none⟩ = some (.slice a1 n1 c1) ∧ w5.cell? ⟨bd, 2, none⟩ = some (.slice a2 n2 c2) ∧ w5.cell? ⟨bd, 3, none⟩ = some (.int .i64 z) := ⟨hd5.cell 0 _ rfl, hd5.cell 1 _ rfl, hd5.cell 2 _ rfl, hd5.cell 3 _ rfl⟩
  go_wp2_with fail
  refine hK.out _ _ (hop1) (fun hHeld => ?_)
  clear hK K
  try simp only [Act.put, sa, s0, s1]
  refine wpAnyH_ready (rs := [4]) (by kernel_rfl) (by simp) ?_
  refine AllReadyH.cons (o := q739_19_3_4) rfl (fun K hK => ?_) AllReadyH.nil
  have q0 := hr5.cell 0 _ rfl
  have q1 := hr5.cell 1 _ rfl
  have q2 := hr5.cell 2 _ rfl
  have q3 := hr5.cell 3 _ rfl
  have e0 := hr5.free 0
  have e1 := hr5.free 1
  have e2 := hr5.free 2
  have e3 := hr5.free 3
  have lr := hr5.lt
  go_simp
  obtain ⟨w6, hq6⟩ : ∃ x, x = (((w5.setCell ⟨br, 0, none⟩ (.slice a0 n0 c0)).setCell ⟨br, 1, none⟩ (.slice a1 n1 c1)).setCell ⟨br, 2, none⟩ (.slice a2 n2 c2)).setCell ⟨br, 3, none⟩ (.int .i64 z) := ⟨_, rfl⟩
  have hT6 : Turn [br] w5 w6 := by rw [hq6]; exact turn4 _ _ _ _ _ _
  have hz6 : w6.heap.size = w5.heap.size := by rw [hq6]; simp
  have hd6 := hd5.turn hT6 (by simp; omega)
  have hr6 : Bw w6 br 27 [.slice a0 n0 c0, .slice a1 n1 c1, .slice a2 n2 c2, .int .i64 z] := by rw [hq6]; exact Bw.put4 hr5 rfl _ _ _ _
  have HK6 : Hid (rDisk w6.heap.size w6 [.slice a0 n0 c0, .slice a1 n1 c1, .slice a2 n2 c2, .int .i64 z] m) := by unfold Hid; rw [hz6]; exact rDisk_turn (Bw.dzero hr5) hT6 HK5.out
  have hop2 : w6.cell? ⟨bd, 0, none⟩ = some (.slice a0 n0 c0) ∧ w6.cell? ⟨bd, 1, none⟩ = some (.slice a1 n1 c1) ∧ w6.cell? ⟨bd, 2, none⟩ = some (.slice a2 n2 c2) ∧ w6.cell? ⟨bd, 3, none⟩ = some (.int .i64 z) := ⟨hd6.cell 0 _ rfl, hd6.cell 1 _ rfl, hd6.cell 2 _ rfl, hd6.cell 3 _ rfl⟩
  rw [← hq6]
  clear hq6 q0 q1 q2 q3 e0 e1 e2 e3 lr
  refine hK.out _ _ (hop2) (fun hHeld => ?_)
  clear hK K
  try simp only [Act.put, sa, s0, s1]
  refine tk 5 q739_19_3_5 (some 3) (v := ?v7) rfl rfl (by kernel_rfl) hHeld (by rfl) (fun _ _ _ x => x) (fun w h => ?y7) ?_; (case y7 => (try dsimp only at h); go_simp; try (with_reducible rfl)); try simp only [Act.put, sa, s0, s1]
  refine tk 6 q739_19_3_6 (some 4) (v := ?v8) rfl rfl (by kernel_rfl) hHeld (by rfl) (fun _ _ _ x => x) (fun w h => ?y8) ?_; (case y8 => (try dsimp only at h); go_simp; try (with_reducible rfl)); try simp only [Act.put, sa, s0, s1]
  refine wpAnyH_done (by kernel_rfl) ?_ _
  have hB6 : Below w.heap.size w w6 := (hB.trans (hT5.below (fun k hk => by simp at hk; omega) hB.size)).trans (hT6.below (fun k hk => by simp at hk; omega) (by have := hT5.size; have := hB.size; omega))
  have q0 := hr6.cell 0 _ rfl
  have q1 := hr6.cell 1 _ rfl
  have q2 := hr6.cell 2 _ rfl
  have q3 := hr6.cell 3 _ rfl
  clear hr5 hd5 hT5 hT6 hB HBD HBR hd6 hr6 hop1 hop2 d0 d1 d2 d3
  go_wp2_with fail
  refine bodyPost_ret (v := .tuple #[.agg #[.slice a0 n0 c0, .slice a1 n1 c1, .slice a2 n2 c2, .int .i64 z], .string s, .string t]) (by simp [results, Try.results19, go_sem, *]) rfl (show DiskThree w _ _ from ⟨[.slice a0 n0 c0, .slice a1 n1 c1, .slice a2 n2 c2, .int .i64 z], m, s, t, rfl, HK6.out, hs2, hs20, ht20, hB6⟩)

end Go.Proofs.Ytmbobjhplkpfoaa

namespace Go.Proofs.Ytmbobjhplkpfoaa
open Go.RowKit

/-- The strings that a slice's cells hold. -/
def RdT (B : Nat) (w : World) (a : Option Addr) (l : List ByteArray) : Prop :=
  ∀ j, (h : j < l.length) → ∃ b off, a = some ⟨b, off, none⟩ ∧ b < B ∧ w.cell? ⟨b, off + j, none⟩ = some (.string l[j])
def rdT (B : Nat) (w : World) (v : Value) (l : List ByteArray) : Prop := ∃ a c, v = .slice a l.length c ∧ l.length ≤ c ∧ c ≤ 9223372036854775807 ∧ RdT B w a l
def ownT (e : TypeId) (w : World) (v : Value) (l : List ByteArray) (F : List Nat) : Prop := w.ownsRow 0 e 1 v l.length (l.map Value.string) ∧ F = v.ownBlock.toList

theorem RdT.below {B : Nat} {w w' : World} {a : Option Addr} {l : List ByteArray} (h : RdT B w a l) (hb : Below B w w') : RdT B w' a l := by
  intro j hj
  obtain ⟨b, off, e, hB, hc⟩ := h j hj
  exact ⟨b, off, e, hB, (hb.cell (p := ⟨b, off + j, none⟩) hB).trans hc⟩
theorem rdT.below {B : Nat} {w w' : World} {v : Value} {l : List ByteArray} (h : rdT B w v l) (hb : Below B w w') : rdT B w' v l := by
  obtain ⟨a, c, e, h1, h2, h3⟩ := h
  exact ⟨a, c, e, h1, h2, h3.below hb⟩
theorem rdT.mono {B B' : Nat} {w : World} {v : Value} {l : List ByteArray} (h : rdT B w v l) (hB : B ≤ B') : rdT B' w v l := by
  obtain ⟨a, c, e, h1, h2, h3⟩ := h
  refine ⟨a, c, e, h1, h2, fun j hj => ?_⟩
  obtain ⟨b, off, e, hb, hc⟩ := h3 j hj
  exact ⟨b, off, e, by omega, hc⟩
theorem ownT.frame {e : TypeId} {w w' : World} {v : Value} {l : List ByteArray} {F : List Nat} (h : ownT e w v l F) (hb : ∀ k, k ∈ F → w'.heap[k]? = w.heap[k]?) : ownT e w' v l F := by
  obtain ⟨h1, rfl⟩ := h
  exact ⟨own_of_block h1 (fun k hk => hb k (by simp [hk])), rfl⟩
theorem ownT.lt {e : TypeId} {w : World} {v : Value} {l : List ByteArray} {F : List Nat} (h : ownT e w v l F) : ∀ k, k ∈ F → k < w.heap.size := by
  obtain ⟨h1, rfl⟩ := h
  intro k hk
  exact (h1.lt k (by simpa using hk)).2

def listP (m : MDisk) : List ByteArray := if diskOk m then m.fNames.map (·.fName) else []

theorem names_step {l : List MEntry} {k : Nat} (h : k < l.length) : (((l.take k).map (·.fName)).map Value.string) ++ [Value.string l[k].fName] = (((l.take (k + 1)).map (·.fName)).map Value.string) := by
  rw [List.take_succ_eq_append_getElem h, List.map_append, List.map_append]
  rfl

theorem Try.infoOfString : (Try.prog.info? 9).map (fun i => (i.zero, i.size, i.bytes)) = some (some (.string ByteArray.empty), 1, 16) := by kernel_rfl

set_option maxHeartbeats 1000000 in
theorem implList_c (cs : List Value) (m : MDisk) (w : World) (hr : rDisk w.heap.size w cs m) (hw : wDisk m ≤ 1048576) :
    Calls Try.prog 10 #[.agg cs.toArray] w fun e w' => ∃ (v : Value) (F : List Nat), e = .returned v ∧ ownT 9 w' v (listP m) F ∧ F.Nodup ∧ (∀ b, b ∈ F → w.heap.size ≤ b) ∧ Below w.heap.size w w' := by
  obtain ⟨i0, hi, hz0, hz1, hz2⟩ := info_parts Try.infoOfString
  have hq := hr
  obtain ⟨a0, c0, a1, c1, a2, c2, rfl, hI, hNm, hSf, hnx, _⟩ := hq
  have hw2 : m.fInodes.length + sumW wInode m.fInodes + (m.fNames.length + sumW wEntry m.fNames) + (m.fSafe.length + sumW wEntry m.fSafe) ≤ 1048576 := hw
  have HW := Hid.mk hw
  have HR := Hid.mk hr
  have HNL := Hid.mk hNm
  clear hr hI hNm hSf hw
  have hCd := fun W (hb : Below w.heap.size w W) => implDiskOk_c _ m W (rDisk_good.mono (rDisk_good.below HR.out hb) hb.size) HW.out
  go_enter Try.func10, Try.ntmps10
  go_wp2_with fail
  refine Calls.mono (hCd _ ?_) ?_
  · exact (Below.refl _ _).alloc (Nat.le_refl _) _
  rintro e w1 ⟨rfl, hx1⟩
  have hb1 : Below w.heap.size w w1 := bthen ((Below.refl _ _).alloc (Nat.le_refl _) _) hx1
  have hbx := (Bx.new w [.slice a0 m.fInodes.length c0, .slice a1 m.fNames.length c1, .slice a2 m.fSafe.length c2, .int .i64 m.fNext] 27).under hx1
  have y1 := hbx.2 1 _ rfl
  clear hCd
  by_cases hok : diskOk m = true
  · have HL : Hid (listP m = m.fNames.map (·.fName)) := by show listP m = _; unfold listP; rw [if_pos hok]
    rw [hok]
    clear hok
    go_wp2_with fail
    go_loopw [3, 12] (fun v i wr => ∃ k : Nat, k ≤ m.fNames.length ∧ i = .int .i64 k ∧ wr.ownsRow w.heap.size 9 1 v k (((m.fNames.take k).map (·.fName)).map Value.string) ∧ Below w.heap.size w wr) (fun _ i _ => m.fNames.length - (intOf i).toNat)
    case atStart => exact ⟨0, Nat.zero_le _, rfl, ⟨by simp, .inl ⟨rfl, rfl⟩⟩, hb1⟩
    case round =>
      obtain ⟨k, hk, rfl, hown, hbk⟩ := hrel
      by_cases hlt : k < m.fNames.length
      · obtain ⟨b1, o1, rfl, hB, cs, hcl, hcell, rfl, hsz, hwf, _⟩ := (HNL.out.2.2.below rEntry_good hbk) k hlt
        have k0 := hcell 0 _ rfl
        have k1 := hcell 1 _ rfl
        rw [Nat.add_zero] at k0
        have HST := Hid.mk (names_step hlt)
        clear hcell hcl
        generalize m.fNames[k].fName = nm at *
        generalize m.fNames[k].fId = id at *
        have hbs := hbk.size
        go_wp2_with (at_builtin; refine wpList_append_own_at _ rfl _ _ 32 rfl w.heap.size 9 i0 (.string ByteArray.empty) 1 16 Try.underlying32 hi hz0 hz1 hz2 rfl (by decide) _ _ _ rfl (own_below hown (((Below.refl _ _).alloc (Nat.le_refl _) _).alloc (by simp) _)) ⟨wr.heap.size + 1, 0, none⟩ 1 1 [.string nm] rfl rfl (bx_news (by simpa using Bx.new (wr.alloc _) _ _)) (by intro u hu; simp at hu; subst hu; rfl) (by unfold maxLen; omega) (by omega) (by simp; omega) ?_; intro v' w3 hown3 hgrow3 hnil hloc)
        have hT := Turn.after (((Below.refl wr.heap.size wr).alloc (Nat.le_refl _) _).alloc (by simp) _) (turnOwn hgrow3)
        have hge : ∀ k, k ∈ (Value.ownBlock _).toList → w.heap.size ≤ k := fun k hk => (hown.lt k (by simpa using hk)).1
        go_roundw
        case rel => exact ⟨k + 1, by omega, by go_num, own_congr hown3 rfl HST.out, Turn.under hbk hT (fun k hk => hge k hk)⟩
        case measure => simp [intOf]; omega
      · have hkn : k = m.fNames.length := by omega
        subst hkn
        rw [List.take_length] at hown
        have HOW := Hid.mk hown
        go_wp2_with fail
        go_ret
        refine ⟨_, _, rfl, ⟨?_, rfl⟩, ?_, ?_, hbk⟩
        · rw [HL.out]
          exact own_base (own_congr hown (by simp) rfl) (Nat.zero_le _)
        · cases Value.ownBlock _ <;> simp
        · intro b hb
          exact (HOW.out.lt b (by simpa using hb)).1
  · have hok2 : diskOk m = false := Bool.eq_false_iff.2 hok
    have HL : Hid (listP m = []) := by show listP m = _; unfold listP; rw [if_neg hok]
    rw [hok2]
    clear hok
    go_wp2_with fail
    go_ret
    refine ⟨_, [], rfl, ⟨?_, rfl⟩, List.nodup_nil, (fun b hb => by cases hb), hb1⟩
    rw [HL.out]
    exact ⟨by simp, .inl ⟨rfl, rfl⟩⟩


theorem hasId_map {k i : Int} : ∀ l : List MInode, hasId (l.map (cutI k)) i = hasId l i := by
  intro l
  unfold hasId
  rw [List.any_map]
  rfl
theorem fall_ok {m : MDisk} {k : Int} (h : diskOk m = true) (hk : 0 ≤ k) : diskOk (fallP m k) = true := by
  have hr := diskOk_iff.1 h
  have h1 := keep_ok (N := m.fSafe) (S := m.fSafe) hr hr.few' hr.few' hr.safe hr.safe
  have hd : fallP m k = { m with fNames := m.fSafe, fInodes := (keepI { m with fNames := m.fSafe }).map (cutI k) } := by unfold fallP; rw [if_pos ⟨h, hk⟩]
  rw [hd]
  refine diskOk_iff.2 ⟨h1.next, ?_, ?_, ?_, h1.few, h1.few', ?_, ?_, ?_⟩
  · intro n hn
    obtain ⟨x, hx, rfl⟩ := List.mem_map.1 hn
    have h2 := h1.each x hx
    have h3 := cutI_length (k := k) (n := x) hk h2.2.2.1 h2.2.2.2
    refine ⟨h2.1, h2.2.1, ?_, by omega⟩
    show 0 ≤ x.fSure + min k (x.fData.length - x.fSure)
    omega
  · exact List.pairwise_map.2 h1.rise
  · have h2 := sumW_map_le (f := cutI k) (fun n => by unfold cutI wInode; simp; omega) (keepI { m with fNames := m.fSafe })
    exact Nat.le_trans h2 h1.size
  · exact ⟨fun e he => by rw [hasId_map]; exact h1.names.1 e he, h1.names.2⟩
  · exact ⟨fun e he => by rw [hasId_map]; exact h1.safe.1 e he, h1.safe.2⟩
  · intro n hn
    obtain ⟨x, hx, rfl⟩ := List.mem_map.1 hn
    exact h1.all x hx
theorem removed_ok {m : MDisk} {s t : ByteArray} (hc : renameC m s t = 0) : diskOk (removeP (renameP m s t) t) = true := by
  have h3 := rename_to hc
  unfold removeP
  rw [if_pos h3]
  exact remove_ok (call_good h3).1
theorem list_back {m : MDisk} {s t : ByteArray} (hc : renameC m s t = 0) : (listP (fallP (removeP (renameP m s t) t) 0)).length = (listP (fallP m 0)).length := by
  obtain ⟨h1, _⟩ := rename_code hc
  unfold listP
  rw [if_pos (fall_ok (removed_ok hc) (by omega)), if_pos (fall_ok (call_good h1).1 (by omega)), names_back hc]
theorem list_no {m : MDisk} {s t : ByteArray} (hc : renameC m s t ≠ 0) : (listP (renameP m s t)).length = (listP m).length := by rw [rename_no hc]
theorem bytes_same {m : MDisk} {s t : ByteArray} (hc : renameC m s t = 0) : bytesP (renameP m s t) t = bytesP m s := by
  unfold bytesP
  rw [if_pos (rename_to hc), if_pos (rename_code hc).1, rename_data hc]
theorem old_is {m : MDisk} {s t : ByteArray} (hc : renameC m s t = 0) : decide (callP (renameP m s t) s = 0) = decide (s = t) := by
  by_cases h : s = t
  · subst h
    rw [decide_eq_true (rename_to hc), decide_eq_true rfl]
  · rw [decide_eq_false (by rw [rename_from hc h]; decide), decide_eq_false h]
theorem gone_is {m : MDisk} {s t : ByteArray} (hc : renameC m s t = 0) : decide (callP (removeP (renameP m s t) t) t = 0) = false :=
  decide_eq_false (by rw [removed_gone (rename_to hc)]; decide)
theorem renamed_ok {m : MDisk} {s t : ByteArray} (hc : renameC m s t = 0) : diskOk (renameP m s t) = true := (call_good (rename_to hc)).1

end Go.Proofs.Ytmbobjhplkpfoaa

namespace Go.Proofs.Ytmbobjhplkpfoaa
open Go.RowKit Go.Maps

set_option maxHeartbeats 2000000 in
theorem formOk2_any (cs : List Value) (m : MDisk) (a : Option Addr) (c : Nat) (s t : ByteArray) (w : World) (hr : rDisk w.heap.size w cs m) (hw : wDisk m ≤ 1048576) (hs : s.size ≤ 9223372036854775807) (ht : t.size ≤ 9223372036854775807) (ha : ∃ b, a = some ⟨b, 0, none⟩ ∧ b < w.heap.size ∧ w.cell? ⟨b, 0, none⟩ = some (.string s) ∧ w.cell? ⟨b, 1, none⟩ = some (.string t)) :
    Calls Try.prog 27 #[.agg cs.toArray, .slice a 2 c] w fun e w' => e = .returned (.bool (diskOk m && nameOk s && nameOk t)) ∧ Below w.heap.size w w' := by
  have hq := hr
  obtain ⟨a0, c0, a1, c1, a2, c2, rfl, _⟩ := hq
  obtain ⟨b, rfl, hbl, hcs, hct⟩ := ha
  have HW := Hid.mk hw
  have HR := Hid.mk hr
  clear hr hw
  have hCd := fun W (hb : Below w.heap.size w W) => implDiskOk_c _ m W (rDisk_good.mono (rDisk_good.below HR.out hb) hb.size) HW.out
  have hbA := (Below.refl w.heap.size w).alloc (Nat.le_refl _) (.cells #[.slice a0 m.fInodes.length c0, .slice a1 m.fNames.length c1, .slice a2 m.fSafe.length c2, .int .i64 m.fNext] 27)
  go_enter Try.func27, Try.ntmps27
  go_wp2_with fail
  refine wp_loop_rounds 3 ?_
  rw [rounds_succ]
  go_wp2_with fail
  refine (implNameOk_any s _ hs).mono ?_
  rintro e w1 ⟨rfl, hx1⟩
  have hb1 := bthen hbA hx1
  have hbx := (Bx.new w [.slice a0 m.fInodes.length c0, .slice a1 m.fNames.length c1, .slice a2 m.fSafe.length c2, .int .i64 m.fNext] 27).under hx1
  have hct1 := (hb1.cell (p := ⟨b, 1, none⟩) hbl).trans hct
  by_cases hN : nameOk s = true
  · rw [hN]
    go_wp2_with fail
    rw [rounds_succ]
    go_wp2_with fail
    refine (implNameOk_any t _ ht).mono ?_
    rintro e w2 ⟨rfl, hx2⟩
    have hb2 := bthen hb1 hx2
    have hbx2 := hbx.under hx2
    have y0 := hbx2.2 0 _ rfl
    have y1 := hbx2.2 1 _ rfl
    have y2 := hbx2.2 2 _ rfl
    have y3 := hbx2.2 3 _ rfl
    by_cases hM : nameOk t = true
    · rw [hM]
      go_wp2_with fail
      rw [rounds_succ]
      go_wp2_with fail
      refine Calls.mono (hCd _ hb2) ?_
      rintro e w3 ⟨rfl, hx3⟩
      go_wp2_with fail
      go_ret
      exact ⟨by rw [hN, hM, Bool.and_true, Bool.and_true]; rfl, bthen hb2 hx3⟩
    · have hM2 : nameOk t = false := Bool.eq_false_iff.2 hM
      rw [hM2]
      go_wp2_with fail
      go_ret
      exact ⟨by rw [hM2, Bool.and_false]; rfl, hb2⟩
  · have hN2 : nameOk s = false := Bool.eq_false_iff.2 hN
    rw [hN2]
    go_wp2_with fail
    go_ret
    exact ⟨by rw [hN2, Bool.and_false, Bool.false_and]; rfl, hb1⟩

set_option maxHeartbeats 4000000 in
theorem implRename_c (cs : List Value) (m : MDisk) (s t : ByteArray) (w : World) (hr : rDisk w.heap.size w cs m) (hs : s.size ≤ 9223372036854775807) (ht : t.size ≤ 9223372036854775807) (hw : wDisk m ≤ 1048576) (hw1 : s.size ≤ 1048576) (hwt1 : t.size ≤ 1048576) :
    Calls Try.prog 20 #[.agg cs.toArray, .string s, .string t] w fun e w' => ∃ (cs' : List Value) (F : List Nat), e = .returned (.tuple #[.agg cs'.toArray, .int .i64 (renameC m s t)]) ∧ oDisk w' cs' (renameP m s t) F ∧ F.Nodup ∧ (∀ b, b ∈ F → w.heap.size ≤ b) ∧ Below w.heap.size w w' := by
  have hq := hr
  obtain ⟨a0, c0, a1, c1, a2, c2, rfl, hI, hNm, hSf, hnx, _⟩ := hq
  have hw2 : m.fInodes.length + sumW wInode m.fInodes + (m.fNames.length + sumW wEntry m.fNames) + (m.fSafe.length + sumW wEntry m.fSafe) ≤ 1048576 := hw
  have HW := Hid.mk hw
  have HR := Hid.mk hr
  have HNM := Hid.mk hNm
  clear hr hI hNm hSf hw
  go_enter Try.func20, Try.ntmps20
  go_wp2_with fail
  obtain ⟨wq, hwq⟩ : ∃ wq, wq = ((w.alloc (.cells #[.slice a0 m.fInodes.length c0, .slice a1 m.fNames.length c1, .slice a2 m.fSafe.length c2, .int .i64 m.fNext] 27)).alloc (.cells #[.slice none 0 0, .slice none 0 0, .slice none 0 0, .int .i64 0] 27)) := ⟨_, rfl⟩
  have hbW : Below w.heap.size w wq := by rw [hwq]; exact Below.alloc (Below.alloc (Below.refl _ _) (by exact Nat.le_refl _) _) (by simp; try omega) _
  have hbd : Bw wq (w.heap.size) 27 [.slice a0 m.fInodes.length c0, .slice a1 m.fNames.length c1, .slice a2 m.fSafe.length c2, .int .i64 m.fNext] := by rw [hwq]; exact Bw.alloc (Bw.new' _ _ _ (by simp)) _
  have hbr : Bw wq (w.heap.size + 1) 27 [.slice none 0 0, .slice none 0 0, .slice none 0 0, .int .i64 0] := by rw [hwq]; exact Bw.new' _ _ _ (by simp)
  have HQS : Hid (wq.heap.size = w.heap.size + 1 + 1) := by show _ = _; rw [hwq]; simp
  rw [← hwq]
  clear hwq
  have hbL : Below wq.heap.size wq (wq.alloc (.cells #[.string s, .string t] 9)) := (Below.refl _ _).alloc (Nat.le_refl _) _
  have hbB := bthen hbW hbL
  have hfa : ∃ b, (some ⟨w.heap.size + 1 + 1, 0, none⟩ : Option Addr) = some ⟨b, 0, none⟩ ∧ b < (wq.alloc (.cells #[.string s, .string t] 9)).heap.size ∧ (wq.alloc (.cells #[.string s, .string t] 9)).cell? ⟨b, 0, none⟩ = some (.string s) ∧ (wq.alloc (.cells #[.string s, .string t] 9)).cell? ⟨b, 1, none⟩ = some (.string t) := by
    rw [← HQS.out]
    exact ⟨wq.heap.size, rfl, by simp, by simp, by simp⟩
  refine (formOk2_any _ m (some ⟨w.heap.size + 1 + 1, 0, none⟩) 2 s t _ (rDisk_good.mono (rDisk_good.below HR.out hbB) hbB.size) HW.out hs ht hfa).mono ?_
  clear hfa
  rintro e w1 ⟨rfl, hx1'⟩
  have hx1 := bthen hbL hx1'
  have hb1 := bthen hbW hx1
  have hbd1 := hbd.under hx1
  have hbr1 := hbr.under hx1
  have hl1 := hbd1.lt
  have hl1r := hbr1.lt
  have y0 := hbd1.cell 0 _ rfl
  have y1 := hbd1.cell 1 _ rfl
  have y2 := hbd1.cell 2 _ rfl
  have y3 := hbd1.cell 3 _ rfl
  clear hbd hbr hbL hbB hx1'
  by_cases hF : (diskOk m && nameOk s && nameOk t) = true
  · have hF2 := hF
    rw [Bool.and_eq_true, Bool.and_eq_true] at hF2
    obtain ⟨⟨hK, hNs⟩, hNt⟩ := hF2
    have hDR := diskOk_iff.1 hK
    have hRi : Rise m.fNames := hDR.names.rise
    have HNO := Hid.mk (fun i j hi hj he => names_once hRi (i := i) (j := j) hi hj he)
    have HRI0 := Hid.mk hRi
    have HDR := Hid.mk hDR
    have HNT := Hid.mk hNt
    have HCA : Hid (renameC m s t = if hasName m.fNames s = true then 0 else 2) := by
      show _ = _
      unfold renameC callP
      rw [if_pos hNt, hK, hNs]
      rfl
    rw [hF]
    clear hF hK hNs hNt hDR hRi
    go_wp2_with fail
    refine (nameMap_any a1 m.fNames.length c1 m.fNames w1 rfl (LeafL.mono rEntry_good (HNM.out.below rEntry_good hb1) hb1.size) (by omega)).mono ?_
    rintro e w2 ⟨Dm, rfl, hown, hNM, hx2⟩
    have HNM2 := Hid.mk hNM
    clear hNM
    have hb2 := bthen hb1 hx2
    have hbd2 := hbd1.under hx2
    have hbr2 := hbr1.under hx2
    have hl2 := hbd2.lt
    have hl2r := hbr2.lt
    have hz2 := hx2.size
    have hzb1 := hb1.size
    clear y0 y1 y2 y3 hbd1 hbr1
    have y0 := hbd2.cell 0 _ rfl
    have y1 := hbd2.cell 1 _ rfl
    have y2 := hbd2.cell 2 _ rfl
    have y3 := hbd2.cell 3 _ rfl
    by_cases hH : hasName m.fNames s = true
    · have HC0 : Hid (renameC m s t = 0) := by show _ = _; rw [HCA.out, if_pos hH]
      have HV : Hid (renameP m s t = keepD { m with fNames := renameN m s t }) := by show _ = _; unfold renameP renameD; rw [if_pos HC0.out]
      obtain ⟨hk, hnm⟩ := hasName_at hH
      have hid : idOf m.fNames s = m.fNames[nameAt m.fNames s].fId := by unfold idOf; rw [List.getElem?_eq_getElem hk]; rfl
      have hhs : Maps.has Dm (kS s) = true := (HNM2.out.2 s).1.2 ⟨_, hk, hk, hnm⟩
      have HC : Hid (Dm.atKey (kS s) (.lit (.int .i64 0)) = .lit (.int .i64 (idOf m.fNames s))) := by
        obtain ⟨j, hj, _, he, ha⟩ := (HNM2.out.2 s).2 hhs
        have : j = nameAt m.fNames s := HNO.out j _ hj hk (he.trans hnm.symm)
        subst this
        show Dm.atKey _ _ = _
        rw [ha, hid]
      have h3 := renameN_ok HDR.out hH HNT.out
      have HRI : Hid (Rise (renameN m s t)) := h3.1.rise
      have HLN : Hid ((renameN m s t).length ≤ 1000) := by show _ ≤ _; have := h3.2; omega
      have hwt := ok_weight (diskOk_iff.2 HDR.out)
      have h7 := sumW_names (fun e he => (h3.1.1 e he).2)
      have h8 := h3.2
      have HWN : Hid (wDisk { m with fNames := renameN m s t } ≤ 1048576) := by
        show _ ≤ _
        rw [wDisk_eq]
        simp only
        omega
      have HM : Hid (MapIs ((Dm.del (kS s)).put (kS t) (.lit (.int .i64 (idOf m.fNames s)))) (renameN m s t)) := ((MapIs.ofN rfl HNM2.out HRI0.out).del s).put ⟨t, idOf m.fNames s⟩
      have hkey := keyStr hs
      have hkeyt := keyStr ht
      have hnl : m.fNames.length ≤ 30 := hwt.2.2.1
      clear hid hk hnm hH h3 h7 h8 hwt
      go_wp2_with first
        | (at_lookup; refine wpList_lookup_own_ok_int _ rfl _ _ 51 rfl 9 3 .i64 lawStr Try.underlying51 Try.underlying3 (zeroInt _) w1.heap.size m.fNames.length Dm rfl hown _ _ rfl hkey ?_; intro c hat hwc; have hce : c = idOf m.fNames s := (by rw [HC.out] at hat; simp only [DataW.lit.injEq, Lit.int.injEq, true_and] at hat; exact hat.symm); subst hce; clear hat)
        | (at_delete; refine wpList_delete_own _ rfl _ _ 51 9 rfl 3 lawStr Try.underlying51 _ w1.heap.size m.fNames.length Dm rfl hown _ _ rfl hkey ?_; intro w3 hown3 hturn3; have hT3 : Turn [w1.heap.size] w2 w3 := Turn.ofGrown hturn3.grown (fun k hk => by cases hk; simp))
        | (at_mapUpdate; refine wpList_mapUpdate_own _ rfl _ _ _ 51 rfl 9 3 lawStr Try.underlying51 _ w1.heap.size m.fNames.length _ rfl hown3 (by unfold maxLen; omega) _ _ _ rfl rfl hkeyt _ [] (plainElem_int Try.underlying3 hwc) ?_; intro w4 hown4 hgrow4; have hT4 : Turn [w1.heap.size] w2 w4 := hT3.trans (Turn.ofGrown hgrow4 (fun k hk => by cases hk; simp)); have hbd3 := hbd2.turn hT4 (by simp; omega); have hbr3 := hbr2.turn hT4 (by simp; omega); have yy0 := hbd3.cell 0 _ rfl; have yy1 := hbd3.cell 1 _ rfl; have yy2 := hbd3.cell 2 _ rfl; have yy3 := hbd3.cell 3 _ rfl)
      have hb3 : Below w.heap.size w w4 := hb2.trans (hT4.below (fun k hk => by simp at hk; omega) hb2.size)
      clear y0 y1 y2 y3 hown hown3 hturn3 hgrow4
      obtain ⟨kd, hkd⟩ : ∃ kd, kd = keepD { m with fNames := renameN m s t } := ⟨_, rfl⟩
      have HKD := Hid.mk hkd
      clear hkd
      have hcall := withNames_any _ m w1.heap.size _ _ (renameN m s t) w4 (rDisk_good.mono (rDisk_good.below HR.out hb3) hb3.size) hown4 HM.out HRI.out HLN.out HWN.out
      rw [← HKD.out] at hcall
      clear hown4
      refine hcall.mono ?_
      rintro e w5 ⟨cs3, F3, rfl, ho3, hN3, hge3, hx5⟩
      have hb5 := bthen hb3 hx5
      have hbr5 := hbr3.under hx5
      have hl5 := hbr5.lt
      have hz5 := hb3.size
      have hlq5 := hbr3.lt
      obtain ⟨q0, p0, q1, p1, q2, p2, G0, G1, G2, rfl, _, _, _, _, rfl⟩ := oDisk_cells ho3
      have hkey : ∀ W', Turn [w.heap.size + 1] w5 W' → oDisk W' [.slice q0 (kd).fInodes.length p0, .slice q1 (kd).fNames.length p1, .slice q2 (kd).fSafe.length p2, .int .i64 (kd).fNext] (kd) (G0 ++ G1 ++ G2 ++ []) ∧ Below w.heap.size w W' := fun W' hT =>
        ⟨oDisk_good.frame ho3 (fun b hb => hT.block b (oDisk_good.lt ho3 b hb) (fun h => by simp at h; have := hge3 b hb; omega)), hb5.trans (hT.below (fun k hk => by simp at hk; omega) hb5.size)⟩
      have HKEY := Hid.mk hkey
      have HNQ := Hid.mk hN3
      have HGQ : Hid (∀ b, b ∈ G0 ++ G1 ++ G2 ++ [] → w.heap.size ≤ b) := fun b hb => by have := hge3 b hb; omega
      clear hkey ho3 hN3 hge3 
      have ze0 := hbr5.cell 0 _ rfl
      have ze1 := hbr5.cell 1 _ rfl
      have ze2 := hbr5.cell 2 _ rfl
      have ze3 := hbr5.cell 3 _ rfl
      have zf0 := hbr5.free 0
      have zf1 := hbr5.free 1
      have zf2 := hbr5.free 2
      have zf3 := hbr5.free 3
      go_wp2_with fail
      obtain ⟨h1, h3⟩ := HKEY.out _ (show Turn [w.heap.size + 1] w5 ((((w5.setCell ⟨w.heap.size + 1, 0, none⟩ (.slice q0 (kd).fInodes.length p0)).setCell ⟨w.heap.size + 1, 1, none⟩ (.slice q1 (kd).fNames.length p1)).setCell ⟨w.heap.size + 1, 2, none⟩ (.slice q2 (kd).fSafe.length p2)).setCell ⟨w.heap.size + 1, 3, none⟩ (.int .i64 (kd).fNext)) from turn4 _ _ _ _ _ _)
      exact bodyPost_ret (v := .tuple #[.agg #[.slice q0 (kd).fInodes.length p0, .slice q1 (kd).fNames.length p1, .slice q2 (kd).fSafe.length p2, .int .i64 (kd).fNext], .int .i64 0]) (by simp [results, Try.results20, go_sem, *]) rfl ⟨[.slice q0 (kd).fInodes.length p0, .slice q1 (kd).fNames.length p1, .slice q2 (kd).fSafe.length p2, .int .i64 (kd).fNext], _, by rw [HC0.out], by rw [HV.out, ← HKD.out]; exact h1, HNQ.out, HGQ.out, h3⟩
    · have HC2 : Hid (renameC m s t = 2) := by show _ = _; rw [HCA.out, if_neg hH]
      have HV : Hid (renameP m s t = m) := by show _ = _; unfold renameP; rw [HC2.out]; rfl
      have hhs : Maps.has Dm (kS s) = false := by
        rw [Bool.eq_false_iff]
        intro h
        obtain ⟨j, hj, _, he⟩ := (HNM2.out.2 s).1.1 h
        exact hH (hasName_yes hj he)
      have hkey := keyStr hs
      clear hH
      go_wp2_with (at_lookup; refine wpList_lookup_own_ok_int _ rfl _ _ 51 rfl 9 3 .i64 lawStr Try.underlying51 Try.underlying3 (zeroInt _) w1.heap.size m.fNames.length Dm rfl hown _ _ rfl hkey ?_; intro c hat hwc)
      refine (copyDisk_any _ (m) w2 (rDisk_good.mono (rDisk_good.below HR.out hb2) hb2.size) HW.out).mono ?_
      rintro e w3 ⟨cs3, F3, rfl, ho3, hN3, hge3, hx3⟩
      have hb3 := bthen hb2 hx3
      have hbr3 := hbr2.under hx3
      have hl3 := hbr3.lt
      have hz3 := hb2.size
      have hlq3 := hbr2.lt
      obtain ⟨q0, p0, q1, p1, q2, p2, G0, G1, G2, rfl, _, _, _, _, rfl⟩ := oDisk_cells ho3
      have hkey : ∀ W', Turn [w.heap.size + 1] w3 W' → oDisk W' [.slice q0 m.fInodes.length p0, .slice q1 m.fNames.length p1, .slice q2 m.fSafe.length p2, .int .i64 m.fNext] (m) (G0 ++ G1 ++ G2 ++ []) ∧ Below w.heap.size w W' := fun W' hT =>
        ⟨oDisk_good.frame ho3 (fun b hb => hT.block b (oDisk_good.lt ho3 b hb) (fun h => by simp at h; have := hge3 b hb; omega)), hb3.trans (hT.below (fun k hk => by simp at hk; omega) hb3.size)⟩
      have HKEY := Hid.mk hkey
      have HNQ := Hid.mk hN3
      have HGQ : Hid (∀ b, b ∈ G0 ++ G1 ++ G2 ++ [] → w.heap.size ≤ b) := fun b hb => by have := hge3 b hb; omega
      clear hkey ho3 hN3 hge3 
      have ze0 := hbr3.cell 0 _ rfl
      have ze1 := hbr3.cell 1 _ rfl
      have ze2 := hbr3.cell 2 _ rfl
      have ze3 := hbr3.cell 3 _ rfl
      have zf0 := hbr3.free 0
      have zf1 := hbr3.free 1
      have zf2 := hbr3.free 2
      have zf3 := hbr3.free 3
      go_wp2_with fail
      obtain ⟨h1, h3⟩ := HKEY.out _ (show Turn [w.heap.size + 1] w3 ((((w3.setCell ⟨w.heap.size + 1, 0, none⟩ (.slice q0 m.fInodes.length p0)).setCell ⟨w.heap.size + 1, 1, none⟩ (.slice q1 m.fNames.length p1)).setCell ⟨w.heap.size + 1, 2, none⟩ (.slice q2 m.fSafe.length p2)).setCell ⟨w.heap.size + 1, 3, none⟩ (.int .i64 m.fNext)) from turn4 _ _ _ _ _ _)
      exact bodyPost_ret (v := .tuple #[.agg #[.slice q0 m.fInodes.length p0, .slice q1 m.fNames.length p1, .slice q2 m.fSafe.length p2, .int .i64 m.fNext], .int .i64 2]) (by simp [results, Try.results20, go_sem, *]) rfl ⟨[.slice q0 m.fInodes.length p0, .slice q1 m.fNames.length p1, .slice q2 m.fSafe.length p2, .int .i64 m.fNext], _, by rw [HC2.out], by rw [HV.out]; exact h1, HNQ.out, HGQ.out, h3⟩
  · have hF2 : (diskOk m && nameOk s && nameOk t) = false := Bool.eq_false_iff.2 hF
    have HC1 : Hid (renameC m s t = 1) := by
      show _ = _
      unfold renameC callP
      by_cases h1 : nameOk t = true
      · rw [h1, Bool.and_true] at hF2
        rw [if_pos h1, hF2]
        rfl
      · rw [if_neg h1]
    have HV : Hid (renameP m s t = m) := by show _ = _; unfold renameP; rw [HC1.out]; rfl
    rw [hF2]
    clear hF hF2
    go_wp2_with fail
    refine (copyDisk_any _ (m) w1 (rDisk_good.mono (rDisk_good.below HR.out hb1) hb1.size) HW.out).mono ?_
    rintro e w2 ⟨cs3, F3, rfl, ho3, hN3, hge3, hx2⟩
    have hb2 := bthen hb1 hx2
    have hbr2 := hbr1.under hx2
    have hl2 := hbr2.lt
    have hz2 := hb1.size
    have hlq2 := hbr1.lt
    obtain ⟨q0, p0, q1, p1, q2, p2, G0, G1, G2, rfl, _, _, _, _, rfl⟩ := oDisk_cells ho3
    have hkey : ∀ W', Turn [w.heap.size + 1] w2 W' → oDisk W' [.slice q0 m.fInodes.length p0, .slice q1 m.fNames.length p1, .slice q2 m.fSafe.length p2, .int .i64 m.fNext] (m) (G0 ++ G1 ++ G2 ++ []) ∧ Below w.heap.size w W' := fun W' hT =>
      ⟨oDisk_good.frame ho3 (fun b hb => hT.block b (oDisk_good.lt ho3 b hb) (fun h => by simp at h; have := hge3 b hb; omega)), hb2.trans (hT.below (fun k hk => by simp at hk; omega) hb2.size)⟩
    have HKEY := Hid.mk hkey
    have HNQ := Hid.mk hN3
    have HGQ : Hid (∀ b, b ∈ G0 ++ G1 ++ G2 ++ [] → w.heap.size ≤ b) := fun b hb => by have := hge3 b hb; omega
    clear hkey ho3 hN3 hge3 
    have ze0 := hbr2.cell 0 _ rfl
    have ze1 := hbr2.cell 1 _ rfl
    have ze2 := hbr2.cell 2 _ rfl
    have ze3 := hbr2.cell 3 _ rfl
    have zf0 := hbr2.free 0
    have zf1 := hbr2.free 1
    have zf2 := hbr2.free 2
    have zf3 := hbr2.free 3
    go_wp2_with fail
    obtain ⟨h1, h3⟩ := HKEY.out _ (show Turn [w.heap.size + 1] w2 ((((w2.setCell ⟨w.heap.size + 1, 0, none⟩ (.slice q0 m.fInodes.length p0)).setCell ⟨w.heap.size + 1, 1, none⟩ (.slice q1 m.fNames.length p1)).setCell ⟨w.heap.size + 1, 2, none⟩ (.slice q2 m.fSafe.length p2)).setCell ⟨w.heap.size + 1, 3, none⟩ (.int .i64 m.fNext)) from turn4 _ _ _ _ _ _)
    exact bodyPost_ret (v := .tuple #[.agg #[.slice q0 m.fInodes.length p0, .slice q1 m.fNames.length p1, .slice q2 m.fSafe.length p2, .int .i64 m.fNext], .int .i64 1]) (by simp [results, Try.results20, go_sem, *]) rfl ⟨[.slice q0 m.fInodes.length p0, .slice q1 m.fNames.length p1, .slice q2 m.fSafe.length p2, .int .i64 m.fNext], _, by rw [HC1.out], by rw [HV.out]; exact h1, HNQ.out, HGQ.out, h3⟩


set_option maxHeartbeats 4000000 in
theorem implRemove_c (cs : List Value) (m : MDisk) (s : ByteArray) (w : World) (hr : rDisk w.heap.size w cs m) (hs : s.size ≤ 9223372036854775807) (hw : wDisk m ≤ 1048576) (hw1 : s.size ≤ 1048576) :
    Calls Try.prog 22 #[.agg cs.toArray, .string s] w fun e w' => ∃ (cs' : List Value) (F : List Nat), e = .returned (.tuple #[.agg cs'.toArray, .int .i64 (callP m s)]) ∧ oDisk w' cs' (removeP m s) F ∧ F.Nodup ∧ (∀ b, b ∈ F → w.heap.size ≤ b) ∧ Below w.heap.size w w' := by
  have hq := hr
  obtain ⟨a0, c0, a1, c1, a2, c2, rfl, hI, hNm, hSf, hnx, _⟩ := hq
  have hw2 : m.fInodes.length + sumW wInode m.fInodes + (m.fNames.length + sumW wEntry m.fNames) + (m.fSafe.length + sumW wEntry m.fSafe) ≤ 1048576 := hw
  have HW := Hid.mk hw
  have HR := Hid.mk hr
  have HNM := Hid.mk hNm
  clear hr hI hNm hSf hw
  go_enter Try.func22, Try.ntmps22
  go_wp2_with fail
  obtain ⟨wq, hwq⟩ : ∃ wq, wq = ((w.alloc (.cells #[.slice a0 m.fInodes.length c0, .slice a1 m.fNames.length c1, .slice a2 m.fSafe.length c2, .int .i64 m.fNext] 27)).alloc (.cells #[.slice none 0 0, .slice none 0 0, .slice none 0 0, .int .i64 0] 27)) := ⟨_, rfl⟩
  have hbW : Below w.heap.size w wq := by rw [hwq]; exact Below.alloc (Below.alloc (Below.refl _ _) (by exact Nat.le_refl _) _) (by simp; try omega) _
  have hbd : Bw wq (w.heap.size) 27 [.slice a0 m.fInodes.length c0, .slice a1 m.fNames.length c1, .slice a2 m.fSafe.length c2, .int .i64 m.fNext] := by rw [hwq]; exact Bw.alloc (Bw.new' _ _ _ (by simp)) _
  have hbr : Bw wq (w.heap.size + 1) 27 [.slice none 0 0, .slice none 0 0, .slice none 0 0, .int .i64 0] := by rw [hwq]; exact Bw.new' _ _ _ (by simp)
  rw [← hwq]
  clear hwq
  refine (findFile_any _ m s wq (rDisk_good.mono (rDisk_good.below HR.out hbW) hbW.size) HW.out hs).mono ?_
  rintro e w1 ⟨p, rfl, hp, hx1⟩
  clear hp
  have hb1 := bthen hbW hx1
  have hbd1 := hbd.under hx1
  have hbr1 := hbr.under hx1
  have hl1 := hbd1.lt
  have hl1r := hbr1.lt
  have y0 := hbd1.cell 0 _ rfl
  have y1 := hbd1.cell 1 _ rfl
  have y2 := hbd1.cell 2 _ rfl
  have y3 := hbd1.cell 3 _ rfl
  clear hbd hbr
  by_cases hC : callP m s = 0
  · have HCz := Hid.mk hC
    have HV : Hid (removeP m s = keepD { m with fNames := without m.fNames s }) := by show _ = _; unfold removeP removeD; rw [if_pos hC]
    have hDR := diskOk_iff.1 (call_good hC).1
    have hRi : Rise m.fNames := hDR.names.rise
    have hfew := hDR.few
    have hsub : (without m.fNames s).Sublist m.fNames := List.filter_sublist
    have HRI : Hid (Rise (without m.fNames s)) := hRi.sublist hsub
    have HRI0 := Hid.mk hRi
    have HLN : Hid ((without m.fNames s).length ≤ 1000) := by show _ ≤ _; have := hsub.length_le; omega
    have HWN : Hid (wDisk { m with fNames := without m.fNames s } ≤ 1048576) := by
      show _ ≤ _
      have h2 := sumW_sublist (f := wEntry) hsub
      have h3 := hsub.length_le
      rw [wDisk_eq]
      simp only
      omega
    have hkey := keyStr hs
    rw [hC]
    clear hC hDR hRi hsub
    go_wp2_with fail
    refine (nameMap_any a1 m.fNames.length c1 m.fNames w1 rfl (LeafL.mono rEntry_good (HNM.out.below rEntry_good hb1) hb1.size) (by omega)).mono ?_
    rintro e w2 ⟨Dm, rfl, hown, hNM, hx2⟩
    have HM : Hid (MapIs (Dm.del (kS s)) (without m.fNames s)) := (MapIs.ofN rfl hNM HRI0.out).del s
    clear hNM
    have hb2 := bthen hb1 hx2
    have hbd2 := hbd1.under hx2
    have hbr2 := hbr1.under hx2
    have hl2 := hbd2.lt
    have hl2r := hbr2.lt
    have hz2 := hx2.size
    have hzb1 := hb1.size
    have y0 := hbd2.cell 0 _ rfl
    have y1 := hbd2.cell 1 _ rfl
    have y2 := hbd2.cell 2 _ rfl
    have y3 := hbd2.cell 3 _ rfl
    clear hbd1 hbr1
    go_wp2_with (at_delete; refine wpList_delete_own _ rfl _ _ 51 9 rfl 3 lawStr Try.underlying51 _ w1.heap.size m.fNames.length Dm rfl hown _ _ rfl hkey ?_; intro w3 hown3 hturn3; have hT3 : Turn [w1.heap.size] w2 w3 := Turn.ofGrown hturn3.grown (fun k hk => by cases hk; simp); have hbd3 := hbd2.turn hT3 (by simp; omega); have hbr3 := hbr2.turn hT3 (by simp; omega); have yy0 := hbd3.cell 0 _ rfl; have yy1 := hbd3.cell 1 _ rfl; have yy2 := hbd3.cell 2 _ rfl; have yy3 := hbd3.cell 3 _ rfl)
    have hb3 : Below w.heap.size w w3 := hb2.trans (hT3.below (fun k hk => by simp at hk; omega) hb2.size)
    clear y0 y1 y2 y3 hown hturn3
    obtain ⟨kd, hkd⟩ : ∃ kd, kd = keepD { m with fNames := without m.fNames s } := ⟨_, rfl⟩
    have HKD := Hid.mk hkd
    clear hkd
    have hcall := withNames_any _ m w1.heap.size m.fNames.length _ (without m.fNames s) w3 (rDisk_good.mono (rDisk_good.below HR.out hb3) hb3.size) hown3 HM.out HRI.out HLN.out HWN.out
    rw [← HKD.out] at hcall
    clear hown3
    refine hcall.mono ?_
    rintro e w4 ⟨cs3, F3, rfl, ho3, hN3, hge3, hx4⟩
    have hb4 := bthen hb3 hx4
    have hbr4 := hbr3.under hx4
    have hl4 := hbr4.lt
    have hz4 := hb3.size
    have hlq4 := hbr3.lt
    obtain ⟨q0, p0, q1, p1, q2, p2, G0, G1, G2, rfl, _, _, _, _, rfl⟩ := oDisk_cells ho3
    have hkey : ∀ W', Turn [w.heap.size + 1] w4 W' → oDisk W' [.slice q0 (kd).fInodes.length p0, .slice q1 (kd).fNames.length p1, .slice q2 (kd).fSafe.length p2, .int .i64 (kd).fNext] (kd) (G0 ++ G1 ++ G2 ++ []) ∧ Below w.heap.size w W' := fun W' hT =>
      ⟨oDisk_good.frame ho3 (fun b hb => hT.block b (oDisk_good.lt ho3 b hb) (fun h => by simp at h; have := hge3 b hb; omega)), hb4.trans (hT.below (fun k hk => by simp at hk; omega) hb4.size)⟩
    have HKEY := Hid.mk hkey
    have HNQ := Hid.mk hN3
    have HGQ : Hid (∀ b, b ∈ G0 ++ G1 ++ G2 ++ [] → w.heap.size ≤ b) := fun b hb => by have := hge3 b hb; omega
    clear hkey ho3 hN3 hge3 
    have ze0 := hbr4.cell 0 _ rfl
    have ze1 := hbr4.cell 1 _ rfl
    have ze2 := hbr4.cell 2 _ rfl
    have ze3 := hbr4.cell 3 _ rfl
    have zf0 := hbr4.free 0
    have zf1 := hbr4.free 1
    have zf2 := hbr4.free 2
    have zf3 := hbr4.free 3
    go_wp2_with fail
    obtain ⟨h1, h3⟩ := HKEY.out _ (show Turn [w.heap.size + 1] w4 ((((w4.setCell ⟨w.heap.size + 1, 0, none⟩ (.slice q0 (kd).fInodes.length p0)).setCell ⟨w.heap.size + 1, 1, none⟩ (.slice q1 (kd).fNames.length p1)).setCell ⟨w.heap.size + 1, 2, none⟩ (.slice q2 (kd).fSafe.length p2)).setCell ⟨w.heap.size + 1, 3, none⟩ (.int .i64 (kd).fNext)) from turn4 _ _ _ _ _ _)
    exact bodyPost_ret (v := .tuple #[.agg #[.slice q0 (kd).fInodes.length p0, .slice q1 (kd).fNames.length p1, .slice q2 (kd).fSafe.length p2, .int .i64 (kd).fNext], .int .i64 0]) (by simp [results, Try.results22, go_sem, *]) rfl ⟨[.slice q0 (kd).fInodes.length p0, .slice q1 (kd).fNames.length p1, .slice q2 (kd).fSafe.length p2, .int .i64 (kd).fNext], _, by rw [HCz.out], by rw [HV.out, ← HKD.out]; exact h1, HNQ.out, HGQ.out, h3⟩
  · have HV : Hid (removeP m s = m) := by show _ = _; unfold removeP; rw [if_neg hC]
    have hcn : (callP m s == 0) = false := beq_eq_false_iff_ne.2 hC
    obtain ⟨cp, hcp⟩ : ∃ cp, callP m s = cp := ⟨_, rfl⟩
    rw [hcp] at hcn ⊢
    have HCP := Hid.mk hcp
    clear hcp hC
    go_wp2_with fail
    refine (copyDisk_any _ (m) w1 (rDisk_good.mono (rDisk_good.below HR.out hb1) hb1.size) HW.out).mono ?_
    rintro e w2 ⟨cs3, F3, rfl, ho3, hN3, hge3, hx2⟩
    have hb2 := bthen hb1 hx2
    have hbr2 := hbr1.under hx2
    have hl2 := hbr2.lt
    have hz2 := hb1.size
    have hlq2 := hbr1.lt
    obtain ⟨q0, p0, q1, p1, q2, p2, G0, G1, G2, rfl, _, _, _, _, rfl⟩ := oDisk_cells ho3
    have hkey : ∀ W', Turn [w.heap.size + 1] w2 W' → oDisk W' [.slice q0 m.fInodes.length p0, .slice q1 m.fNames.length p1, .slice q2 m.fSafe.length p2, .int .i64 m.fNext] (m) (G0 ++ G1 ++ G2 ++ []) ∧ Below w.heap.size w W' := fun W' hT =>
      ⟨oDisk_good.frame ho3 (fun b hb => hT.block b (oDisk_good.lt ho3 b hb) (fun h => by simp at h; have := hge3 b hb; omega)), hb2.trans (hT.below (fun k hk => by simp at hk; omega) hb2.size)⟩
    have HKEY := Hid.mk hkey
    have HNQ := Hid.mk hN3
    have HGQ : Hid (∀ b, b ∈ G0 ++ G1 ++ G2 ++ [] → w.heap.size ≤ b) := fun b hb => by have := hge3 b hb; omega
    clear hkey ho3 hN3 hge3 
    have ze0 := hbr2.cell 0 _ rfl
    have ze1 := hbr2.cell 1 _ rfl
    have ze2 := hbr2.cell 2 _ rfl
    have ze3 := hbr2.cell 3 _ rfl
    have zf0 := hbr2.free 0
    have zf1 := hbr2.free 1
    have zf2 := hbr2.free 2
    have zf3 := hbr2.free 3
    go_wp2_with fail
    obtain ⟨h1, h3⟩ := HKEY.out _ (show Turn [w.heap.size + 1] w2 ((((w2.setCell ⟨w.heap.size + 1, 0, none⟩ (.slice q0 m.fInodes.length p0)).setCell ⟨w.heap.size + 1, 1, none⟩ (.slice q1 m.fNames.length p1)).setCell ⟨w.heap.size + 1, 2, none⟩ (.slice q2 m.fSafe.length p2)).setCell ⟨w.heap.size + 1, 3, none⟩ (.int .i64 m.fNext)) from turn4 _ _ _ _ _ _)
    exact bodyPost_ret (v := .tuple #[.agg #[.slice q0 m.fInodes.length p0, .slice q1 m.fNames.length p1, .slice q2 m.fSafe.length p2, .int .i64 m.fNext], .int .i64 cp]) (by simp [results, Try.results22, go_sem, *]) rfl ⟨[.slice q0 m.fInodes.length p0, .slice q1 m.fNames.length p1, .slice q2 m.fSafe.length p2, .int .i64 m.fNext], _, by rw [HCP.out], by rw [HV.out]; exact h1, HNQ.out, HGQ.out, h3⟩

end Go.Proofs.Ytmbobjhplkpfoaa
