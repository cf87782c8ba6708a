/-
  The draws of texts, of keys and of pairs: what comes out is short; only the cursor is written.
-/
import Derived.Test.YtadadkookbkkoaaDoorDrawN
import Derived.Test.YtadadkookbkkoaaDoorDatN
import Derived.Test.YtadadkookbkkoaaDoorPDat
import Derived.Test.YtadadkookbkkoaaDoorRowG
namespace Go.Proofs.YtadadkookbkkoaaDoor
open Go.RowKit
set_option linter.unusedVariables false
set_option linter.unusedSimpArgs false
set_option maxRecDepth 10000

theorem Bx.grown {w w' : World} {b : Nat} {vs : List Value} {r : Option Nat} (h : Bx w b vs) (hg : w.grownBy w' r) (hr : r ≠ some b) : Bx w' b vs :=
  ⟨Nat.lt_of_lt_of_le h.1 hg.size, fun i u hu => hg.cell (h.2 i u hu) (by simpa using fun e => hr e.symm)⟩
theorem grown_alloc {w w' : World} {r : Option Nat} (h : w.grownBy w' r) (o : Obj) : w.grownBy (w'.alloc o) r := grown_trans h (World.grownBy_alloc _ _ _)

set_option maxHeartbeats 400000 in
theorem l1Str_ok {g : Nat} {w : World} (b n : Nat) (ss : List ByteArray) (hc : CurOk w g) (hb : Bx w b (ss.map Value.string)) (hne : b ≠ g) (hn : ss.length = n) (h0 : 0 < n) (h1 : n ≤ 1000000) :
    Calls Tryd.prog 51 #[.pointer (some ⟨g, 0, none⟩), .slice (some ⟨b, 0, none⟩) n n] w fun e w' => ∃ s, (s ∈ ss ∧ e = .returned (.string s)) ∧ CurOk w' g ∧ w.grownBy w' (some g) := by
  have HN := Hid.mk hn
  clear hn
  go_enter Tryd.func51, Tryd.ntmps51
  go_wp2_with fail
  refine (l1Below_ok _ hc).mono ?_
  rintro e w1 ⟨x, rfl, hx, hc1, hg1⟩
  obtain ⟨x, rfl⟩ := Int.eq_ofNat_of_zero_le hx.1
  have hxm : x < n := by omega
  have hxs : x < ss.length := by rw [HN.out]; exact hxm
  have hcell := (hb.grown hg1 (fun e => hne (Option.some.inj e).symm)).2 x (.string ss[x]) (by simp [hxs])
  have HM := Hid.mk (List.getElem_mem hxs)
  generalize ss[x] = s at *
  clear hx
  go_wp2_with fail
  go_ret
  exact ⟨s, ⟨HM.out, rfl⟩, hc1, hg1⟩

set_option maxHeartbeats 400000 in
theorem l1Once_ok {g : Nat} {w : World} (q : Int) (hc : CurOk w g) :
    Calls Tryd.prog 28 #[.pointer (some ⟨g, 0, none⟩), .int .i64 q] w fun e w' => ∃ x : Bool, e = .returned (.bool x) ∧ CurOk w' g ∧ w.grownBy w' (some g) := by
  go_enter Tryd.func28, Tryd.ntmps28
  go_wp2_with fail
  refine (l1Below_ok _ hc).mono ?_
  rintro e w1 ⟨x, rfl, hx, hc1, hg1⟩
  go_wp2_with fail
  go_ret
  exact ⟨_, rfl, hc1, hg1⟩

def keysL : List ByteArray := [⟨#[97]⟩, ⟨#[97, 98]⟩, ⟨#[97, 98, 99]⟩, ⟨#[98]⟩, ⟨#[98, 97]⟩, ⟨#[99]⟩, ⟨#[100]⟩, ⟨#[107, 101, 121, 49]⟩, ⟨#[107, 101, 121, 49, 48]⟩, ⟨#[107, 101, 121, 50]⟩, ⟨#[122]⟩]
theorem keysL_short : ∀ s, s ∈ keysL → s.size ≤ 20 := by decide

set_option maxHeartbeats 400000 in
theorem l4Key_ok {g : Nat} {w : World} (hc : CurOk w g) :
    Calls Tryd.prog 53 #[.pointer (some ⟨g, 0, none⟩)] w fun e w' => ∃ s : ByteArray, (e = .returned (.string s) ∧ s.size ≤ 20) ∧ CurOk w' g ∧ w.grownBy w' (some g) := by
  have hgl := hc.lt
  go_enter Tryd.func53, Tryd.ntmps53
  go_wp2_with fail
  refine (l1Str_ok w.heap.size 11 keysL (hc.below ((Below.refl _ _).alloc (Nat.le_refl _) _)) (Bx.new w (keysL.map Value.string) 9) (by omega) rfl (by omega) (by omega)).mono ?_
  rintro e w1 ⟨s, ⟨hs, rfl⟩, hc1, hg1⟩
  have hss := keysL_short s hs
  go_wp2_with fail
  go_ret
  exact ⟨s, ⟨rfl, hss⟩, hc1, grown_trans (World.grownBy_alloc w _ _) hg1⟩

theorem grown_setCell {w w' : World} {r : Option Nat} (h : w.grownBy w' r) {p : Addr} (hp : w.heap.size ≤ p.block) (u : Value) : w.grownBy (w'.setCell p u) r :=
  ⟨h.os, h.tape, h.output, by have := h.size; simpa [World.setCell] using this, fun k hk hr => by rw [Below.heap_setCell _ _ _ _ (by omega)]; exact h.block k hk hr⟩
theorem CurOk.setCell {w : World} {g : Nat} (h : CurOk w g) {p : Addr} (hp : g < p.block) (u : Value) : CurOk (w.setCell p u) g := by
  obtain ⟨a, n, cap, B, zs, h1, h2, h3, h4, ⟨i, q, h5, h6, h7⟩, h8⟩ := h
  refine ⟨a, n, cap, B, zs, h1, h2, h3, h4.below ((Below.refl _ _).setCell (by omega) u), ⟨i, q, h5, h6, ?_⟩, by simpa [World.setCell] using h8⟩
  rw [Below.heap_setCell _ _ _ _ (by omega)]
  exact h7
theorem CurOk.alloc {w : World} {g : Nat} (h : CurOk w g) (o : Obj) : CurOk (w.alloc o) g := h.below ((Below.refl _ _).alloc (Nat.le_refl _) _)
theorem Bw.grown {w w' : World} {b : Nat} {t : TypeId} {vs : List Value} {r : Option Nat} (h : Bw w b t vs) (hg : w.grownBy w' r) (hr : r ≠ some b) : Bw w' b t vs :=
  (hg.block b h.lt (fun e => hr e.symm)).trans h

def valsL : List ByteArray := [⟨#[]⟩, ⟨#[49]⟩, ⟨#[50]⟩, ⟨#[120, 121, 122]⟩, ⟨#[0]⟩]
theorem valsL_short : ∀ s, s ∈ valsL → s.size ≤ 21 := by decide

set_option maxHeartbeats 1000000 in
theorem l4Pair_ok {g : Nat} {w : World} (hc : CurOk w g) :
    Calls Tryd.prog 50 #[.pointer (some ⟨g, 0, none⟩)] w fun e w' => ∃ p : MPair, (e = .returned (.agg #[.string p.fKey, .string p.fVal, .bool p.fGone]) ∧ p.fKey.size ≤ 21 ∧ p.fVal.size ≤ 21) ∧ CurOk w' g ∧ w.grownBy w' (some g) := by
  have hgl := hc.lt
  obtain ⟨wq, hwq⟩ : ∃ x, x = w.alloc (.cells #[.string ⟨#[]⟩, .string ⟨#[]⟩, .bool false] 28) := ⟨_, rfl⟩
  have hbr : Bw wq w.heap.size 28 [.string ⟨#[]⟩, .string ⟨#[]⟩, .bool false] := by rw [hwq]; exact Bw.new _ _ _
  have hcq : CurOk wq g := by rw [hwq]; exact hc.alloc _
  have hgq : w.grownBy wq (some g) := by rw [hwq]; exact World.grownBy_alloc w _ _
  go_enter Tryd.func50, Tryd.ntmps50
  go_wp2_with (rw [← hwq])
  refine (l4Key_ok hcq).mono ?_
  rintro e w1 ⟨s, ⟨rfl, hs⟩, hc1, hg1⟩
  go_wp2_with fail
  refine (l1Once_ok _ hc1).mono ?_
  rintro e w2 ⟨b, rfl, hc2, hg2⟩
  have hbr2 := (hbr.grown hg1 (by simp; omega)).grown hg2 (by simp; omega)
  have hgw2 := grown_trans hgq (grown_trans hg1 hg2)
  have hlr := hbr2.lt
  have f0 := hbr2.free 0
  have f1 := hbr2.free 1
  have f2 := hbr2.free 2
  have y0 := hbr2.cell 0 _ rfl
  have y1 := hbr2.cell 1 _ rfl
  have y2 := hbr2.cell 2 _ rfl
  clear hwq hcq hgq hbr hg1 hg2 hc1
  cases b with
  | true =>
    go_wp2_with fail
    refine bodyPost_ret (v := .agg #[.string s, .string ⟨#[]⟩, .bool true]) (by simp [results, Tryd.results50, go_sem, *]) rfl ⟨⟨s, ⟨#[]⟩, true⟩, ⟨rfl, by show s.size ≤ 21; omega, by show 0 ≤ 21; omega⟩, ?_, ?_⟩
    · repeat (first | exact hc2 | refine CurOk.setCell ?_ (by first | (simp; omega) | (show g < _; omega)) _ | refine CurOk.alloc ?_ _)
    · repeat (first | exact hgw2 | refine grown_setCell ?_ (by first | exact Nat.le_refl _ | (simp; omega)) _ | refine grown_alloc ?_ _)
  | false =>
    obtain ⟨w3, hw3⟩ : ∃ x, x = (w2.alloc (.cells #[.string s, .string ⟨#[]⟩, .bool false] 28)).alloc (.cells (valsL.map Value.string).toArray 9) := ⟨_, rfl⟩
    have hbp : Bw w3 w2.heap.size 28 [.string s, .string ⟨#[]⟩, .bool false] := by rw [hw3]; exact (Bw.new _ _ _).alloc _
    have hbl : Bx w3 (w2.heap.size + 1) (valsL.map Value.string) := by rw [hw3]; have h := Bx.new (w2.alloc (.cells #[.string s, .string ⟨#[]⟩, .bool false] 28)) (valsL.map Value.string) 9; simpa using h
    have hbr3 : Bw w3 w.heap.size 28 [.string ⟨#[]⟩, .string ⟨#[]⟩, .bool false] := by rw [hw3]; exact (hbr2.alloc _).alloc _
    have hc3 : CurOk w3 g := by rw [hw3]; exact (hc2.alloc _).alloc _
    have hgw3 : w.grownBy w3 (some g) := by rw [hw3]; exact grown_alloc (grown_alloc hgw2 _) _
    go_wp2_with fail
    rw [show (w2.alloc (.cells #[.string s, .string ⟨#[]⟩, .bool false] 28)).alloc (.cells #[.string ⟨#[]⟩, .string ⟨#[49]⟩, .string ⟨#[50]⟩, .string ⟨#[120, 121, 122]⟩, .string ⟨#[0]⟩] 9) = w3 from hw3.symm]
    refine (l1Str_ok (w2.heap.size + 1) 5 valsL hc3 hbl (by omega) rfl (by omega) (by omega)).mono ?_
    rintro e w4 ⟨t, ⟨ht, rfl⟩, hc4, hg4⟩
    have hts := valsL_short t ht
    have hgw4 := grown_trans hgw3 hg4
    have hbr4 := hbr3.grown hg4 (by simp; omega)
    have hbp4 := hbp.grown hg4 (by simp; omega)
    have hl4 := hbp4.lt
    have p0 := hbp4.cell 0 _ rfl
    have p1 := hbp4.cell 1 _ rfl
    have p2 := hbp4.cell 2 _ rfl
    have pf := hbp4.free 1
    replace f0 := hbr4.free 0
    replace f1 := hbr4.free 1
    replace f2 := hbr4.free 2
    replace y0 := hbr4.cell 0 _ rfl
    replace y1 := hbr4.cell 1 _ rfl
    replace y2 := hbr4.cell 2 _ rfl
    have hne : w.heap.size ≠ w2.heap.size := by omega
    have hne2 : w2.heap.size ≠ w.heap.size := by omega
    clear hw3 hbl hbp hbr3 hbr2 hc3 hgw3 hg4 hc2 hgw2
    go_wp2_with fail
    refine bodyPost_ret (v := .agg #[.string s, .string t, .bool false]) (by simp [results, Tryd.results50, go_sem, *]) rfl ⟨⟨s, t, false⟩, ⟨rfl, by show s.size ≤ 21; omega, hts⟩, ?_, ?_⟩
    · repeat (first | exact hc4 | refine CurOk.setCell ?_ (by first | (simp; omega) | (show g < _; omega)) _ | refine CurOk.alloc ?_ _)
    · repeat (first | exact hgw4 | refine grown_setCell ?_ (by first | exact Nat.le_refl _ | (simp; omega)) _ | refine grown_alloc ?_ _)

end Go.Proofs.YtadadkookbkkoaaDoor
