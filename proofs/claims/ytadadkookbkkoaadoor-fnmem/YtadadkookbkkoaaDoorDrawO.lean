/-
  The draws of a pair of any kind, and of a table in memory that may be wrong.
-/
import Derived.Test.YtadadkookbkkoaaDoorDrawM
namespace Go.Proofs.YtadadkookbkkoaaDoor
open Go.RowKit Go.Maps
set_option linter.unusedVariables false
set_option linter.unusedSimpArgs false
set_option maxRecDepth 10000

def oddL : List ByteArray := [⟨#[]⟩, ⟨#[116, 119, 101, 110, 116, 121, 45, 111, 110, 101, 45, 98, 121, 116, 101, 115, 45, 108, 111, 110, 103]⟩, ⟨#[116, 119, 101, 110, 116, 121, 45, 98, 121, 116, 101, 115, 45, 108, 111, 110, 103, 45, 50, 48]⟩]
theorem oddL_short : ∀ s, s ∈ oddL → s.size ≤ 21 := by decide
/-- What a draw of a pair answers. -/
def PairPost (w : World) (g : Nat) (e : Ending) (w' : World) : Prop := ∃ p : MPair, (e = .returned (.agg #[.string p.fKey, .string p.fVal, .bool p.fGone]) ∧ p.fKey.size ≤ 21 ∧ p.fVal.size ≤ 21) ∧ CurOk w' g ∧ w.grownBy w' (some g)

set_option maxHeartbeats 2000000 in
theorem l4PairAny_ok {g : Nat} {w : World} (hc : CurOk w g) :
    Calls Tryd.prog 30 #[.pointer (some ⟨g, 0, none⟩)] w fun e w' => PairPost w g e w' := by
  have hgl := hc.lt
  obtain ⟨wq, hwq⟩ : ∃ x, x = w.alloc (.cells #[.string ⟨#[]⟩, .string ⟨#[]⟩, .bool false] 28) := ⟨_, rfl⟩
  have hbr : Bw wq w.heap.size 28 [.string ⟨#[]⟩, .string ⟨#[]⟩, .bool false] := by rw [hwq]; exact Bw.new _ _ _
  have hcq : CurOk wq g := by rw [hwq]; exact hc.alloc _
  have hgq : w.grownBy wq (some g) := by rw [hwq]; exact World.grownBy_alloc w _ _
  go_enter Tryd.func30, Tryd.ntmps30
  go_wp2_with (rw [← hwq])
  refine (l4Pair_ok hcq).mono ?_
  rintro e w1 ⟨p, ⟨rfl, hp1, hp2⟩, hc1, hg1⟩
  obtain ⟨w2, hw2⟩ : ∃ x, x = w1.alloc (.cells #[.string p.fKey, .string p.fVal, .bool p.fGone] 28) := ⟨_, rfl⟩
  have hbp2 : Bw w2 w1.heap.size 28 [.string p.fKey, .string p.fVal, .bool p.fGone] := by rw [hw2]; exact Bw.new _ _ _
  have hbr2 : Bw w2 w.heap.size 28 [.string ⟨#[]⟩, .string ⟨#[]⟩, .bool false] := by rw [hw2]; exact (hbr.grown hg1 (by simp; omega)).alloc _
  have hc2 : CurOk w2 g := by rw [hw2]; exact hc1.alloc _
  have hg2 : w.grownBy w2 (some g) := by rw [hw2]; exact grown_alloc (grown_trans hgq hg1) _
  have hz1 : w.heap.size < w1.heap.size := by have h := (hbr.grown hg1 (by simp; omega)).lt; exact h
  go_wp2_with (rw [← hw2])
  refine (l1Below_ok 14 hc2).mono ?_
  rintro e w3 ⟨x, rfl, hx, hc3, hg3⟩
  have hbp3 := hbp2.grown hg3 (by simp; omega)
  have hbr3 := hbr2.grown hg3 (by simp; omega)
  have hgw3 := grown_trans hg2 hg3
  have hne : w.heap.size ≠ w1.heap.size := by omega
  have hne2 : w1.heap.size ≠ w.heap.size := by omega
  clear hwq hw2 hbr hcq hgq hc1 hg1 hbp2 hbr2 hc2 hg2 hg3 hx
  by_cases x0 : x = 0
  · subst x0
    obtain ⟨w4, hw4⟩ : ∃ y, y = w3.alloc (.cells (oddL.map Value.string).toArray 9) := ⟨_, rfl⟩
    have hbl : Bx w4 w3.heap.size (oddL.map Value.string) := by rw [hw4]; exact Bx.new _ _ _
    have hc4 : CurOk w4 g := by rw [hw4]; exact hc3.alloc _
    have hg4 : w.grownBy w4 (some g) := by rw [hw4]; exact grown_alloc hgw3 _
    have hbp4 : Bw w4 w1.heap.size 28 [.string p.fKey, .string p.fVal, .bool p.fGone] := by rw [hw4]; exact hbp3.alloc _
    have hbr4 : Bw w4 w.heap.size 28 [.string ⟨#[]⟩, .string ⟨#[]⟩, .bool false] := by rw [hw4]; exact hbr3.alloc _
    have hz3 := hbp3.lt
    go_wp2_with fail
    rw [show w3.alloc (.cells #[.string ⟨#[]⟩, .string ⟨#[116, 119, 101, 110, 116, 121, 45, 111, 110, 101, 45, 98, 121, 116, 101, 115, 45, 108, 111, 110, 103]⟩, .string ⟨#[116, 119, 101, 110, 116, 121, 45, 98, 121, 116, 101, 115, 45, 108, 111, 110, 103, 45, 50, 48]⟩] 9) = w4 from hw4.symm]
    refine (l1Str_ok w3.heap.size 3 oddL hc4 hbl (by omega) rfl (by omega) (by omega)).mono ?_
    rintro e w5 ⟨t, ⟨ht, rfl⟩, hc5, hg5⟩
    have hts := oddL_short t ht
    have hgw5 := grown_trans hg4 hg5
    have hbr5 := hbr4.grown hg5 (by simp; omega)
    have hbp5 := hbp4.grown hg5 (by simp; omega)
    have hl5 := hbp5.lt
    have hr5 := hbr5.lt
    have p0 := hbp5.cell 0 _ rfl
    have p1 := hbp5.cell 1 _ rfl
    have p2 := hbp5.cell 2 _ rfl
    have pf := hbp5.free 0
    have f0 := hbr5.free 0
    have f1 := hbr5.free 1
    have f2 := hbr5.free 2
    have y0 := hbr5.cell 0 _ rfl
    have y1 := hbr5.cell 1 _ rfl
    have y2 := hbr5.cell 2 _ rfl
    clear hw4 hbl hc4 hg4 hbp4 hbr4 hbr3 hbp3 hc3 hgw3 hg5
    go_wp2_with fail
    refine bodyPost_ret (v := .agg #[.string t, .string p.fVal, .bool p.fGone]) (by simp [results, Tryd.results30, go_sem, *]) rfl (show PairPost w g _ _ from ⟨⟨t, p.fVal, p.fGone⟩, ⟨rfl, hts, hp2⟩, ?_, ?_⟩)
    · repeat (first | exact hc5 | refine CurOk.setCell ?_ (by first | (simp; omega) | (show g < _; omega)) _ | refine CurOk.alloc ?_ _)
    · repeat (first | exact hgw5 | refine grown_setCell ?_ (by first | exact Nat.le_refl _ | (simp; omega)) _ | refine grown_alloc ?_ _)
  · have p0 := hbp3.cell 0 _ rfl
    have p1 := hbp3.cell 1 _ rfl
    have p2 := hbp3.cell 2 _ rfl
    have pf1 := hbp3.free 1
    have pf2 := hbp3.free 2
    have f0 := hbr3.free 0
    have f1 := hbr3.free 1
    have f2 := hbr3.free 2
    have y0 := hbr3.cell 0 _ rfl
    have y1 := hbr3.cell 1 _ rfl
    have y2 := hbr3.cell 2 _ rfl
    have hl3 := hbp3.lt
    have hr3 := hbr3.lt
    by_cases x1 : x = 1
    · subst x1
      go_wp2_with fail
      refine bodyPost_ret (v := .agg #[.string p.fKey, .string ⟨#[116, 119, 101, 110, 116, 121, 45, 111, 110, 101, 45, 98, 121, 116, 101, 115, 45, 108, 111, 110, 103]⟩, .bool p.fGone]) (by simp [results, Tryd.results30, go_sem, *]) rfl (show PairPost w g _ _ from ⟨⟨p.fKey, ⟨#[116, 119, 101, 110, 116, 121, 45, 111, 110, 101, 45, 98, 121, 116, 101, 115, 45, 108, 111, 110, 103]⟩, p.fGone⟩, ⟨rfl, hp1, Nat.le_refl 21⟩, ?_, ?_⟩)
      · repeat (first | exact hc3 | refine CurOk.setCell ?_ (by first | (simp; omega) | (show g < _; omega)) _ | refine CurOk.alloc ?_ _)
      · repeat (first | exact hgw3 | refine grown_setCell ?_ (by first | exact Nat.le_refl _ | (simp; omega)) _ | refine grown_alloc ?_ _)
    · by_cases x2 : x = 2
      · subst x2
        go_wp2_with fail
        refine bodyPost_ret (v := .agg #[.string p.fKey, .string p.fVal, .bool (!p.fGone)]) (by simp [results, Tryd.results30, go_sem, *]) rfl (show PairPost w g _ _ from ⟨⟨p.fKey, p.fVal, !p.fGone⟩, ⟨rfl, hp1, hp2⟩, ?_, ?_⟩)
        · repeat (first | exact hc3 | refine CurOk.setCell ?_ (by first | (simp; omega) | (show g < _; omega)) _ | refine CurOk.alloc ?_ _)
        · repeat (first | exact hgw3 | refine grown_setCell ?_ (by first | exact Nat.le_refl _ | (simp; omega)) _ | refine grown_alloc ?_ _)
      · go_wp2_with fail
        refine bodyPost_ret (v := .agg #[.string p.fKey, .string p.fVal, .bool p.fGone]) (by simp [results, Tryd.results30, go_sem, *]) rfl (show PairPost w g _ _ from ⟨p, ⟨rfl, hp1, hp2⟩, ?_, ?_⟩)
        · repeat (first | exact hc3 | refine CurOk.setCell ?_ (by first | (simp; omega) | (show g < _; omega)) _ | refine CurOk.alloc ?_ _)
        · repeat (first | exact hgw3 | refine grown_setCell ?_ (by first | exact Nat.le_refl _ | (simp; omega)) _ | refine grown_alloc ?_ _)

end Go.Proofs.YtadadkookbkkoaaDoor
