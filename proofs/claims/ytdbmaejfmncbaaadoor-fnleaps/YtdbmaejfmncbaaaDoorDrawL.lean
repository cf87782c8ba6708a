/-
  The draw of a table in memory and a key.
-/
import Derived.Test.YtdbmaejfmncbaaaDoorDrawQ
namespace Go.Proofs.YtdbmaejfmncbaaaDoor
open Go.RowKit Go.Maps
set_option linter.unusedVariables false
set_option linter.unusedSimpArgs false
set_option maxRecDepth 10000

def SizePost (w : World) (e : Ending) (w' : World) : Prop := ∃ x : Int, (e = .returned (.int .i64 x) ∧ x ≤ 100) ∧ w' = w

set_option maxHeartbeats 400000 in
theorem l1Size_ok (a : Option Addr) (n cap : Nat) (q : Int) (w : World) (hn : n ≤ 1048576) (hq : 0 ≤ q) (hq2 : q ≤ 100) :
    Calls Tryd.prog 36 #[.slice a n cap, .int .i64 q] w fun e w' => SizePost w e w' := by
  have e1 : ((n : Int)).tdiv 12 = (n : Int) / 12 := Int.tdiv_eq_ediv_of_nonneg (by omega)
  have e2 : IntKind.i64.wrap ((n : Int) / 12) = (n : Int) / 12 := by rw [IntKind.wrap_i64]; omega
  go_enter Tryd.func36, Tryd.ntmps36
  by_cases h : q < 3 + (n : Int) / 12
  · go_wp2_with fail
    go_ret
    exact (show SizePost w _ _ from ⟨q, ⟨rfl, hq2⟩, rfl⟩)
  · go_wp2_with fail
    go_ret
    exact (show SizePost w _ _ from ⟨3 + (n : Int) / 12, ⟨rfl, by omega⟩, rfl⟩)

/-- What the draw answers. -/
def KeyPost (w : World) (e : Ending) (w' : World) : Prop := ∃ (v : Value) (l : List MNode) (s : ByteArray), e = .returned (.tuple #[.agg #[v], .string s]) ∧ MemDrawn w' w.heap.size v l 101 ∧ s.size ≤ 20 ∧ Below w.heap.size w w'
theorem below_of_cur {w W : World} {g : Nat} {w0 : World} (hb : Below w.heap.size w w0) (hg : w.heap.size ≤ g) (h : w0.grownBy W (some g)) : Below w.heap.size w W :=
  hb.grown h hb.size (fun k hk => by simp at hk; omega)

set_option maxHeartbeats 2000000 in
theorem drawMemGet_ok (a : Option Addr) (n cap : Nat) (zs : List Int) (w : World) (hx : zs.length = n) (hlen : n ≤ 1048576) (hr : Rd .u8 w.heap.size w a zs) :
    Calls Tryd.prog 15 #[.slice a n cap] w fun e w' => KeyPost w e w' := by
  obtain ⟨w0, hw0⟩ : ∃ x, x = w.alloc (.cells #[.slice none 0 0] 26) := ⟨_, rfl⟩
  have hbr : Bw w0 w.heap.size 26 [.slice none 0 0] := by rw [hw0]; exact Bw.new _ _ _
  have hb0 : Below w.heap.size w w0 := by rw [hw0]; exact (Below.refl _ _).alloc (Nat.le_refl _) _
  have hz0 := hbr.lt
  go_enter Tryd.func15, Tryd.ntmps15
  go_wp2_with (rw [← hw0])
  refine (l1New_any a n cap zs w0 hx (by omega) ((hr.below hb0).mono hb0.size)).mono ?_
  rintro e w1 ⟨rfl, hc1, hb1⟩
  have hbr1 := hbr.under hb1
  have hb01 := bthen hb0 hb1
  obtain ⟨g, hg⟩ : ∃ g, g = w0.heap.size := ⟨_, rfl⟩
  rw [← hg] at hc1 ⊢
  have hgw : w.heap.size < g := by omega
  clear hw0 hg
  go_wp2_with fail
  refine (l1Size_ok a n cap 14 w1 hlen (by omega) (by omega)).mono ?_
  rintro e w2 ⟨x, ⟨rfl, hx2⟩, hw2⟩
  have hw3 := hw2.symm
  clear hw2
  subst hw3
  go_wp2_with fail
  refine (l4DrawAny_ok x hc1 hx2).mono ?_
  rintro e w3 ⟨v, l, rfl, hd3, hc3, hg3⟩
  go_wp2_with fail
  refine (l4Key_ok hc3).mono ?_
  rintro e w4 ⟨s, ⟨rfl, hs⟩, hc4, hg4⟩
  have hg34 := grown_trans hg3 hg4
  have hb4 : Below w.heap.size w w4 := below_of_cur hb01 (by omega) hg34
  have hbr4 := hbr1.grown hg34 (by simp; omega)
  have hd4 := hd3.grown hg4 hc1.lt
  obtain ⟨a4, c4, rfl, _⟩ := ownN_leaf hd4.1 (fun y hy => (hd4.2.1 y hy).ok)
  have r0 := hbr4.cell 0 _ rfl
  have rf := hbr4.free 0
  have rl := hbr4.lt
  have hz1 : w.heap.size < w1.heap.size := hbr1.lt
  have FZ : Hid (MemDrawn (w4.setCell ⟨w.heap.size, 0, none⟩ (.slice a4 l.length c4)) w.heap.size (.slice a4 l.length c4) l 101 ∧ Below w.heap.size w (w4.setCell ⟨w.heap.size, 0, none⟩ (.slice a4 l.length c4))) :=
    ⟨(hd4.other (b := w.heap.size) (i := 0) (u := .slice a4 l.length c4) hz1).base (by omega), hb4.setCell (p := ⟨w.heap.size, 0, none⟩) (Nat.le_refl _) _⟩
  have HD4 := Hid.mk hd4
  clear hd4 hd3 hc3 hc4 hg3 hg4 hg34 hb4 hbr hbr1 hb0 hb01 hb1 hc1
  go_wp2_with fail
  exact bodyPost_ret (v := .tuple #[.agg #[.slice a4 l.length c4], .string s]) (by simp [results, Tryd.results15, go_sem, *]) rfl (show KeyPost w _ _ from ⟨_, l, s, rfl, FZ.out.1, hs, FZ.out.2⟩)

set_option maxHeartbeats 2000000 in
theorem drawLeaps_ok (a : Option Addr) (n cap : Nat) (zs : List Int) (w : World) (hx : zs.length = n) (hlen : n ≤ 1048576) (hr : Rd .u8 w.heap.size w a zs) :
    Calls Tryd.prog 6 #[.slice a n cap] w fun e w' => KeyPost w e w' := by
  obtain ⟨w0, hw0⟩ : ∃ x, x = w.alloc (.cells #[.slice none 0 0] 26) := ⟨_, rfl⟩
  have hbr : Bw w0 w.heap.size 26 [.slice none 0 0] := by rw [hw0]; exact Bw.new _ _ _
  have hb0 : Below w.heap.size w w0 := by rw [hw0]; exact (Below.refl _ _).alloc (Nat.le_refl _) _
  have hz0 := hbr.lt
  go_enter Tryd.func6, Tryd.ntmps6
  go_wp2_with (rw [← hw0])
  refine (drawMemGet_ok a n cap zs w0 hx hlen ((hr.below hb0).mono hb0.size)).mono ?_
  rintro e w1 ⟨v, l, s, rfl, hd1, hs, hb1⟩
  have hbr1 := hbr.under hb1
  have hb01 := bthen hb0 hb1
  obtain ⟨a4, c4, rfl, _⟩ := ownN_leaf hd1.1 (fun y hy => (hd1.2.1 y hy).ok)
  have r0 := hbr1.cell 0 _ rfl
  have rf := hbr1.free 0
  have rl := hbr1.lt
  have FZ : Hid (MemDrawn (w1.setCell ⟨w.heap.size, 0, none⟩ (.slice a4 l.length c4)) w.heap.size (.slice a4 l.length c4) l 101 ∧ Below w.heap.size w (w1.setCell ⟨w.heap.size, 0, none⟩ (.slice a4 l.length c4))) :=
    ⟨(hd1.other (b := w.heap.size) (i := 0) (u := .slice a4 l.length c4) hz0).base (by omega), hb01.setCell (p := ⟨w.heap.size, 0, none⟩) (Nat.le_refl _) _⟩
  clear hd1 hb0 hb1 hb01 hbr hbr1 hw0
  go_wp2_with fail
  exact bodyPost_ret (v := .tuple #[.agg #[.slice a4 l.length c4], .string s]) (by simp [results, Tryd.results6, go_sem, *]) rfl (show KeyPost w _ _ from ⟨_, l, s, rfl, FZ.out.1, hs, FZ.out.2⟩)

end Go.Proofs.YtdbmaejfmncbaaaDoor
