/-
  The draws of lists of pairs: what comes out is short, in memory of its own; beside it only the cursor is written.
-/
import Derived.Test.YtiahmcclmlmgpaaDoorDrawQ
import Derived.Test.YtiahmcclmlmgpaaDoorPairK
namespace Go.Proofs.YtiahmcclmlmgpaaDoor
open Go.RowKit Go.Maps
set_option linter.unusedVariables false
set_option linter.unusedSimpArgs false
set_option maxRecDepth 10000

def prC (x : MPair) : List Value := [.string x.fKey, .string x.fVal, .bool x.fGone]
def flatP (l : List MPair) : List Value := l.flatMap prC
def ShP (x : MPair) : Prop := x.fKey.size ≤ 21 ∧ x.fVal.size ≤ 21
theorem flatP_len (l : List MPair) : (flatP l).length = l.length * 3 := by
  induction l with
  | nil => rfl
  | cons x r ih => unfold flatP at ih ⊢; rw [List.flatMap_cons, List.length_append, ih]; simp [prC]; omega
theorem flatP_app (a b : List MPair) : flatP (a ++ b) = flatP a ++ flatP b := by unfold flatP; rw [List.flatMap_append]
theorem prC_one {x : MPair} : ∀ u ∈ prC x, u.oneCell' = true := by
  intro u hu
  simp only [prC, List.mem_cons, List.not_mem_nil, or_false] at hu
  rcases hu with rfl | rfl | rfl <;> rfl
/-- What a list is that was drawn: its pairs in a row of one's own. -/
def PairDrawn (w' : World) (base : Nat) (v : Value) (l : List MPair) (most : Nat) : Prop :=
  w'.ownsRow base 31 3 v l.length (flatP l) ∧ (∀ x, x ∈ l → ShP x) ∧ l.length ≤ most
/-- What a draw of a list answers. -/
def ListPost (w : World) (g most : Nat) (e : Ending) (w' : World) : Prop := ∃ (v : Value) (l : List MPair), e = .returned v ∧ PairDrawn w' w.heap.size v l most ∧ CurOk w' g ∧ w.grownBy w' (some g)
theorem grown_own' {w W W' : World} {b : Nat} {r' : Option Nat} (h : w.grownBy W (some b)) (h2 : W.grownBy W' r') (hr : ∀ k, r' = some k → k = b ∨ w.heap.size ≤ k) : w.grownBy W' (some b) :=
  ⟨h2.os.trans h.os, h2.tape.trans h.tape, h2.output.trans h.output, Nat.le_trans h.size h2.size, fun k hk hne => (h2.block k (Nat.lt_of_lt_of_le hk h.size) (fun e => by rcases hr k e.symm with h3 | h3; (exact hne (by rw [h3])); omega)).trans (h.block k hk hne)⟩

set_option maxHeartbeats 4000000 in
theorem l4List_ok {g : Nat} {w : World} (q : Int) (hc : CurOk w g) (hq : q ≤ 100) :
    Calls Tryd.prog 34 #[.pointer (some ⟨g, 0, none⟩), .int .i64 q] w fun e w' => ListPost w g 100 e w' := by
  obtain ⟨iP, hiP, hzP0, hzP1, hzP2⟩ := info_parts Tryd.infoPair
  have HI : Hid (_ ∧ _ ∧ _ ∧ _) := ⟨hiP, hzP0, hzP1, hzP2⟩
  clear hiP hzP0 hzP1 hzP2
  have hgl := hc.lt
  obtain ⟨w0, hw0⟩ : ∃ x, x = w.alloc (.cells #[] 31) := ⟨_, rfl⟩
  have hc0 : CurOk w0 g := by rw [hw0]; exact hc.alloc _
  have hg0 : w.grownBy w0 (some g) := by rw [hw0]; exact World.grownBy_alloc w _ _
  have ho0 : w0.ownsRow w.heap.size 31 3 (.slice (some ⟨w.heap.size, 0, none⟩) 0 0) 0 [] := by rw [hw0]; exact own_lit1 w _ _ _ (Nat.le_refl _)
  have hz0 : w0.heap.size = w.heap.size + 1 := by rw [hw0]; simp
  go_enter Tryd.func34, Tryd.ntmps34
  go_wp2_with (rw [← hw0])
  refine (l4Draw_ok q hc0 hq).mono ?_
  rintro e w1 ⟨v, l, rfl, hd1, hc1, hg1⟩
  obtain ⟨a, c, rfl, hL1⟩ := ownN_leaf hd1.1 (fun y hy => (hd1.2.1 y hy).ok)
  have ho1 : w1.ownsRow w.heap.size 31 3 (.slice (some ⟨w.heap.size, 0, none⟩) 0 0) 0 [] := own_of_block ho0 (fun k hk => hg1.block k (ho0.lt k hk).2 (fun e => by have h := (ho0.lt k hk).1; simp at e; omega))
  obtain ⟨w2, hw2⟩ : ∃ x, x = w1.alloc (.cells #[.slice a l.length c] 44) := ⟨_, rfl⟩
  have hx2 : Below w1.heap.size w1 w2 := by rw [hw2]; exact (Below.refl _ _).alloc (Nat.le_refl _) _
  have hbx : Bx w2 w1.heap.size [.slice a l.length c] := by rw [hw2]; exact Bx.new _ _ _
  have ho2 := own_below ho1 hx2
  have hc2 : CurOk w2 g := hc1.below hx2
  have hg2 : w.grownBy w2 (some g) := grown_below (grown_trans hg0 hg1) hx2
  have hll : l.length ≤ 100 := hd1.2.2
  have hz1 : w.heap.size < w1.heap.size := by have h := hg1.size; omega
  have HCE : Hid (∀ k, (hk : k < l.length) → ∃ b o, a = some ⟨b, o, none⟩ ∧ b ≠ w.heap.size ∧ b < w2.heap.size ∧ w2.cell? ⟨b, o + k * 4, none⟩ = some (.string l[k].fP.fKey) ∧ w2.cell? ⟨b, o + k * 4 + 1, none⟩ = some (.string l[k].fP.fVal) ∧ w2.cell? ⟨b, o + k * 4 + 2, none⟩ = some (.bool l[k].fP.fGone)) := fun k hk => by
    obtain ⟨b, o, rfl, hB, cs, _, hcell, rfl, _⟩ := (hL1.2.2.below rNode_good hx2) k hk
    refine ⟨b, o, rfl, ?_, Nat.lt_of_lt_of_le hB hx2.size, hcell 0 _ rfl, hcell 1 _ rfl, hcell 2 _ rfl⟩
    have h := (hd1.1.lt b rfl).1
    omega
  have HSH := Hid.mk hd1.2.1
  clear hw0 hd1 hL1 hc0 hg0 ho0 hc1 hg1 ho1
  go_wp2_with (rw [← hw2])
  clear hw2
  go_loopw [5, 7] (fun ov iv wr => ∃ k : Nat, k ≤ l.length ∧ iv = .int .i64 k ∧ wr.ownsRow w.heap.size 31 3 ov k (flatP ((l.take k).map MNode.fP)) ∧ (∀ j, ov.ownBlock = some j → j = w.heap.size ∨ w2.heap.size ≤ j) ∧ w2.grownBy wr (some w.heap.size)) (fun _ iv _ => l.length - (intOf iv).toNat)
  case atStart => exact ⟨0, Nat.zero_le _, rfl, ho2, fun j hj => .inl (by simpa [Value.ownBlock] using hj.symm), World.grownBy.refl _ _⟩
  case round =>
    obtain ⟨k, hk, rfl, hown, hbl, hgr⟩ := hrel
    clear ho2
    have y0 := (hbx.grown hgr (by simp; omega)).2 0 _ rfl
    by_cases hlt : k < l.length
    · obtain ⟨b, o, rfl, hne, hbz, c0, c1, c2⟩ := HCE.out k hlt
      have k0 := hgr.cell c0 (by simpa using hne)
      have k1 := hgr.cell c1 (by simpa using hne)
      have k2 := hgr.cell c2 (by simpa using hne)
      have HTK : Hid (flatP ((l.take (k + 1)).map MNode.fP) = flatP ((l.take k).map MNode.fP) ++ prC l[k].fP) := by show _ = _; rw [List.take_succ_eq_append_getElem hlt, List.map_append, flatP_app]; simp [flatP]
      generalize l[k].fP = x at *
      clear c0 c1 c2
      obtain ⟨w6, hw6⟩ : ∃ q, q = wr.alloc (.cells #[.string x.fKey, .string x.fVal, .bool x.fGone] 31) := ⟨_, rfl⟩
      have hx6 : Below wr.heap.size wr w6 := by rw [hw6]; exact (Below.refl _ _).alloc (Nat.le_refl _) _
      have hbx6 : Bx w6 wr.heap.size (prC x) := by rw [hw6]; exact Bx.new _ _ _
      have hown6 := own_below hown hx6
      have hzw : w.heap.size ≤ w6.heap.size := by have h1 := hx6.size; have h2 := hgr.size; have h3 := hbx.1; omega
      obtain ⟨xs, HXS⟩ : ∃ z, Hid (z = flatP ((l.take k).map MNode.fP)) := ⟨_, Hid.mk rfl⟩
      rw [← HXS.out] at hown6
      go_wp2_with (at_builtin; rw [← hw6]; refine wpList_append_own_at _ rfl _ _ 27 rfl w.heap.size 31 iP (.agg #[.string ⟨#[]⟩, .string ⟨#[]⟩, .bool false]) 3 40 Tryd.underlying27 HI.out.1 HI.out.2.1 HI.out.2.2.1 HI.out.2.2.2 rfl (by decide) _ _ _ rfl hown6 ⟨wr.heap.size, 0, none⟩ 1 1 (prC x) rfl rfl (bx_news hbx6) prC_one (by unfold maxLen; omega) (by omega) hzw ?_; intro v7 w7 hown7 hgrow7 hnil7 hloc7)
      have HO7 : Hid (w7.ownsRow w.heap.size 31 3 v7 (k + 1) (flatP ((l.take (k + 1)).map MNode.fP))) := own_congr hown7 rfl (by rw [HTK.out, HXS.out])
      have HG7 : Hid (w2.grownBy w7 (some w.heap.size)) := grown_own' (grown_below hgr hx6) hgrow7 hbl
      have HB7 : Hid (∀ j, v7.ownBlock = some j → j = w.heap.size ∨ w2.heap.size ≤ j) := fun j hj => by
        rcases hloc7 with e | e
        · exact hbl j (e ▸ hj)
        · rw [e] at hj; simp at hj; right; have h1 := hx6.size; have h2 := hgr.size; omega
      clear hown6 hown7 hgrow7 hnil7 hloc7 hw6 hbx6 y0 k0 k1 k2
      go_wp2_with fail
      go_roundw
      case rel => exact ⟨k + 1, by omega, by go_num, HO7.out, HB7.out, HG7.out⟩
      case measure => simp [intOf]; omega
    · have HT1 : Hid (l.take k = l) := List.take_of_length_le (by omega)
      have hke : k = l.length := by omega
      have FZ : Hid (PairDrawn wr w.heap.size u5 (l.map MNode.fP) 100 ∧ CurOk wr g ∧ w.grownBy wr (some g)) := by
        rw [HT1.out] at hown
        refine ⟨⟨own_congr hown (by rw [List.length_map]; exact hke) rfl, fun x hx => ?_, by rw [List.length_map]; omega⟩, hc2.grown hgr (fun j hj => by simp at hj; omega), grown_own hg2 hgr (fun j hj => by simp at hj; omega)⟩
        obtain ⟨y, hy, rfl⟩ := List.mem_map.1 hx
        exact ⟨(HSH.out y hy).1, (HSH.out y hy).2.1⟩
      clear hown
      go_wp2_with fail
      go_ret
      exact (show ListPost w g 100 _ _ from ⟨_, _, rfl, FZ.out⟩)

theorem PairDrawn.grown {w w' : World} {base most g : Nat} {v : Value} {l : List MPair} (h : PairDrawn w base v l most) (hg : w.grownBy w' (some g)) (hb : g < base) : PairDrawn w' base v l most :=
  ⟨own_of_block h.1 (fun k hk => hg.block k (h.1.lt k hk).2 (fun e => by have := (h.1.lt k hk).1; simp at e; omega)), h.2⟩
theorem PairDrawn.under {w w' : World} {base most : Nat} {v : Value} {l : List MPair} (h : PairDrawn w base v l most) (hb : Below w.heap.size w w') : PairDrawn w' base v l most := ⟨own_below h.1 hb, h.2⟩
theorem PairDrawn.base {w : World} {base base' most : Nat} {v : Value} {l : List MPair} (h : PairDrawn w base v l most) (hb : base' ≤ base) : PairDrawn w base' v l most := ⟨own_base h.1 hb, h.2⟩
theorem PairDrawn.more {w : World} {base a b : Nat} {v : Value} {l : List MPair} (h : PairDrawn w base v l a) (hab : a ≤ b) : PairDrawn w base v l b := ⟨h.1, h.2.1, Nat.le_trans h.2.2 hab⟩

set_option maxHeartbeats 2000000 in
theorem l4ListAny_ok {g : Nat} {w : World} (q : Int) (hc : CurOk w g) (hq : q ≤ 100) :
    Calls Tryd.prog 36 #[.pointer (some ⟨g, 0, none⟩), .int .i64 q] w fun e w' => ListPost w g 101 e w' := by
  obtain ⟨iP, hiP, hzP0, hzP1, hzP2⟩ := info_parts Tryd.infoPair
  have HI : Hid (_ ∧ _ ∧ _ ∧ _) := ⟨hiP, hzP0, hzP1, hzP2⟩
  clear hiP hzP0 hzP1 hzP2
  have hgl := hc.lt
  go_enter Tryd.func36, Tryd.ntmps36
  go_wp2_with fail
  refine (l4List_ok q hc hq).mono ?_
  rintro e w1 ⟨v, l, rfl, hd1, hc1, hg1⟩
  go_wp2_with fail
  refine (l1Once_ok 12 hc1).mono ?_
  rintro e w2 ⟨b, rfl, hc2, hg2⟩
  have hd2 := hd1.grown hg2 hgl
  have hg12 := grown_trans hg1 hg2
  cases b with
  | false =>
    have FZ : Hid (PairDrawn w2 w.heap.size v l 101 ∧ CurOk w2 g ∧ w.grownBy w2 (some g)) := ⟨hd2.more (by omega), hc2, hg12⟩
    clear hd1 hc1 hg1 hd2 hg2 hg12 hc2
    go_wp2_with fail
    go_ret
    exact (show ListPost w g 101 _ _ from ⟨_, _, rfl, FZ.out⟩)
  | true =>
    clear hd1 hc1 hg1 hg2
    go_wp2_with fail
    refine (l4PairAny_ok hc2).mono ?_
    rintro e w3 ⟨p, ⟨rfl, hp1, hp2⟩, hc3, hg3⟩
    have hd3 := hd2.grown hg3 hgl
    have hg13 := grown_trans hg12 hg3
    obtain ⟨w4, hw4⟩ : ∃ x, x = w3.alloc (.cells #[.string p.fKey, .string p.fVal, .bool p.fGone] 31) := ⟨_, rfl⟩
    have hx4 : Below w3.heap.size w3 w4 := by rw [hw4]; exact (Below.refl _ _).alloc (Nat.le_refl _) _
    have hbx4 : Bx w4 w3.heap.size (prC p) := by rw [hw4]; exact Bx.new _ _ _
    have hd4 := hd3.under hx4
    have hc4 := hc3.below hx4
    have hg14 := grown_below hg13 hx4
    have hll : l.length ≤ 100 := hd4.2.2
    clear hd2 hd3 hc2 hc3 hg12 hg13 hg3
    go_wp2_with (at_builtin; rw [← hw4]; refine wpList_append_own_at _ rfl _ _ 27 rfl w.heap.size 31 iP (.agg #[.string ⟨#[]⟩, .string ⟨#[]⟩, .bool false]) 3 40 Tryd.underlying27 HI.out.1 HI.out.2.1 HI.out.2.2.1 HI.out.2.2.2 rfl (by decide) _ _ _ rfl hd4.1 ⟨w3.heap.size, 0, none⟩ 1 1 (prC p) rfl rfl (bx_news hbx4) prC_one (by unfold maxLen; omega) (by omega) hg14.size ?_; intro v7 w7 hown7 hgrow7 hnil7 hloc7)
    have FZ : Hid (PairDrawn w7 w.heap.size v7 (l ++ [p]) 101 ∧ CurOk w7 g ∧ w.grownBy w7 (some g)) := by
      refine ⟨⟨own_congr hown7 (by simp) (by rw [flatP_app]; simp [flatP]), fun x hx => ?_, by simp; omega⟩, hc4.grown hgrow7 (fun k hk => Nat.lt_of_lt_of_le hgl (hd4.1.lt k hk).1), grown_own hg14 hgrow7 (fun k hk => (hd4.1.lt k hk).1)⟩
      rcases List.mem_append.1 hx with h | h
      · exact hd4.2.1 x h
      · rw [List.mem_singleton.1 h]; exact ⟨hp1, hp2⟩
    clear hd4 hc4 hg14 hown7 hgrow7 hnil7 hloc7 hw4 hbx4 hx4
    go_wp2_with fail
    go_ret
    exact (show ListPost w g 101 _ _ from ⟨_, _, rfl, FZ.out⟩)

end Go.Proofs.YtiahmcclmlmgpaaDoor
