/-
  Part 17 of the texts that the proof leans on.
-/
import Derived.Test.YtmedljankefhbaaDoorTbf14
import Derived.Test.YtmedljankefhbaaDoorTbf15
import Derived.Test.YtmedljankefhbaaDoorTbf0
import Derived.Test.YtmedljankefhbaaDoorTbf2
set_option linter.unusedVariables false
set_option linter.unusedSimpArgs false
set_option maxRecDepth 10000

namespace Go.Proofs.YtmedljankefhbaaDoor
open Go.RowKit Go.Maps

theorem keysT_gone : ∀ s, s ∈ keysL → pairOkP ⟨s, ⟨#[]⟩, true⟩ = true := by decide
theorem keysT_val : ∀ s t, s ∈ keysL → t ∈ valsL → pairOkP ⟨s, t, false⟩ = true := by
  have h : ∀ s, s ∈ keysL → ∀ t, t ∈ valsL → pairOkP ⟨s, t, false⟩ = true := by decide
  exact fun s t hs ht => h s hs t ht

set_option maxHeartbeats 400000 in
theorem l4KeyT_ok {g : Nat} {w : World} (hc : CurOk w g) :
    Calls Tryd.prog 61 #[.pointer (some ⟨g, 0, none⟩)] w fun e w' => ∃ s : ByteArray, (e = .returned (.string s) ∧ s.size ≤ 20 ∧ Hid (s ∈ keysL)) ∧ CurOk w' g ∧ w.grownBy w' (some g) := by
  have hgl := hc.lt
  go_enter Tryd.func61, Tryd.ntmps61
  go_wp2_with fail
  refine (l1Str_ok w.heap.size 11 keysL (hc.below ((Below.refl _ _).alloc (Nat.le_refl _) _)) (Bx.new w (keysL.map Value.string) 9) (by omega) rfl (by omega) (by omega)).mono ?_
  rintro e w1 ⟨s, ⟨hs, rfl⟩, hc1, hg1⟩
  have hss := keysL_short s hs
  have hkn := Hid.mk hs
  go_wp2_with fail
  go_ret
  exact ⟨s, ⟨rfl, hss, hkn⟩, hc1, grown_trans (World.grownBy_alloc w _ _) hg1⟩

set_option maxHeartbeats 1000000 in
theorem l4PairT_ok {g : Nat} {w : World} (hc : CurOk w g) :
    Calls Tryd.prog 46 #[.pointer (some ⟨g, 0, none⟩)] w fun e w' => ∃ p : MPair, (e = .returned (.agg #[.string p.fKey, .string p.fVal, .bool p.fGone]) ∧ p.fKey.size ≤ 21 ∧ p.fVal.size ≤ 21 ∧ Hid (p.fKey ∈ keysL ∧ pairOkP p = true)) ∧ CurOk w' g ∧ w.grownBy w' (some g) := by
  have hgl := hc.lt
  obtain ⟨wq, hwq⟩ : ∃ x, x = w.alloc (.cells #[.string ⟨#[]⟩, .string ⟨#[]⟩, .bool false] 32) := ⟨_, rfl⟩
  have hbr : Bw wq w.heap.size 32 [.string ⟨#[]⟩, .string ⟨#[]⟩, .bool false] := by rw [hwq]; exact Bw.new _ _ _
  have hcq : CurOk wq g := by rw [hwq]; exact hc.alloc _
  have hgq : w.grownBy wq (some g) := by rw [hwq]; exact World.grownBy_alloc w _ _
  go_enter Tryd.func46, Tryd.ntmps46
  go_wp2_with (rw [← hwq])
  refine (l4KeyT_ok hcq).mono ?_
  rintro e w1 ⟨s, ⟨rfl, hs, hkn⟩, hc1, hg1⟩
  go_wp2_with fail
  refine (l1Once_ok _ hc1).mono ?_
  rintro e w2 ⟨b, rfl, hc2, hg2⟩
  have hbr2 := (hbr.grown hg1 (by simp; omega)).grown hg2 (by simp; omega)
  have hgw2 := grown_trans hgq (grown_trans hg1 hg2)
  have hlr := hbr2.lt
  have f0 := hbr2.free 0
  have f1 := hbr2.free 1
  have f2 := hbr2.free 2
  have y0 := hbr2.cell 0 _ rfl
  have y1 := hbr2.cell 1 _ rfl
  have y2 := hbr2.cell 2 _ rfl
  clear hwq hcq hgq hbr hg1 hg2 hc1
  cases b with
  | true =>
    go_wp2_with fail
    refine bodyPost_ret (v := .agg #[.string s, .string ⟨#[]⟩, .bool true]) (by simp [results, Tryd.results46, go_sem, *]) rfl ⟨⟨s, ⟨#[]⟩, true⟩, ⟨rfl, by show s.size ≤ 21; omega, by show 0 ≤ 21; omega, Hid.mk ⟨hkn.out, keysT_gone s hkn.out⟩⟩, ?_, ?_⟩
    · repeat (first | exact hc2 | refine CurOk.setCell ?_ (by first | (simp; omega) | (show g < _; omega)) _ | refine CurOk.alloc ?_ _)
    · repeat (first | exact hgw2 | refine grown_setCell ?_ (by first | exact Nat.le_refl _ | (simp; omega)) _ | refine grown_alloc ?_ _)
  | false =>
    obtain ⟨w3, hw3⟩ : ∃ x, x = (w2.alloc (.cells #[.string s, .string ⟨#[]⟩, .bool false] 32)).alloc (.cells (valsL.map Value.string).toArray 9) := ⟨_, rfl⟩
    have hbp : Bw w3 w2.heap.size 32 [.string s, .string ⟨#[]⟩, .bool false] := by rw [hw3]; exact (Bw.new _ _ _).alloc _
    have hbl : Bx w3 (w2.heap.size + 1) (valsL.map Value.string) := by rw [hw3]; have h := Bx.new (w2.alloc (.cells #[.string s, .string ⟨#[]⟩, .bool false] 32)) (valsL.map Value.string) 9; simpa using h
    have hbr3 : Bw w3 w.heap.size 32 [.string ⟨#[]⟩, .string ⟨#[]⟩, .bool false] := by rw [hw3]; exact (hbr2.alloc _).alloc _
    have hc3 : CurOk w3 g := by rw [hw3]; exact (hc2.alloc _).alloc _
    have hgw3 : w.grownBy w3 (some g) := by rw [hw3]; exact grown_alloc (grown_alloc hgw2 _) _
    go_wp2_with fail
    rw [show (w2.alloc (.cells #[.string s, .string ⟨#[]⟩, .bool false] 32)).alloc (.cells #[.string ⟨#[]⟩, .string ⟨#[49]⟩, .string ⟨#[50]⟩, .string ⟨#[120, 121, 122]⟩, .string ⟨#[0]⟩] 9) = w3 from hw3.symm]
    refine (l1Str_ok (w2.heap.size + 1) 5 valsL hc3 hbl (by omega) rfl (by omega) (by omega)).mono ?_
    rintro e w4 ⟨t, ⟨ht, rfl⟩, hc4, hg4⟩
    have hts := valsL_short t ht
    have hgw4 := grown_trans hgw3 hg4
    have hbr4 := hbr3.grown hg4 (by simp; omega)
    have hbp4 := hbp.grown hg4 (by simp; omega)
    have hl4 := hbp4.lt
    have p0 := hbp4.cell 0 _ rfl
    have p1 := hbp4.cell 1 _ rfl
    have p2 := hbp4.cell 2 _ rfl
    have pf := hbp4.free 1
    replace f0 := hbr4.free 0
    replace f1 := hbr4.free 1
    replace f2 := hbr4.free 2
    replace y0 := hbr4.cell 0 _ rfl
    replace y1 := hbr4.cell 1 _ rfl
    replace y2 := hbr4.cell 2 _ rfl
    have hne : w.heap.size ≠ w2.heap.size := by omega
    have hne2 : w2.heap.size ≠ w.heap.size := by omega
    clear hw3 hbl hbp hbr3 hbr2 hc3 hgw3 hg4 hc2 hgw2
    go_wp2_with fail
    refine bodyPost_ret (v := .agg #[.string s, .string t, .bool false]) (by simp [results, Tryd.results46, go_sem, *]) rfl ⟨⟨s, t, false⟩, ⟨rfl, by show s.size ≤ 21; omega, hts, Hid.mk ⟨hkn.out, keysT_val s t hkn.out ht⟩⟩, ?_, ?_⟩
    · repeat (first | exact hc4 | refine CurOk.setCell ?_ (by first | (simp; omega) | (show g < _; omega)) _ | refine CurOk.alloc ?_ _)
    · repeat (first | exact hgw4 | refine grown_setCell ?_ (by first | exact Nat.le_refl _ | (simp; omega)) _ | refine grown_alloc ?_ _)



/-- Within the draw: the boxes of the answer and of the table, the table's row, the cursor. -/
def InAny (w : World) (g bm : Nat) (v : Value) (l : List MNode) (most : Nat) (W : World) : Prop :=
  CurOk W g ∧ w.grownBy W (some g) ∧ Bw W w.heap.size 70 [.slice none 0 0] ∧ Bw W bm 70 [v] ∧ MemDrawn W (w.heap.size + 1) v l most ∧ v.ownBlock ≠ some bm
theorem InAny.step {w W W' : World} {g bm most : Nat} {v : Value} {l : List MNode} (h : InAny w g bm v l most W) (hg : g < w.heap.size) (hb : w.heap.size < bm) (hc : CurOk W' g) (hs : W.grownBy W' (some g)) : InAny w g bm v l most W' :=
  ⟨hc, grown_trans h.2.1 hs, h.2.2.1.grown hs (by simp; omega), h.2.2.2.1.grown hs (by simp; omega), h.2.2.2.2.1.grown hs (by omega), h.2.2.2.2.2⟩
theorem InAny.below {w W W' : World} {g bm most : Nat} {v : Value} {l : List MNode} (h : InAny w g bm v l most W) (hb : Below W.heap.size W W') : InAny w g bm v l most W' :=
  ⟨h.1.below hb, grown_below h.2.1 hb, h.2.2.1.under hb, h.2.2.2.1.under hb, h.2.2.2.2.1.under hb, h.2.2.2.2.2⟩
/-- The answer's box holds what the table's box holds. -/
theorem InAny.done {w W : World} {g bm most : Nat} {v : Value} {l : List MNode} (h : InAny w g bm v l most W) (hg : g < w.heap.size) : MemPost w g most (.returned (.agg #[v])) (W.setCell ⟨w.heap.size, 0, none⟩ v) :=
  ⟨v, l, rfl, (h.2.2.2.2.1.other (by omega)).base (by omega), h.1.setCell (p := ⟨w.heap.size, 0, none⟩) hg _, grown_setCell h.2.1 (p := ⟨w.heap.size, 0, none⟩) (Nat.le_refl _) _⟩
/-- Behind an append to the table's row. -/
def InApp (w : World) (g bm : Nat) (v : Value) (l : List MNode) (most : Nat) (W : World) : Prop :=
  CurOk W g ∧ Bw W w.heap.size 70 [.slice none 0 0] ∧ (∃ u, Bw W bm 70 [u]) ∧ w.grownBy W (some g) ∧ MemDrawn W (w.heap.size + 1) v l most ∧ v.ownBlock ≠ some bm
theorem grown_own {w W W' : World} {r r' : Option Nat} (h : w.grownBy W r) (h2 : W.grownBy W' r') (hr : ∀ k, r' = some k → w.heap.size ≤ k) : w.grownBy W' r :=
  ⟨h2.os.trans h.os, h2.tape.trans h.tape, h2.output.trans h.output, Nat.le_trans h.size h2.size, fun k hk hne => (h2.block k (Nat.lt_of_lt_of_le hk h.size) (fun e => by have := hr k e.symm; omega)).trans (h.block k hk hne)⟩
theorem InAny.append {w W W' : World} {g bm most m2 : Nat} {v v' : Value} {l l' : List MNode} (h : InAny w g bm v l most W) (hg : g < w.heap.size) (hb : w.heap.size < bm) (hgr : W.grownBy W' v.ownBlock) (hat : v'.ownBlock = v.ownBlock ∨ v'.ownBlock = some W.heap.size)
    (ho : W'.ownsRow (w.heap.size + 1) 73 4 v' l'.length (flatN l')) (hs : ∀ y, y ∈ l' → ShN y) (hm : l'.length ≤ m2) : InApp w g bm v' l' m2 W' := by
  have hge : ∀ k, v.ownBlock = some k → w.heap.size + 1 ≤ k := fun k hk => (h.2.2.2.2.1.1.lt k hk).1
  have hbl := h.2.2.2.1.lt
  refine ⟨h.1.grown hgr (fun k hk => by have := hge k hk; omega), h.2.2.1.grown hgr (fun e => by have := hge _ e; omega), ⟨v, h.2.2.2.1.grown hgr h.2.2.2.2.2⟩, grown_own h.2.1 hgr (fun k hk => by have := hge k hk; omega), ⟨ho, hs, hm⟩, ?_⟩
  rcases hat with e | e
  · rw [e]; exact h.2.2.2.2.2
  · rw [e]; simp; omega
theorem InAny.put {w W : World} {g bm most : Nat} {v : Value} {l : List MNode} (h : InApp w g bm v l most W) (hg : g < w.heap.size) (hb : w.heap.size < bm) : InAny w g bm v l most (W.setCell ⟨bm, 0, none⟩ v) := by
  obtain ⟨u, hu⟩ := h.2.2.1
  refine ⟨h.1.setCell (p := ⟨bm, 0, none⟩) (by show g < bm; omega) _, grown_setCell h.2.2.2.1 (p := ⟨bm, 0, none⟩) (by show w.heap.size ≤ bm; omega) _, h.2.1.other' (by omega), hu.put 0 v, ⟨own_of_block h.2.2.2.2.1.1 (fun k hk => heap_setCell_other W ⟨bm, 0, none⟩ k v (fun e => h.2.2.2.2.2 (by rw [hk]; exact congrArg some e))), h.2.2.2.2.1.2⟩, h.2.2.2.2.2⟩
theorem InAny.more {w W : World} {g bm a b : Nat} {v : Value} {l : List MNode} (h : InAny w g bm v l a W) (hab : a ≤ b) : InAny w g bm v l b W := ⟨h.1, h.2.1, h.2.2.1, h.2.2.2.1, h.2.2.2.2.1.more hab, h.2.2.2.2.2⟩


def prC (x : MPair) : List Value := [.string x.fKey, .string x.fVal, .bool x.fGone]
def flatP (l : List MPair) : List Value := l.flatMap prC
def ShP (x : MPair) : Prop := x.fKey.size ≤ 21 ∧ x.fVal.size ≤ 21
theorem flatP_app (a b : List MPair) : flatP (a ++ b) = flatP a ++ flatP b := by unfold flatP; rw [List.flatMap_append]
theorem prC_one {x : MPair} : ∀ u ∈ prC x, u.oneCell' = true := by
  intro u hu
  simp only [prC, List.mem_cons, List.not_mem_nil, or_false] at hu
  rcases hu with rfl | rfl | rfl <;> rfl
/-- What a list is that was drawn: its pairs in a row of one's own. -/
def PairDrawn (w' : World) (base : Nat) (v : Value) (l : List MPair) (most : Nat) : Prop :=
  w'.ownsRow base 32 3 v l.length (flatP l) ∧ (∀ x, x ∈ l → ShP x) ∧ l.length ≤ most
theorem grown_own' {w W W' : World} {b : Nat} {r' : Option Nat} (h : w.grownBy W (some b)) (h2 : W.grownBy W' r') (hr : ∀ k, r' = some k → k = b ∨ w.heap.size ≤ k) : w.grownBy W' (some b) :=
  ⟨h2.os.trans h.os, h2.tape.trans h.tape, h2.output.trans h.output, Nat.le_trans h.size h2.size, fun k hk hne => (h2.block k (Nat.lt_of_lt_of_le hk h.size) (fun e => by rcases hr k e.symm with h3 | h3; (exact hne (by rw [h3])); omega)).trans (h.block k hk hne)⟩

theorem PairDrawn.grown {w w' : World} {base most g : Nat} {v : Value} {l : List MPair} (h : PairDrawn w base v l most) (hg : w.grownBy w' (some g)) (hb : g < base) : PairDrawn w' base v l most :=
  ⟨own_of_block h.1 (fun k hk => hg.block k (h.1.lt k hk).2 (fun e => by have := (h.1.lt k hk).1; simp at e; omega)), h.2⟩
theorem PairDrawn.under {w w' : World} {base most : Nat} {v : Value} {l : List MPair} (h : PairDrawn w base v l most) (hb : Below w.heap.size w w') : PairDrawn w' base v l most := ⟨own_below h.1 hb, h.2⟩
theorem PairDrawn.base {w : World} {base base' most : Nat} {v : Value} {l : List MPair} (h : PairDrawn w base v l most) (hb : base' ≤ base) : PairDrawn w base' v l most := ⟨own_base h.1 hb, h.2⟩
theorem PairDrawn.more {w : World} {base a b : Nat} {v : Value} {l : List MPair} (h : PairDrawn w base v l a) (hab : a ≤ b) : PairDrawn w base v l b := ⟨h.1, h.2.1, Nat.le_trans h.2.2 hab⟩

abbrev q2c0_31_5_1 : Oper := ⟨some 17, .move (.tmp 0), 43, "l04_mem.go:160", #[], none⟩
abbrev q2c0_31_5_3 : Oper := ⟨some 19, .move (.tmp 0), 43, "l04_mem.go:160", #[], none⟩
abbrev q2c0_31_5_2 : Oper := ⟨some 18, .call { callee := .value (.func 46), args := #[.tmp 17], argTypes := #[43] }, 32, "l04_mem.go:160", #[⟨1, .data⟩], none⟩
abbrev q2c0_31_5_0 : Oper := ⟨some 16, .load 70 (.tmp 5), 70, "l04_mem.go:160", #[], none⟩
abbrev q2c0_31_5_4 : Oper := ⟨some 20, .call { callee := .value (.func 44), args := #[.tmp 19, .const (.int .i64 4)], argTypes := #[43, 3] }, 3, "l04_mem.go:160", #[⟨3, .data⟩, ⟨2, .chain⟩], none⟩
abbrev q2c0_31_5_5 : Oper := ⟨some 21, .binOp .add 3 (.const (.int .i64 1)) (.tmp 20) 3, 3, "l04_mem.go:160", #[⟨4, .data⟩], none⟩
abbrev q2c0_31_5_6 : Oper := ⟨some 22, .call { callee := .value (.func 45), args := #[.tmp 16, .tmp 18, .tmp 21], argTypes := #[70, 32, 3] }, 96, "l04_mem.go:160", #[⟨0, .data⟩, ⟨2, .data⟩, ⟨5, .data⟩, ⟨4, .chain⟩], none⟩
abbrev q2c0_31_5_7 : Oper := ⟨some 15, .move (.tmp 22), 96, "l04_mem.go:160", #[⟨6, .data⟩], none⟩
abbrev q2c0_31_5_8 : Oper := ⟨some 23, .extract (.tmp 15) 0, 70, "l04_mem.go:160", #[⟨7, .data⟩], none⟩
abbrev q2c0_31_5_9 : Oper := ⟨some 24, .extract (.tmp 15) 1, 4, "l04_mem.go:160", #[⟨7, .data⟩, { on := 10, ground := Ground.gcOnly Departure.lateStores }], none⟩
abbrev q2c0_31_5_10 : Oper := ⟨none, .store 70 (.tmp 5) (.tmp 23), 0, "l04_mem.go:160", #[⟨8, .data⟩, ⟨6, .chain⟩, ⟨0, .phase⟩, ⟨1, .phase⟩, ⟨2, .phase⟩, ⟨3, .phase⟩, ⟨4, .phase⟩, ⟨5, .phase⟩, ⟨6, .phase⟩, ⟨7, .phase⟩, ⟨8, .phase⟩, { on := 9, ground := Ground.textOnly Departure.lateStores }], none⟩

def TblT (l : List MNode) : Prop := memOkP ⟨l⟩ = true ∧ ∀ x, x ∈ l → x.fP.fKey ∈ keysL
theorem TblT.nil : TblT [] := ⟨rfl, fun _ h => by cases h⟩
theorem putN_mem {l : List MNode} {p : MPair} {tw : Int} {x : MNode} (h : x ∈ putN l p tw) : x ∈ l ∨ x.fP = p := by
  have h1 : ∀ (a b : List MNode) (y : MNode), y.fP = p → (∀ z, z ∈ a → z ∈ l) → (∀ z, z ∈ b → z ∈ l) → x ∈ a ++ y :: b → x ∈ l ∨ x.fP = p := fun a b y hy ha hb hm => by
    rcases List.mem_append.1 hm with hm | hm
    · exact .inl (ha _ hm)
    · rcases List.mem_cons.1 hm with rfl | hm
      · exact .inr hy
      · exact .inl (hb _ hm)
  by_cases hs : ∃ hk : lessN l p.fKey < l.length, l[lessN l p.fKey].fP.fKey = p.fKey
  · obtain ⟨hk, e⟩ := hs
    rw [putN_same hk e] at h
    exact h1 _ _ ⟨p, _⟩ rfl (fun z hz => List.mem_of_mem_take hz) (fun z hz => List.mem_of_mem_drop hz) h
  · rw [putN_new (fun hk e => hs ⟨hk, e⟩)] at h
    exact h1 _ _ ⟨p, _⟩ rfl (fun z hz => List.mem_of_mem_take hz) (fun z hz => List.mem_of_mem_drop hz) h
theorem TblT.put {l l' : List MNode} {p : MPair} {tw : Int} (h : TblT l) (hi : PutIs l p tw l') (hk : p.fKey ∈ keysL) (hp : pairOkP p = true) (h1 : 1 ≤ tw) (h2 : tw ≤ 4) (hn : l.length ≤ 20) : TblT l' := by
  rcases hi with rfl | rfl
  · exact h
  · refine ⟨(putN_ok h.1 hp (by simp [inR]; omega) (by omega)).1, fun x hx => ?_⟩
    rcases putN_mem hx with hx | hx
    · exact h.2 x hx
    · rw [hx]; exact hk
def MemPostT (w : World) (g most : Nat) (e : Ending) (w' : World) : Prop := ∃ (v : Value) (l : List MNode), e = .returned (.agg #[v]) ∧ (MemDrawn w' w.heap.size v l most ∧ CurOk w' g ∧ w.grownBy w' (some g)) ∧ TblT l

set_option maxHeartbeats 4000000 in
theorem l4DrawT_ok {g : Nat} {w : World} (q : Int) (hc : CurOk w g) (hq : q ≤ 20) :
    Calls Tryd.prog 31 #[.pointer (some ⟨g, 0, none⟩), .int .i64 q] w fun e w' => MemPostT w g 20 e w' := by
  have hgl := hc.lt
  obtain ⟨w0, hw0⟩ : ∃ x, x = (w.alloc (.cells #[.slice none 0 0] 70)).alloc (.cells #[.slice none 0 0] 70) := ⟨_, rfl⟩
  have hI0 : InDraw w g (.slice none 0 0) [] 0 w0 := by
    rw [hw0]
    exact ⟨(hc.alloc _).alloc _, grown_alloc (grown_alloc (World.grownBy.refl _ _) _) _, (Bw.new _ _ _).alloc _, Bw.new' _ _ _ (by simp), MemDrawn.nil⟩
  go_enter Tryd.func31, Tryd.ntmps31
  go_wp2_with (rw [← hw0])
  refine (l1Below_ok _ hI0.1).mono ?_
  rintro e w1 ⟨x, rfl, hx, hc1, hg1⟩
  have hI1 := hI0.step hgl hc1 hg1
  have hx1 : x ≤ 20 := by by_cases h0 : 0 < q; (have := hx.2.2.1 h0; omega); (have := hx.2.2.2 (by omega); omega)
  have hx0 := hx.1
  clear hw0 hI0 hx hc1 hg1
  go_wp2_with fail
  go_loopw [6] (fun iv wr => ∃ (i : Nat) (v : Value) (l : List MNode), (i : Int) ≤ x ∧ iv = .int .i64 i ∧ InDraw w g v l (x.toNat - i) wr ∧ Hid (TblT l)) (fun iv _ => (intOf iv).toNat)
  case atStart => exact ⟨x.toNat, .slice none 0 0, [], by omega, by rw [show ((x.toNat : Nat) : Int) = x by omega], by rw [Nat.sub_self]; exact hI1, Hid.mk TblT.nil⟩
  case round =>
    obtain ⟨i, v, l, hi, rfl, hI, HTB⟩ := hrel
    obtain ⟨a, c, rfl, hLf⟩ := ownN_leaf hI.2.2.2.2.1 (fun y hy => (hI.2.2.2.2.2.1 y hy).ok)
    have HI := Hid.mk hI
    have HLN := Hid.mk hI.2.2.2.2.2.2
    clear hI1
    by_cases hlt : 0 < i
    · have hlt' : (0 : Int) < (i : Int) := by omega
      obtain ⟨j, rfl⟩ : ∃ j, i = j + 1 := ⟨i - 1, by omega⟩
      have y1 := HI.out.2.2.2.1.cell 0 _ rfl
      have HD0 : Hid (InDraw w g (.slice a l.length c) l (x.toNat - (j + 1)) wr.drew) := HI.out.below (Below.drew (Below.refl _ _))
      have hlc : l.length ≤ 20 := by have h := HLN.out; omega
      clear hLf hI
      go_wp2_with fail
      refine wp_region_held_drew (S := fun W => True) (by kernel_rfl) (trivial) (fun hHeld => ?_)
      obtain ⟨wS, hwS⟩ : ∃ wS, wS = wr.drew := ⟨_, rfl⟩
      have HDwS : Hid (InDraw w g (.slice a l.length c) l (x.toNat - (j + 1)) wS) := by rw [hwS]; exact HD0.out
      rw [← hwS]
      clear hwS
      refine tk 1 q2c0_31_5_1 (some 17) (v := ?v1) rfl rfl (by kernel_rfl) hHeld (by rfl) (fun _ _ _ x => x) (fun w h => ?y1) ?_; (case y1 => (try dsimp only at h); go_simp; try (with_reducible rfl)); try simp only [Act.put, sa, s0, s1]
      refine tk 3 q2c0_31_5_3 (some 19) (v := ?v2) rfl rfl (by kernel_rfl) hHeld (by rfl) (fun _ _ _ x => x) (fun w h => ?y2) ?_; (case y2 => (try dsimp only at h); go_simp; try (with_reducible rfl)); try simp only [Act.put, sa, s0, s1]
      refine wpAnyH_ready (rs := [0, 2]) (by kernel_rfl) (by simp) ?_
      refine (AllReadyH.cons (o := q2c0_31_5_0) rfl (fun K hK => ?_) (AllReadyH.cons (o := q2c0_31_5_2) rfl (fun K hK => ?_) AllReadyH.nil))
      · skip
        have yq := HDwS.out.2.2.2.1.cell 0 _ rfl
        go_simp
        obtain ⟨wE0, hq0⟩ : ∃ q, q = wS := ⟨_, rfl⟩
        have HDwE0 : Hid (InDraw w g (.slice a l.length c) l (x.toNat - (j + 1)) wE0) := by rw [hq0]; exact HDwS
        rw [← hq0]
        clear hq0 yq
        refine hK.out _ _ (trivial) (fun hHeld => ?_)
        clear hK K
        try simp only [Act.put, sa, s0, s1]
        refine wpAnyH_ready (rs := [2]) (by kernel_rfl) (by simp) ?_
        refine (AllReadyH.cons (o := q2c0_31_5_2) rfl (fun K hK => ?_) AllReadyH.nil)
        · go_simp
          refine Calls.mono (l4PairT_ok HDwE0.out.1) ?_
          rintro e wE2 ⟨pr, ⟨rfl, hp1, hp2, HPK⟩, hc2, hg2⟩
          have HDwE2 := Hid.mk (HDwE0.out.step hgl hc2 hg2)
          clear hc2 hg2
          go_wp2_with fail
          refine hK.out _ _ (trivial) (fun hHeld => ?_)
          clear hK K
          try simp only [Act.put, sa, s0, s1]
          refine wpAnyH_ready (rs := [4]) (by kernel_rfl) (by simp) ?_
          refine (AllReadyH.cons (o := q2c0_31_5_4) rfl (fun K hK => ?_) AllReadyH.nil)
          · go_simp
            refine Calls.mono (l1Below_ok 4 HDwE2.out.1) ?_
            rintro e wE4 ⟨tw, rfl, ht, hc4, hg4⟩
            have HDwE4 := Hid.mk (HDwE2.out.step hgl hc4 hg4)
            have ht1 : 1 ≤ 1 + tw := (by omega)
            have ht2 : 1 + tw ≤ 4 := (by have := ht.2.2.1 (by omega); omega)
            have hwr : IntKind.i64.wrap (1 + tw) = 1 + tw := (by rw [IntKind.wrap_i64]; omega)
            clear hc4 hg4 ht
            go_wp2_with fail
            refine hK.out _ _ (trivial) (fun hHeld => ?_)
            clear hK K
            try simp only [Act.put, sa, s0, s1]
            refine tk 5 q2c0_31_5_5 (some 21) (v := ?v3) rfl rfl (by kernel_rfl) hHeld (by rfl) (fun _ _ _ x => x) (fun w h => ?y3) ?_; (case y3 => (try dsimp only at h); go_simp; try (with_reducible rfl)); try simp only [Act.put, sa, s0, s1]
            refine wpAnyH_ready (rs := [6]) (by kernel_rfl) (by simp) ?_
            refine (AllReadyH.cons (o := q2c0_31_5_6) rfl (fun K hK => ?_) AllReadyH.nil)
            · go_simp
              refine Calls.mono (specMemPut_g a l.length c l pr (1 + tw) wE4 rfl (by omega) (ownN_leaf' HDwE4.out.2.2.2.2.1 (fun y hy => (HDwE4.out.2.2.2.2.2.1 y hy).ok)) HDwE4.out.2.2.2.2.2.1 hp1 hp2 (wf_small ht1 ht2)) ?_
              rintro e wE6 ⟨v3, b3, l3, rfl, HPI, hd3, hx3⟩
              have HTB3 := Hid.mk (HTB.out.put HPI HPK.out.1 HPK.out.2 ht1 ht2 (by omega))
              clear HPI
              have HDwE6 := Hid.mk (HDwE4.out.below hx3)
              obtain ⟨a3, c3, rfl, _⟩ := ownN_leaf hd3.1 (fun y hy => (hd3.2.1 y hy).ok)
              have hz2 := HDwE4.out.2.2.2.1.lt
              have HE3 := Hid.mk (MemDrawn.base hd3 (show w.heap.size + 2 ≤ _ by omega))
              have q1 := HDwE6.out.2.2.2.1.cell 0 _ rfl
              have qf := HDwE6.out.2.2.2.1.free 0
              have ql := HDwE6.out.2.2.2.1.lt
              clear hd3 hx3
              go_wp2_with fail
              refine hK.out _ _ (trivial) (fun hHeld => ?_)
              clear hK K
              try simp only [Act.put, sa, s0, s1]
              refine tk 7 q2c0_31_5_7 (some 15) (v := ?v4) rfl rfl (by kernel_rfl) hHeld (by rfl) (fun _ _ _ x => x) (fun w h => ?y4) ?_; (case y4 => (try dsimp only at h); go_simp; try (with_reducible rfl)); try simp only [Act.put, sa, s0, s1]
              refine tk 8 q2c0_31_5_8 (some 23) (v := ?v5) rfl rfl (by kernel_rfl) hHeld (by rfl) (fun _ _ _ x => x) (fun w h => ?y5) ?_; (case y5 => (try dsimp only at h); go_simp; try (with_reducible rfl)); try simp only [Act.put, sa, s0, s1]
              refine tk 9 q2c0_31_5_9 (some 24) (v := ?v6) rfl rfl (by kernel_rfl) hHeld (by rfl) (fun _ _ _ x => x) (fun w h => ?y6) ?_; (case y6 => (try dsimp only at h); go_simp; try (with_reducible rfl)); try simp only [Act.put, sa, s0, s1]
              refine wpAnyH_ready (rs := [10]) (by kernel_rfl) (by simp) ?_
              refine (AllReadyH.cons (o := q2c0_31_5_10) rfl (fun K hK => ?_) AllReadyH.nil)
              · go_simp
                obtain ⟨wE10, hq10⟩ : ∃ q, q = wE6.setCell ⟨w.heap.size + 1, 0, none⟩ (.slice a3 l3.length c3) := ⟨_, rfl⟩
                have HN : Hid (InDraw w g (.slice a3 l3.length c3) l3 (x.toNat - j) wE10) := by rw [hq10]; exact InDraw.put HDwE6.out HE3.out hgl (by have h := HLN.out; omega)
                rw [← hq10]
                clear hq10 q1 qf ql
                refine hK.out _ _ (trivial) (fun hHeld => ?_)
                clear hK K
                try simp only [Act.put, sa, s0, s1]
                refine wpAnyH_done (by kernel_rfl) ?_ _
                go_wp2_with fail
                go_roundw
                case rel => exact ⟨j, .slice a3 l3.length c3, l3, by omega, by go_num, HN.out, HTB3⟩
                case measure => simp [intOf]
      · go_simp
        refine Calls.mono (l4PairT_ok HDwS.out.1) ?_
        rintro e wE2 ⟨pr, ⟨rfl, hp1, hp2, HPK⟩, hc2, hg2⟩
        have HDwE2 := Hid.mk (HDwS.out.step hgl hc2 hg2)
        clear hc2 hg2
        go_wp2_with fail
        refine hK.out _ _ (trivial) (fun hHeld => ?_)
        clear hK K
        try simp only [Act.put, sa, s0, s1]
        refine wpAnyH_ready (rs := [0, 4]) (by kernel_rfl) (by simp) ?_
        refine (AllReadyH.cons (o := q2c0_31_5_0) rfl (fun K hK => ?_) (AllReadyH.cons (o := q2c0_31_5_4) rfl (fun K hK => ?_) AllReadyH.nil))
        · skip
          have yq := HDwE2.out.2.2.2.1.cell 0 _ rfl
          go_simp
          obtain ⟨wE0, hq0⟩ : ∃ q, q = wE2 := ⟨_, rfl⟩
          have HDwE0 : Hid (InDraw w g (.slice a l.length c) l (x.toNat - (j + 1)) wE0) := by rw [hq0]; exact HDwE2
          rw [← hq0]
          clear hq0 yq
          refine hK.out _ _ (trivial) (fun hHeld => ?_)
          clear hK K
          try simp only [Act.put, sa, s0, s1]
          refine wpAnyH_ready (rs := [4]) (by kernel_rfl) (by simp) ?_
          refine (AllReadyH.cons (o := q2c0_31_5_4) rfl (fun K hK => ?_) AllReadyH.nil)
          · go_simp
            refine Calls.mono (l1Below_ok 4 HDwE0.out.1) ?_
            rintro e wE4 ⟨tw, rfl, ht, hc4, hg4⟩
            have HDwE4 := Hid.mk (HDwE0.out.step hgl hc4 hg4)
            have ht1 : 1 ≤ 1 + tw := (by omega)
            have ht2 : 1 + tw ≤ 4 := (by have := ht.2.2.1 (by omega); omega)
            have hwr : IntKind.i64.wrap (1 + tw) = 1 + tw := (by rw [IntKind.wrap_i64]; omega)
            clear hc4 hg4 ht
            go_wp2_with fail
            refine hK.out _ _ (trivial) (fun hHeld => ?_)
            clear hK K
            try simp only [Act.put, sa, s0, s1]
            refine tk 5 q2c0_31_5_5 (some 21) (v := ?v7) rfl rfl (by kernel_rfl) hHeld (by rfl) (fun _ _ _ x => x) (fun w h => ?y7) ?_; (case y7 => (try dsimp only at h); go_simp; try (with_reducible rfl)); try simp only [Act.put, sa, s0, s1]
            refine wpAnyH_ready (rs := [6]) (by kernel_rfl) (by simp) ?_
            refine (AllReadyH.cons (o := q2c0_31_5_6) rfl (fun K hK => ?_) AllReadyH.nil)
            · go_simp
              refine Calls.mono (specMemPut_g a l.length c l pr (1 + tw) wE4 rfl (by omega) (ownN_leaf' HDwE4.out.2.2.2.2.1 (fun y hy => (HDwE4.out.2.2.2.2.2.1 y hy).ok)) HDwE4.out.2.2.2.2.2.1 hp1 hp2 (wf_small ht1 ht2)) ?_
              rintro e wE6 ⟨v3, b3, l3, rfl, HPI, hd3, hx3⟩
              have HTB3 := Hid.mk (HTB.out.put HPI HPK.out.1 HPK.out.2 ht1 ht2 (by omega))
              clear HPI
              have HDwE6 := Hid.mk (HDwE4.out.below hx3)
              obtain ⟨a3, c3, rfl, _⟩ := ownN_leaf hd3.1 (fun y hy => (hd3.2.1 y hy).ok)
              have hz2 := HDwE4.out.2.2.2.1.lt
              have HE3 := Hid.mk (MemDrawn.base hd3 (show w.heap.size + 2 ≤ _ by omega))
              have q1 := HDwE6.out.2.2.2.1.cell 0 _ rfl
              have qf := HDwE6.out.2.2.2.1.free 0
              have ql := HDwE6.out.2.2.2.1.lt
              clear hd3 hx3
              go_wp2_with fail
              refine hK.out _ _ (trivial) (fun hHeld => ?_)
              clear hK K
              try simp only [Act.put, sa, s0, s1]
              refine tk 7 q2c0_31_5_7 (some 15) (v := ?v8) rfl rfl (by kernel_rfl) hHeld (by rfl) (fun _ _ _ x => x) (fun w h => ?y8) ?_; (case y8 => (try dsimp only at h); go_simp; try (with_reducible rfl)); try simp only [Act.put, sa, s0, s1]
              refine tk 8 q2c0_31_5_8 (some 23) (v := ?v9) rfl rfl (by kernel_rfl) hHeld (by rfl) (fun _ _ _ x => x) (fun w h => ?y9) ?_; (case y9 => (try dsimp only at h); go_simp; try (with_reducible rfl)); try simp only [Act.put, sa, s0, s1]
              refine tk 9 q2c0_31_5_9 (some 24) (v := ?v10) rfl rfl (by kernel_rfl) hHeld (by rfl) (fun _ _ _ x => x) (fun w h => ?y10) ?_; (case y10 => (try dsimp only at h); go_simp; try (with_reducible rfl)); try simp only [Act.put, sa, s0, s1]
              refine wpAnyH_ready (rs := [10]) (by kernel_rfl) (by simp) ?_
              refine (AllReadyH.cons (o := q2c0_31_5_10) rfl (fun K hK => ?_) AllReadyH.nil)
              · go_simp
                obtain ⟨wE10, hq10⟩ : ∃ q, q = wE6.setCell ⟨w.heap.size + 1, 0, none⟩ (.slice a3 l3.length c3) := ⟨_, rfl⟩
                have HN : Hid (InDraw w g (.slice a3 l3.length c3) l3 (x.toNat - j) wE10) := by rw [hq10]; exact InDraw.put HDwE6.out HE3.out hgl (by have h := HLN.out; omega)
                rw [← hq10]
                clear hq10 q1 qf ql
                refine hK.out _ _ (trivial) (fun hHeld => ?_)
                clear hK K
                try simp only [Act.put, sa, s0, s1]
                refine wpAnyH_done (by kernel_rfl) ?_ _
                go_wp2_with fail
                go_roundw
                case rel => exact ⟨j, .slice a3 l3.length c3, l3, by omega, by go_num, HN.out, HTB3⟩
                case measure => simp [intOf]
        · go_simp
          refine Calls.mono (l1Below_ok 4 HDwE2.out.1) ?_
          rintro e wE4 ⟨tw, rfl, ht, hc4, hg4⟩
          have HDwE4 := Hid.mk (HDwE2.out.step hgl hc4 hg4)
          have ht1 : 1 ≤ 1 + tw := (by omega)
          have ht2 : 1 + tw ≤ 4 := (by have := ht.2.2.1 (by omega); omega)
          have hwr : IntKind.i64.wrap (1 + tw) = 1 + tw := (by rw [IntKind.wrap_i64]; omega)
          clear hc4 hg4 ht
          go_wp2_with fail
          refine hK.out _ _ (trivial) (fun hHeld => ?_)
          clear hK K
          try simp only [Act.put, sa, s0, s1]
          refine tk 5 q2c0_31_5_5 (some 21) (v := ?v11) rfl rfl (by kernel_rfl) hHeld (by rfl) (fun _ _ _ x => x) (fun w h => ?y11) ?_; (case y11 => (try dsimp only at h); go_simp; try (with_reducible rfl)); try simp only [Act.put, sa, s0, s1]
          refine wpAnyH_ready (rs := [0]) (by kernel_rfl) (by simp) ?_
          refine (AllReadyH.cons (o := q2c0_31_5_0) rfl (fun K hK => ?_) AllReadyH.nil)
          · skip
            have yq := HDwE4.out.2.2.2.1.cell 0 _ rfl
            go_simp
            obtain ⟨wE0, hq0⟩ : ∃ q, q = wE4 := ⟨_, rfl⟩
            have HDwE0 : Hid (InDraw w g (.slice a l.length c) l (x.toNat - (j + 1)) wE0) := by rw [hq0]; exact HDwE4
            rw [← hq0]
            clear hq0 yq
            refine hK.out _ _ (trivial) (fun hHeld => ?_)
            clear hK K
            try simp only [Act.put, sa, s0, s1]
            refine wpAnyH_ready (rs := [6]) (by kernel_rfl) (by simp) ?_
            refine (AllReadyH.cons (o := q2c0_31_5_6) rfl (fun K hK => ?_) AllReadyH.nil)
            · go_simp
              refine Calls.mono (specMemPut_g a l.length c l pr (1 + tw) wE0 rfl (by omega) (ownN_leaf' HDwE0.out.2.2.2.2.1 (fun y hy => (HDwE0.out.2.2.2.2.2.1 y hy).ok)) HDwE0.out.2.2.2.2.2.1 hp1 hp2 (wf_small ht1 ht2)) ?_
              rintro e wE6 ⟨v3, b3, l3, rfl, HPI, hd3, hx3⟩
              have HTB3 := Hid.mk (HTB.out.put HPI HPK.out.1 HPK.out.2 ht1 ht2 (by omega))
              clear HPI
              have HDwE6 := Hid.mk (HDwE0.out.below hx3)
              obtain ⟨a3, c3, rfl, _⟩ := ownN_leaf hd3.1 (fun y hy => (hd3.2.1 y hy).ok)
              have hz2 := HDwE0.out.2.2.2.1.lt
              have HE3 := Hid.mk (MemDrawn.base hd3 (show w.heap.size + 2 ≤ _ by omega))
              have q1 := HDwE6.out.2.2.2.1.cell 0 _ rfl
              have qf := HDwE6.out.2.2.2.1.free 0
              have ql := HDwE6.out.2.2.2.1.lt
              clear hd3 hx3
              go_wp2_with fail
              refine hK.out _ _ (trivial) (fun hHeld => ?_)
              clear hK K
              try simp only [Act.put, sa, s0, s1]
              refine tk 7 q2c0_31_5_7 (some 15) (v := ?v12) rfl rfl (by kernel_rfl) hHeld (by rfl) (fun _ _ _ x => x) (fun w h => ?y12) ?_; (case y12 => (try dsimp only at h); go_simp; try (with_reducible rfl)); try simp only [Act.put, sa, s0, s1]
              refine tk 8 q2c0_31_5_8 (some 23) (v := ?v13) rfl rfl (by kernel_rfl) hHeld (by rfl) (fun _ _ _ x => x) (fun w h => ?y13) ?_; (case y13 => (try dsimp only at h); go_simp; try (with_reducible rfl)); try simp only [Act.put, sa, s0, s1]
              refine tk 9 q2c0_31_5_9 (some 24) (v := ?v14) rfl rfl (by kernel_rfl) hHeld (by rfl) (fun _ _ _ x => x) (fun w h => ?y14) ?_; (case y14 => (try dsimp only at h); go_simp; try (with_reducible rfl)); try simp only [Act.put, sa, s0, s1]
              refine wpAnyH_ready (rs := [10]) (by kernel_rfl) (by simp) ?_
              refine (AllReadyH.cons (o := q2c0_31_5_10) rfl (fun K hK => ?_) AllReadyH.nil)
              · go_simp
                obtain ⟨wE10, hq10⟩ : ∃ q, q = wE6.setCell ⟨w.heap.size + 1, 0, none⟩ (.slice a3 l3.length c3) := ⟨_, rfl⟩
                have HN : Hid (InDraw w g (.slice a3 l3.length c3) l3 (x.toNat - j) wE10) := by rw [hq10]; exact InDraw.put HDwE6.out HE3.out hgl (by have h := HLN.out; omega)
                rw [← hq10]
                clear hq10 q1 qf ql
                refine hK.out _ _ (trivial) (fun hHeld => ?_)
                clear hK K
                try simp only [Act.put, sa, s0, s1]
                refine wpAnyH_done (by kernel_rfl) ?_ _
                go_wp2_with fail
                go_roundw
                case rel => exact ⟨j, .slice a3 l3.length c3, l3, by omega, by go_num, HN.out, HTB3⟩
                case measure => simp [intOf]
    · have hlt' : ¬ (0 : Int) < (i : Int) := by omega
      have y1 := HI.out.2.2.2.1.cell 0 _ rfl
      have y0 := HI.out.2.2.1.cell 0 _ rfl
      have f0 := HI.out.2.2.1.free 0
      have z0 := HI.out.2.2.1.lt
      have z1 := HI.out.2.2.2.1.lt
      have FZ : Hid (MemDrawn (wr.setCell ⟨w.heap.size, 0, none⟩ (.slice a l.length c)) w.heap.size (.slice a l.length c) l 20 ∧ CurOk (wr.setCell ⟨w.heap.size, 0, none⟩ (.slice a l.length c)) g ∧ w.grownBy (wr.setCell ⟨w.heap.size, 0, none⟩ (.slice a l.length c)) (some g)) := by
        obtain ⟨k1, k2, k3⟩ := (HI.out.2.2.2.2.other (b := w.heap.size) (i := 0) (u := .slice a l.length c) (by omega)).more (b := 20) (by omega)
        exact ⟨⟨own_base k1 (by omega), k2, k3⟩, HI.out.1.setCell (p := ⟨w.heap.size, 0, none⟩) hgl _, grown_setCell HI.out.2.1 (p := ⟨w.heap.size, 0, none⟩) (Nat.le_refl _) _⟩
      clear hI hLf
      go_wp2_with fail
      exact bodyPost_ret (v := .agg #[.slice a l.length c]) (by simp [results, Tryd.results31, go_sem, *]) rfl (show MemPostT w g 20 _ _ from ⟨_, l, rfl, FZ.out, HTB.out⟩)



def ListPostT (w : World) (g most : Nat) (e : Ending) (w' : World) : Prop := ∃ (v : Value) (l : List MPair), e = .returned v ∧ (PairDrawn w' w.heap.size v l most ∧ CurOk w' g ∧ w.grownBy w' (some g)) ∧ ∃ ns : List MNode, l = ns.map MNode.fP ∧ TblT ns

set_option maxHeartbeats 4000000 in
theorem l4ListT_ok {g : Nat} {w : World} (q : Int) (hc : CurOk w g) (hq : q ≤ 20) :
    Calls Tryd.prog 16 #[.pointer (some ⟨g, 0, none⟩), .int .i64 q] w fun e w' => ListPostT w g 20 e w' := by
  obtain ⟨iP, hiP, hzP0, hzP1, hzP2⟩ := info_parts Tryd.infoPair
  have HI : Hid (_ ∧ _ ∧ _ ∧ _) := ⟨hiP, hzP0, hzP1, hzP2⟩
  clear hiP hzP0 hzP1 hzP2
  have hgl := hc.lt
  obtain ⟨w0, hw0⟩ : ∃ x, x = w.alloc (.cells #[] 32) := ⟨_, rfl⟩
  have hc0 : CurOk w0 g := by rw [hw0]; exact hc.alloc _
  have hg0 : w.grownBy w0 (some g) := by rw [hw0]; exact World.grownBy_alloc w _ _
  have ho0 : w0.ownsRow w.heap.size 32 3 (.slice (some ⟨w.heap.size, 0, none⟩) 0 0) 0 [] := by rw [hw0]; exact own_lit1 w _ _ _ (Nat.le_refl _)
  have hz0 : w0.heap.size = w.heap.size + 1 := by rw [hw0]; simp
  go_enter Tryd.func16, Tryd.ntmps16
  go_wp2_with (rw [← hw0])
  refine (l4DrawT_ok q hc0 hq).mono ?_
  rintro e w1 ⟨v, l, rfl, ⟨hd1, hc1, hg1⟩, htb⟩
  have HTB := Hid.mk htb
  clear htb
  obtain ⟨a, c, rfl, hL1⟩ := ownN_leaf hd1.1 (fun y hy => (hd1.2.1 y hy).ok)
  have ho1 : w1.ownsRow w.heap.size 32 3 (.slice (some ⟨w.heap.size, 0, none⟩) 0 0) 0 [] := own_of_block ho0 (fun k hk => hg1.block k (ho0.lt k hk).2 (fun e => by have h := (ho0.lt k hk).1; simp at e; omega))
  obtain ⟨w2, hw2⟩ : ∃ x, x = w1.alloc (.cells #[.slice a l.length c] 70) := ⟨_, rfl⟩
  have hx2 : Below w1.heap.size w1 w2 := by rw [hw2]; exact (Below.refl _ _).alloc (Nat.le_refl _) _
  have hbx : Bx w2 w1.heap.size [.slice a l.length c] := by rw [hw2]; exact Bx.new _ _ _
  have ho2 := own_below ho1 hx2
  have hc2 : CurOk w2 g := hc1.below hx2
  have hg2 : w.grownBy w2 (some g) := grown_below (grown_trans hg0 hg1) hx2
  have hll : l.length ≤ 20 := hd1.2.2
  have hz1 : w.heap.size < w1.heap.size := by have h := hg1.size; omega
  have HCE : Hid (∀ k, (hk : k < l.length) → ∃ b o, a = some ⟨b, o, none⟩ ∧ b ≠ w.heap.size ∧ b < w2.heap.size ∧ w2.cell? ⟨b, o + k * 4, none⟩ = some (.string l[k].fP.fKey) ∧ w2.cell? ⟨b, o + k * 4 + 1, none⟩ = some (.string l[k].fP.fVal) ∧ w2.cell? ⟨b, o + k * 4 + 2, none⟩ = some (.bool l[k].fP.fGone)) := fun k hk => by
    obtain ⟨b, o, rfl, hB, cs, _, hcell, rfl, _⟩ := (hL1.2.2.below rNode_good hx2) k hk
    refine ⟨b, o, rfl, ?_, Nat.lt_of_lt_of_le hB hx2.size, hcell 0 _ rfl, hcell 1 _ rfl, hcell 2 _ rfl⟩
    have h := (hd1.1.lt b rfl).1
    omega
  have HSH := Hid.mk hd1.2.1
  clear hw0 hd1 hL1 hc0 hg0 ho0 hc1 hg1 ho1
  go_wp2_with (rw [← hw2])
  clear hw2
  go_loopw [5, 7] (fun ov iv wr => ∃ k : Nat, k ≤ l.length ∧ iv = .int .i64 k ∧ wr.ownsRow w.heap.size 32 3 ov k (flatP ((l.take k).map MNode.fP)) ∧ (∀ j, ov.ownBlock = some j → j = w.heap.size ∨ w2.heap.size ≤ j) ∧ w2.grownBy wr (some w.heap.size)) (fun _ iv _ => l.length - (intOf iv).toNat)
  case atStart => exact ⟨0, Nat.zero_le _, rfl, ho2, fun j hj => .inl (by simpa [Value.ownBlock] using hj.symm), World.grownBy.refl _ _⟩
  case round =>
    obtain ⟨k, hk, rfl, hown, hbl, hgr⟩ := hrel
    clear ho2
    have y0 := (hbx.grown hgr (by simp; omega)).2 0 _ rfl
    by_cases hlt : k < l.length
    · obtain ⟨b, o, rfl, hne, hbz, c0, c1, c2⟩ := HCE.out k hlt
      have k0 := hgr.cell c0 (by simpa using hne)
      have k1 := hgr.cell c1 (by simpa using hne)
      have k2 := hgr.cell c2 (by simpa using hne)
      have HTK : Hid (flatP ((l.take (k + 1)).map MNode.fP) = flatP ((l.take k).map MNode.fP) ++ prC l[k].fP) := by show _ = _; rw [List.take_succ_eq_append_getElem hlt, List.map_append, flatP_app]; simp [flatP]
      generalize l[k].fP = x at *
      clear c0 c1 c2
      obtain ⟨w6, hw6⟩ : ∃ q, q = wr.alloc (.cells #[.string x.fKey, .string x.fVal, .bool x.fGone] 32) := ⟨_, rfl⟩
      have hx6 : Below wr.heap.size wr w6 := by rw [hw6]; exact (Below.refl _ _).alloc (Nat.le_refl _) _
      have hbx6 : Bx w6 wr.heap.size (prC x) := by rw [hw6]; exact Bx.new _ _ _
      have hown6 := own_below hown hx6
      have hzw : w.heap.size ≤ w6.heap.size := by have h1 := hx6.size; have h2 := hgr.size; have h3 := hbx.1; omega
      obtain ⟨xs, HXS⟩ : ∃ z, Hid (z = flatP ((l.take k).map MNode.fP)) := ⟨_, Hid.mk rfl⟩
      rw [← HXS.out] at hown6
      go_wp2_with (at_builtin; rw [← hw6]; refine wpList_append_own_at _ rfl _ _ 24 rfl w.heap.size 32 iP (.agg #[.string ⟨#[]⟩, .string ⟨#[]⟩, .bool false]) 3 40 Tryd.underlying24 HI.out.1 HI.out.2.1 HI.out.2.2.1 HI.out.2.2.2 rfl (by decide) _ _ _ rfl hown6 ⟨wr.heap.size, 0, none⟩ 1 1 (prC x) rfl rfl (bx_news hbx6) prC_one (by unfold maxLen; omega) (by omega) hzw ?_; intro v7 w7 hown7 hgrow7 hnil7 hloc7)
      have HO7 : Hid (w7.ownsRow w.heap.size 32 3 v7 (k + 1) (flatP ((l.take (k + 1)).map MNode.fP))) := own_congr hown7 rfl (by rw [HTK.out, HXS.out])
      have HG7 : Hid (w2.grownBy w7 (some w.heap.size)) := grown_own' (grown_below hgr hx6) hgrow7 hbl
      have HB7 : Hid (∀ j, v7.ownBlock = some j → j = w.heap.size ∨ w2.heap.size ≤ j) := fun j hj => by
        rcases hloc7 with e | e
        · exact hbl j (e ▸ hj)
        · rw [e] at hj; simp at hj; right; have h1 := hx6.size; have h2 := hgr.size; omega
      clear hown6 hown7 hgrow7 hnil7 hloc7 hw6 hbx6 y0 k0 k1 k2
      go_wp2_with fail
      go_roundw
      case rel => exact ⟨k + 1, by omega, by go_num, HO7.out, HB7.out, HG7.out⟩
      case measure => simp [intOf]; omega
    · have HT1 : Hid (l.take k = l) := List.take_of_length_le (by omega)
      have hke : k = l.length := by omega
      have FZ : Hid (PairDrawn wr w.heap.size u5 (l.map MNode.fP) 20 ∧ CurOk wr g ∧ w.grownBy wr (some g)) := by
        rw [HT1.out] at hown
        refine ⟨⟨own_congr hown (by rw [List.length_map]; exact hke) rfl, fun x hx => ?_, by rw [List.length_map]; omega⟩, hc2.grown hgr (fun j hj => by simp at hj; omega), grown_own hg2 hgr (fun j hj => by simp at hj; omega)⟩
        obtain ⟨y, hy, rfl⟩ := List.mem_map.1 hx
        exact ⟨(HSH.out y hy).1, (HSH.out y hy).2.1⟩
      clear hown
      go_wp2_with fail
      go_ret
      exact (show ListPostT w g 20 _ _ from ⟨_, _, rfl, FZ.out, l, rfl, HTB.out⟩)

end Go.Proofs.YtmedljankefhbaaDoor

namespace Go.Proofs.YtmedljankefhbaaDoor
open Go.RowKit

def rPr : Rep (List MPair) := fun B w cs l => ∃ a c, cs = [.slice a l.length c] ∧ LeafL 3 rPair B w a c l
theorem rPr_good : rPr.Good := ⟨fun ⟨a, c, e, h⟩ hb => ⟨a, c, e, h.below rPair_good hb⟩, fun ⟨a, c, e, h⟩ hB => ⟨a, c, e, LeafL.mono rPair_good h hB⟩⟩
def rdPss (B : Nat) (w : World) (v : Value) (l : List (List MPair)) : Prop := ∃ a c, v = .slice a l.length c ∧ LeafL 1 rPr B w a c l
theorem rdPss.below {B : Nat} {w w' : World} {v : Value} {l : List (List MPair)} (h : rdPss B w v l) (hb : Below B w w') : rdPss B w' v l := by
  obtain ⟨a, c, e, h1⟩ := h
  exact ⟨a, c, e, h1.below rPr_good hb⟩
theorem rdPss.mono {B B' : Nat} {w : World} {v : Value} {l : List (List MPair)} (h : rdPss B w v l) (hB : B ≤ B') : rdPss B' w v l := by
  obtain ⟨a, c, e, h1⟩ := h
  exact ⟨a, c, e, LeafL.mono rPr_good h1 hB⟩
end Go.Proofs.YtmedljankefhbaaDoor

namespace Go.Proofs.YtmedljankefhbaaDoor
open Go.RowKit Go.Maps

theorem own_diff {W : World} {b1 b2 e1 e2 s1 s2 n1 n2 : Nat} {v1 v2 : Value} {x1 x2 : List Value} (h1 : W.ownsRow b1 e1 s1 v1 n1 x1) (h2 : W.ownsRow b2 e2 s2 v2 n2 x2) (hne : e1 ≠ e2) : ∀ k, v1.ownBlock = some k → v2.ownBlock ≠ some k := by
  intro k hk hk2
  rcases h1.2 with ⟨rfl, _⟩ | ⟨g, cap, cur, rfl, _, hg, _⟩
  · simp [Value.ownBlock] at hk
  · rcases h2.2 with ⟨rfl, _⟩ | ⟨g', cap', cur', rfl, _, hg', _⟩
    · simp [Value.ownBlock] at hk2
    · simp only [Value.ownBlock, Option.some.injEq] at hk hk2
      rw [hk] at hg
      rw [hk2, hg] at hg'
      simp only [Option.some.injEq, Obj.cells.injEq] at hg'
      exact hne hg'.2.1
theorem pair_shape {W : World} {base most : Nat} {v : Value} {l : List MPair} (h : PairDrawn W base v l most) : ∃ a c, v = .slice a l.length c := by
  rcases h.1.2 with ⟨rfl, h0⟩ | ⟨g, cap, cur, rfl, _⟩
  · exact ⟨none, 0, by rw [h0]⟩
  · exact ⟨_, _, rfl⟩
/-- Lists that were drawn, in a row of one's own. -/
def LstD (W : World) (base : Nat) (v : Value) (ll : List (List MPair)) (vs : List Value) : Prop :=
  W.ownsRow base 24 1 v ll.length vs ∧ ∀ j, (h : j < ll.length) → (h2 : j < vs.length) → PairDrawn W base vs[j] ll[j] 101
theorem LstD.grown {W W' : World} {base g : Nat} {v : Value} {ll : List (List MPair)} {vs : List Value} (h : LstD W base v ll vs) (hg : W.grownBy W' (some g)) (hb : g < base) : LstD W' base v ll vs :=
  ⟨own_of_block h.1 (fun k hk => hg.block k (h.1.lt k hk).2 (fun e => by have := (h.1.lt k hk).1; simp at e; omega)), fun j h1 h2 => (h.2 j h1 h2).grown hg hb⟩
theorem LstD.under {W W' : World} {base : Nat} {v : Value} {ll : List (List MPair)} {vs : List Value} (h : LstD W base v ll vs) (hb : Below W.heap.size W W') : LstD W' base v ll vs :=
  ⟨own_below h.1 hb, fun j h1 h2 => (h.2 j h1 h2).under hb⟩
theorem LstD.append {W W' : World} {base : Nat} {v v' u : Value} {ll : List (List MPair)} {vs : List Value} {l : List MPair} (h : LstD W base v ll vs) (hu : PairDrawn W base u l 101) (hgr : W.grownBy W' v.ownBlock) (ho : W'.ownsRow base 24 1 v' (ll.length + 1) (vs ++ [u])) : LstD W' base v' (ll ++ [l]) (vs ++ [u]) := by
  have hne : (24 : Nat) ≠ 32 := by decide
  have hkeep : ∀ {x : Value} {m : List MPair}, PairDrawn W base x m 101 → PairDrawn W' base x m 101 := fun {x m} hx => ⟨own_of_block hx.1 (fun k hk => hgr.block k (hx.1.lt k hk).2 (fun e => own_diff h.1 hx.1 hne k e.symm hk)), hx.2⟩
  have hl : vs.length = ll.length := by have := h.1.1; omega
  refine ⟨own_congr ho (by simp) rfl, fun j h1 h2 => ?_⟩
  simp only [List.length_append, List.length_cons, List.length_nil] at h1 h2
  by_cases hj : j < ll.length
  · rw [List.getElem_append_left (by omega), List.getElem_append_left hj]
    exact hkeep (h.2 j hj (by omega))
  · obtain rfl : j = ll.length := by omega
    have e1 : (vs ++ [u])[ll.length]'(by simp; omega) = u := by rw [List.getElem_append_right (by omega)]; simp [hl]
    have e2 : (ll ++ [l])[ll.length]'(by simp) = l := by rw [List.getElem_append_right (by omega)]; simp
    rw [e1, e2]
    exact hkeep hu
theorem pair_read {W : World} {base most : Nat} {a : Option Addr} {c n : Nat} {l : List MPair} (h : PairDrawn W base (.slice a n c) l most) : LeafL 3 rPair W.heap.size W a c l ∧ n = l.length := by
  have hR : RowR 3 32 rPair W.heap.size W base (.slice a n c) l := by
    refine ⟨l.map prC, by simp, fun x hx => by obtain ⟨y, _, rfl⟩ := List.mem_map.1 hx; rfl, fun j h1 h2 => ?_, ?_⟩
    · rw [List.getElem_map]
      have hx := h.2.1 l[j] (List.getElem_mem h1)
      exact ⟨rfl, Nat.le_trans hx.1 (by omega), Nat.le_trans hx.2 (by omega), trivial, trivial⟩
    · have e : (l.map prC).flatten = flatP l := by unfold flatP; rw [List.flatMap_def]
      rw [e]; exact h.1
  obtain ⟨a', c', h1, h2⟩ := hR.leaf rPair_good (Nat.le_refl _)
  simp only [Value.slice.injEq] at h1
  rw [h1.1, h1.2.2]
  exact ⟨h2, h1.2.1⟩
theorem flat_one (vs : List Value) : (vs.map fun x => [x]).flatten = vs := by
  induction vs with
  | nil => rfl
  | cons x r ih => simp only [List.map_cons, List.flatten_cons, List.singleton_append, ih]
theorem LstD.read {W : World} {base : Nat} {v : Value} {ll : List (List MPair)} {vs : List Value} (h : LstD W base v ll vs) : rdPss W.heap.size W v ll := by
  have hl : vs.length = ll.length := by have := h.1.1; omega
  have hR : RowR 1 24 rPr W.heap.size W base v ll := by
    refine ⟨vs.map (fun x => [x]), by simpa using hl, fun x hx => by obtain ⟨y, _, rfl⟩ := List.mem_map.1 hx; rfl, fun j h1 h2 => ?_, ?_⟩
    · rw [List.getElem_map]
      have hd := h.2 j h1 (by simpa using h2)
      obtain ⟨a, c, e⟩ := pair_shape hd
      rw [e] at hd ⊢
      exact ⟨a, c, rfl, (pair_read hd).1⟩
    · rw [flat_one]; exact h.1
  exact hR.leaf rPr_good (Nat.le_refl _)

end Go.Proofs.YtmedljankefhbaaDoor

namespace Go.Proofs.YtmedljankefhbaaDoor
open Go.RowKit

theorem xor_zero_eq {a b : Nat} (h : a ^^^ b = 0) : a = b := by
  have h2 : (a ^^^ b) ^^^ b = 0 ^^^ b := by rw [h]
  rw [Nat.xor_assoc, Nat.xor_self, Nat.xor_zero, Nat.zero_xor] at h2
  exact h2
theorem stN_zero {x : Nat} (hx : x < 4294967296) (h : stN x = 0) : x = 0 := by
  unfold stN at h
  by_cases ho : x % 2 = 1
  · rw [if_pos ho] at h
    have := xor_zero_eq h
    omega
  · rw [if_neg ho, Nat.xor_zero] at h
    omega
theorem stN_inj {a b : Nat} (ha : a < 4294967296) (hb : b < 4294967296) (h : stN a = stN b) : a = b := by
  have h1 : stN (a ^^^ b) = 0 := by rw [stN_xor, h, Nat.xor_self]
  exact xor_zero_eq (stN_zero (Nat.xor_lt_two_pow (n := 32) (by omega) (by omega)) h1)
theorem stI_inj {a b : Int} (a0 : 0 ≤ a) (a1 : a < 4294967296) (b0 : 0 ≤ b) (b1 : b < 4294967296) (h : stI a = stI b) : a = b := by
  obtain ⟨a, rfl⟩ := Int.eq_ofNat_of_zero_le a0
  obtain ⟨b, rfl⟩ := Int.eq_ofNat_of_zero_le b0
  rw [stI_cast, stI_cast] at h
  have := stN_inj (a := a) (b := b) (by omega) (by omega) (by omega)
  rw [this]
theorem itI_inj (k : Nat) {a b : Int} (a0 : 0 ≤ a) (a1 : a < 4294967296) (b0 : 0 ≤ b) (b1 : b < 4294967296) (h : itI k a = itI k b) : a = b := by
  induction k with
  | zero => exact h
  | succ k ih =>
    have ha := itI_bd k a0 a1
    have hb := itI_bd k b0 b1
    exact ih (stI_inj ha.1 ha.2 hb.1 hb.2 h)
theorem xr_left {a b c : Int} (a0 : 0 ≤ a) (b0 : 0 ≤ b) (h : xr a c = xr b c) : a = b := by
  unfold xr at h
  have h1 : a.toNat ^^^ c.toNat = b.toNat ^^^ c.toNat := by omega
  have h2 : (a.toNat ^^^ c.toNat) ^^^ c.toNat = (b.toNat ^^^ c.toNat) ^^^ c.toNat := by rw [h1]
  rw [Nat.xor_assoc, Nat.xor_assoc, Nat.xor_self, Nat.xor_zero, Nat.xor_zero] at h2
  omega
theorem xr_right {a b c : Int} (a0 : 0 ≤ a) (b0 : 0 ≤ b) (h : xr c a = xr c b) : a = b := by
  refine xr_left (c := c) a0 b0 ?_
  unfold xr at h ⊢
  rw [Nat.xor_comm a.toNat, Nat.xor_comm b.toNat]
  exact h
theorem byI_left {x y c : Int} (x0 : 0 ≤ x) (x1 : x < 4294967296) (y0 : 0 ≤ y) (y1 : y < 4294967296) (c1 : c < 4294967296) (h : byI x c = byI y c) : x = y := by
  have hx := xr_lt x1 c1
  have hy := xr_lt y1 c1
  exact xr_left x0 y0 (itI_inj 8 hx.1 hx.2 hy.1 hy.2 h)
theorem byI_right {x c d : Int} (x1 : x < 4294967296) (c0 : 0 ≤ c) (c1 : c < 4294967296) (d0 : 0 ≤ d) (d1 : d < 4294967296) (h : byI x c = byI x d) : c = d := by
  have hc := xr_lt x1 c1
  have hd := xr_lt x1 d1
  exact xr_right c0 d0 (itI_inj 8 hc.1 hc.2 hd.1 hd.2 h)
theorem foldl_inj : ∀ (t : List Int), BytesOk t → ∀ {x y : Int}, 0 ≤ x → x < 4294967296 → 0 ≤ y → y < 4294967296 → t.foldl byI x = t.foldl byI y → x = y
  | [], _, x, y, _, _, _, _, h => h
  | c :: t, hb, x, y, x0, x1, y0, y1, h => by
    have hc := hb c (by simp)
    have hx := itI_bd 8 (xr_lt x1 (show c < 4294967296 by omega)).1 (xr_lt x1 (show c < 4294967296 by omega)).2
    have hy := itI_bd 8 (xr_lt y1 (show c < 4294967296 by omega)).1 (xr_lt y1 (show c < 4294967296 by omega)).2
    have := foldl_inj t (fun z hz => hb z (by simp [hz])) hx.1 hx.2 hy.1 hy.2 h
    exact byI_left x0 x1 y0 y1 (by omega) this
/-- One byte that is another: another sum. -/
theorem crc_ne {p t : List Int} {c d : Int} (hp : BytesOk p) (ht : BytesOk t) (hc : 0 ≤ c ∧ c ≤ 255) (hd : 0 ≤ d ∧ d ≤ 255) (hne : c ≠ d) : crc (p ++ c :: t) ≠ crc (p ++ d :: t) := by
  intro h
  have hcb : BytesOk (p ++ c :: t) := fun z hz => by
    rcases List.mem_append.1 hz with h1 | h1
    · exact hp z h1
    · rcases List.mem_cons.1 h1 with h2 | h2
      · rw [h2]; exact hc
      · exact ht z h2
  have hdb : BytesOk (p ++ d :: t) := fun z hz => by
    rcases List.mem_append.1 hz with h1 | h1
    · exact hp z h1
    · rcases List.mem_cons.1 h1 with h2 | h2
      · rw [h2]; exact hd
      · exact ht z h2
  have h1 := xr_left (runI_bd hcb).1 (runI_bd hdb).1 h
  unfold runI at h1
  rw [List.foldl_append, List.foldl_append, List.foldl_cons, List.foldl_cons] at h1
  have hx := runI_bd hp
  unfold runI at hx
  have hxc := itI_bd 8 (xr_lt hx.2 (show c < 4294967296 by omega)).1 (xr_lt hx.2 (show c < 4294967296 by omega)).2
  have hxd := itI_bd 8 (xr_lt hx.2 (show d < 4294967296 by omega)).1 (xr_lt hx.2 (show d < 4294967296 by omega)).2
  have h2 := foldl_inj t ht hxc.1 hxc.2 hxd.1 hxd.2 h1
  exact hne (byI_right hx.2 hc.1 (by omega) hd.1 (by omega) h2)

end Go.Proofs.YtmedljankefhbaaDoor
