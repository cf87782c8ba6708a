/-
  Part 16 of the texts that the proof leans on.
-/
import Derived.Test.YtmedljankefhbaaDoorTbf0
import Derived.Test.YtmedljankefhbaaDoorTbf14
set_option linter.unusedVariables false
set_option linter.unusedSimpArgs false
set_option maxRecDepth 10000

namespace Go.Proofs.YtmedljankefhbaaDoor
open Go.RowKit Go.Maps
abbrev qb73_45_5_0 : Oper := ⟨some 30, .move (.tmp 9), 3, "l04_mem.go:25", #[], none⟩
abbrev qb73_45_5_1 : Oper := ⟨some 31, .fieldAddr 70 (.tmp 8) 0, 0, "l04_mem.go:25", #[], none⟩
abbrev qb73_45_5_2 : Oper := ⟨some 32, .load 68 (.tmp 31), 68, "l04_mem.go:25", #[⟨1, .data⟩], none⟩
abbrev qb73_45_5_3 : Oper := ⟨some 33, .call { callee := .builtin .len, args := #[.tmp 32], argTypes := #[68] }, 3, "l04_mem.go:25", #[⟨2, .data⟩], none⟩
abbrev qb73_45_5_4 : Oper := ⟨some 34, .binOp .lss 3 (.tmp 30) (.tmp 33) 3, 4, "l04_mem.go:25", #[⟨0, .data⟩, ⟨3, .data⟩], none⟩
abbrev qb73_45_5_5 : Oper := ⟨some 35, .move (.tmp 34), 4, "l04_mem.go:25", #[⟨4, .data⟩], none⟩
abbrev qb73_45_5_6 : Oper := ⟨some 36, .fieldAddr 70 (.tmp 8) 0, 0, "l04_mem.go:25", #[⟨5, .guard⟩], some (5, true)⟩
abbrev qb73_45_5_7 : Oper := ⟨some 37, .load 68 (.tmp 36), 68, "l04_mem.go:25", #[⟨6, .data⟩, ⟨5, .guard⟩], some (5, true)⟩
abbrev qb73_45_5_8 : Oper := ⟨some 38, .move (.tmp 9), 3, "l04_mem.go:25", #[⟨5, .guard⟩], some (5, true)⟩
abbrev qb73_45_5_9 : Oper := ⟨some 39, .indexAddr 68 (.tmp 37) (.tmp 38), 0, "l04_mem.go:25", #[⟨7, .data⟩, ⟨8, .data⟩, ⟨5, .guard⟩], some (5, true)⟩
abbrev qb73_45_5_10 : Oper := ⟨some 40, .fieldAddr 73 (.tmp 39) 0, 0, "l04_mem.go:25", #[⟨9, .data⟩, ⟨5, .guard⟩], some (5, true)⟩
abbrev qb73_45_5_11 : Oper := ⟨some 41, .fieldAddr 32 (.tmp 40) 0, 0, "l04_mem.go:25", #[⟨10, .data⟩, ⟨5, .guard⟩], some (5, true)⟩
abbrev qb73_45_5_12 : Oper := ⟨some 42, .load 9 (.tmp 41), 9, "l04_mem.go:25", #[⟨11, .data⟩, ⟨5, .guard⟩], some (5, true)⟩
abbrev qb73_45_5_13 : Oper := ⟨some 43, .fieldAddr 32 (.tmp 4) 0, 0, "l04_mem.go:25", #[⟨5, .guard⟩], some (5, true)⟩
abbrev qb73_45_5_14 : Oper := ⟨some 44, .load 9 (.tmp 43), 9, "l04_mem.go:25", #[⟨13, .data⟩, ⟨5, .guard⟩], some (5, true)⟩
abbrev qb73_45_5_15 : Oper := ⟨some 45, .binOp .lss 9 (.tmp 42) (.tmp 44) 9, 4, "l04_mem.go:25", #[⟨12, .data⟩, ⟨14, .data⟩, ⟨5, .guard⟩], some (5, true)⟩
abbrev qb73_45_5_16 : Oper := ⟨some 46, .pick (.tmp 35) (.tmp 45) (.const (.bool false)), 4, "l04_mem.go:25", #[⟨5, .data⟩, ⟨15, .data⟩], none⟩
abbrev qb73_45_7_0 : Oper := ⟨some 49, .move (.tmp 9), 3, "l04_mem.go:28", #[], none⟩
abbrev qb73_45_7_1 : Oper := ⟨some 50, .fieldAddr 70 (.tmp 8) 0, 0, "l04_mem.go:28", #[], none⟩
abbrev qb73_45_7_2 : Oper := ⟨some 51, .load 68 (.tmp 50), 68, "l04_mem.go:28", #[⟨1, .data⟩], none⟩
abbrev qb73_45_7_3 : Oper := ⟨some 52, .call { callee := .builtin .len, args := #[.tmp 51], argTypes := #[68] }, 3, "l04_mem.go:28", #[⟨2, .data⟩], none⟩
abbrev qb73_45_7_4 : Oper := ⟨some 53, .binOp .lss 3 (.tmp 49) (.tmp 52) 3, 4, "l04_mem.go:28", #[⟨0, .data⟩, ⟨3, .data⟩], none⟩
abbrev qb73_45_7_5 : Oper := ⟨some 54, .move (.tmp 53), 4, "l04_mem.go:28", #[⟨4, .data⟩], none⟩
abbrev qb73_45_7_6 : Oper := ⟨some 55, .fieldAddr 70 (.tmp 8) 0, 0, "l04_mem.go:28", #[⟨5, .guard⟩], some (5, true)⟩
abbrev qb73_45_7_7 : Oper := ⟨some 56, .load 68 (.tmp 55), 68, "l04_mem.go:28", #[⟨6, .data⟩, ⟨5, .guard⟩], some (5, true)⟩
abbrev qb73_45_7_8 : Oper := ⟨some 57, .move (.tmp 9), 3, "l04_mem.go:28", #[⟨5, .guard⟩], some (5, true)⟩
abbrev qb73_45_7_9 : Oper := ⟨some 58, .indexAddr 68 (.tmp 56) (.tmp 57), 0, "l04_mem.go:28", #[⟨7, .data⟩, ⟨8, .data⟩, ⟨5, .guard⟩], some (5, true)⟩
abbrev qb73_45_7_10 : Oper := ⟨some 59, .fieldAddr 73 (.tmp 58) 0, 0, "l04_mem.go:28", #[⟨9, .data⟩, ⟨5, .guard⟩], some (5, true)⟩
abbrev qb73_45_7_11 : Oper := ⟨some 60, .fieldAddr 32 (.tmp 59) 0, 0, "l04_mem.go:28", #[⟨10, .data⟩, ⟨5, .guard⟩], some (5, true)⟩
abbrev qb73_45_7_12 : Oper := ⟨some 61, .load 9 (.tmp 60), 9, "l04_mem.go:28", #[⟨11, .data⟩, ⟨5, .guard⟩], some (5, true)⟩
abbrev qb73_45_7_13 : Oper := ⟨some 62, .fieldAddr 32 (.tmp 4) 0, 0, "l04_mem.go:28", #[⟨5, .guard⟩], some (5, true)⟩
abbrev qb73_45_7_14 : Oper := ⟨some 63, .load 9 (.tmp 62), 9, "l04_mem.go:28", #[⟨13, .data⟩, ⟨5, .guard⟩], some (5, true)⟩
abbrev qb73_45_7_15 : Oper := ⟨some 64, .binOp .eql 9 (.tmp 61) (.tmp 63) 9, 4, "l04_mem.go:28", #[⟨12, .data⟩, ⟨14, .data⟩, ⟨5, .guard⟩], some (5, true)⟩
abbrev qb73_45_7_16 : Oper := ⟨some 65, .pick (.tmp 54) (.tmp 64) (.const (.bool false)), 4, "l04_mem.go:28", #[⟨5, .data⟩, ⟨15, .data⟩], none⟩

def PutIs (l : List MNode) (p : MPair) (tw : Int) (l' : List MNode) : Prop := l' = l ∨ l' = putN l p tw
def PutPostG (w : World) (l : List MNode) (p : MPair) (tw : Int) (n : Nat) (e : Ending) (w' : World) : Prop := ∃ (v : Value) (b : Bool) (l' : List MNode), e = .returned (.tuple #[.agg #[v], .bool b]) ∧ PutIs l p tw l' ∧ MemDrawn w' w.heap.size v l' (n + 1) ∧ Below w.heap.size w w'
theorem put_postG {w w' : World} {n : Nat} {v : Value} {b : Bool} {l l' : List MNode} {p : MPair} {tw : Int} (hi : PutIs l p tw l') (h1 : MemDrawn w' w.heap.size v l' (n + 1) ∧ Below w.heap.size w w') : PutPostG w l p tw n (.returned (.tuple #[.agg #[v], .bool b])) w' := ⟨v, b, l', rfl, hi, h1.1, h1.2⟩
theorem less_is {l : List MNode} {key : ByteArray} (hr : Rising l) {k : Nat} (hk : k ≤ l.length) (hj : ∀ j, (h : j < l.length) → j < k → kLt l[j].fP.fKey key = true) (hl : ∀ h : k < l.length, kLt l[k].fP.fKey key = false) : lessN l key = k := by
  have h1 : ¬ lessN l key < k := fun h => by
    have h2 := (less_iff (key := key) hr (lessN l key) (by omega)).1 (hj _ (by omega) h)
    omega
  have h2 : ¬ k < lessN l key := fun h => by
    have hle := lessN_le l key
    have h3 := (less_iff (key := key) hr k (by omega)).2 h
    rw [hl (by omega)] at h3
    cases h3
  omega
theorem put_is_set {l : List MNode} {p : MPair} {tw : Int} (hr : Rising l) {k : Nat} (hk : k < l.length) (hj : ∀ j, (h : j < l.length) → j < k → kLt l[j].fP.fKey p.fKey = true) (e : l[k].fP.fKey = p.fKey) : PutIs l p tw (l.set k ⟨p, l[k].fTower⟩) := by
  have h := less_is hr (Nat.le_of_lt hk) hj (fun h => by rw [e]; exact kLt_irrefl _)
  subst h
  exact .inr (by rw [putN_same hk e, List.set_eq_take_append_cons_drop, if_pos hk])
theorem put_is_ins {l : List MNode} {p : MPair} {tw : Int} (hr : Rising l) {k : Nat} (hk : k ≤ l.length) (hj : ∀ j, (h : j < l.length) → j < k → kLt l[j].fP.fKey p.fKey = true) (hl : ∀ h : k < l.length, kLt l[k].fP.fKey p.fKey = false ∧ l[k].fP.fKey ≠ p.fKey) : PutIs l p tw (l.take k ++ [(⟨p, tw⟩ : MNode)] ++ l.drop k) := by
  have h := less_is hr hk hj (fun h => (hl h).1)
  subst h
  exact .inr (by rw [putN_new (fun h => (hl h).2)]; simp)

set_option maxHeartbeats 8000000 in
theorem specMemPut_g (a : Option Addr) (n c : Nat) (l : List MNode) (p : MPair) (tw : Int) (w : World) (hx : l.length = n) (hn : n ≤ 1000) (hL : LeafL 4 rNode w.heap.size w a c l) (hsh : ∀ x, x ∈ l → ShN x) (hp1 : p.fKey.size ≤ 21) (hp2 : p.fVal.size ≤ 21) (htw : (Lit.int .i64 tw).wf = true) :
    Calls Tryd.prog 45 #[.agg #[.slice a n c], .agg #[.string p.fKey, .string p.fVal, .bool p.fGone], .int .i64 tw] w fun e w' => PutPostG w l p tw n e w' := by
  obtain ⟨iN, hiN, hzN0, hzN1, hzN2⟩ := info_parts Tryd.infoNode
  have HI : Hid (_ ∧ _ ∧ _ ∧ _) := ⟨hiN, hzN0, hzN1, hzN2⟩
  have HX := Hid.mk hx
  have HL := Hid.mk hL
  have HSH := Hid.mk hsh
  have hww : wMem ⟨l⟩ ≤ 1048576 := by have h := sh_weight hsh; show l.length + sumW wNode l ≤ _; rw [hx] at h ⊢; omega
  have hwp : wPair p ≤ 1048576 := by unfold wPair; omega
  clear hx hL hsh hiN hzN0 hzN1 hzN2
  obtain ⟨w0, hw0⟩ : ∃ x, x = ((w.alloc (.cells #[.slice a n c] 70)).alloc (.cells #[.string p.fKey, .string p.fVal, .bool p.fGone] 32)).alloc (.cells #[.slice none 0 0] 70) := ⟨_, rfl⟩
  have hz0 : w0.heap.size = w.heap.size + 3 := by rw [hw0]; simp
  have hb0 : Below w.heap.size w w0 := by rw [hw0]; exact (((Below.refl _ _).alloc (Nat.le_refl _) _).alloc (by simp) _).alloc (by simp; omega) _
  have hbm : Bx w0 w.heap.size [.slice a n c] := by rw [hw0]; exact ((Bx.new _ _ _).alloc _).alloc _
  have hbp : Bx w0 (w.heap.size + 1) [.string p.fKey, .string p.fVal, .bool p.fGone] := by rw [hw0]; have h := Bx.new (w.alloc (.cells #[.slice a n c] 70)) [.string p.fKey, .string p.fVal, .bool p.fGone] 32; simp only [World.size_alloc] at h; exact h.alloc _
  have hbr : Bw w0 (w.heap.size + 2) 70 [.slice none 0 0] := by rw [hw0]; exact Bw.new' _ _ _ (by simp)
  obtain ⟨wl, hwl⟩ : ∃ x, x = w0.alloc (.cells #[] 73) := ⟨_, rfl⟩
  have hbl : Below w0.heap.size w0 wl := by rw [hwl]; exact (Below.refl _ _).alloc (Nat.le_refl _) _
  have hol : wl.ownsRow w0.heap.size 73 4 (.slice (some ⟨w0.heap.size, 0, none⟩) 0 0) 0 [] := by rw [hwl]; exact World.ownsRow_lit w0 #[] 0 (Nat.le_refl _) (by decide) rfl
  have m0 := (hbm.under hbl).2 0 _ rfl
  have hzl : w0.heap.size < wl.heap.size := by rw [hwl]; simp
  rw [hz0] at hol hzl
  go_enter Tryd.func45, Tryd.ntmps45
  go_wp2_with (first | (at_builtin; rw [← hw0, ← hwl]; refine wpList_app rfl _ _ 68 68 rfl (w.heap.size + 3) 73 iN (.agg #[.string ⟨#[]⟩, .string ⟨#[]⟩, .bool false, .int .i64 0]) 4 48 Tryd.underlying68 HI.out.1 HI.out.2.1 HI.out.2.2.1 HI.out.2.2.2 rfl _ _ _ rfl hol _ rfl n (flatN l) (Src.nds Tryd.underlying68 HX.out (HL.out.2.2.below rNode_good (bthen hb0 hbl))) (by unfold maxLen; omega) (by omega) (by omega) ?_; intro v1 w1 ho1 hgr1 hat1; have hb1 : Below (w.heap.size + 3) w0 w1 := (hz0 ▸ hbl).grown hgr1 (by omega) (fun k h => (hol.lt k h).1); have ho2 : w1.ownsRow (w.heap.size + 3) 73 4 v1 l.length (flatN l) := own_congr ho1 (by rw [HX.out]; omega) (by simp); obtain ⟨a1, c1, rfl, hLf1⟩ := ownN_leaf ho2 (fun x hx => (HSH.out x hx).ok); rw [HX.out] at ho2 hat1 ⊢; obtain ⟨g, rfl, hg3, hgr⟩ := own_some ho2 hat1; have HO2 := Hid.mk ho2; have HLF1 := Hid.mk hLf1; have hz1 : w.heap.size + 3 ≤ w1.heap.size := (by have h := hb1.size; rw [hz0] at h; exact h); have m1 := (hbm.below hb1 (by omega)).2 0 _ rfl; have q0 := (hbp.below hb1 (by omega)).2 0 _ rfl; have q1 := (hbp.below hb1 (by omega)).2 1 _ rfl; have q2 := (hbp.below hb1 (by omega)).2 2 _ rfl; have hzm : w.heap.size < w1.heap.size := (by omega); have hzp : w.heap.size + 1 < w1.heap.size := (by omega); clear ho1 ho2 hLf1 hgr1 hat1 hol m0))
  obtain ⟨w2, hw2⟩ : ∃ x, x = w1.alloc (.cells #[.slice (some ⟨g, 0, none⟩) n c1] 70) := ⟨_, rfl⟩
  have hx2 : Below w1.heap.size w1 w2 := by rw [hw2]; exact (Below.refl _ _).alloc (Nat.le_refl _) _
  have hbo : Bw w2 w1.heap.size 70 [.slice (some ⟨g, 0, none⟩) n c1] := by rw [hw2]; exact Bw.new _ _ _
  have hb02 : Below (w.heap.size + 3) w0 w2 := hb1.trans (hx2.mono hz1)
  have hB2 : Below w.heap.size w w2 := hb0.trans (hb02.mono (by omega))
  have hlo := hbo.lt
  have FIN : Hid (∀ (W : World) (v : Value) (l' : List MNode), W.ownsRow (w.heap.size + 3) 73 4 v l'.length (flatN l') → (∀ x, x ∈ l' → ShN x) → l'.length ≤ n + 1 → Below w.heap.size w W → MemDrawn (W.setCell ⟨w.heap.size + 1 + 1, 0, none⟩ v) w.heap.size v l' (n + 1) ∧ Below w.heap.size w (W.setCell ⟨w.heap.size + 1 + 1, 0, none⟩ v)) := fun W v l' h1 h2 h3 h4 =>
    ⟨⟨own_base (own_of_block h1 (fun k hk => heap_setCell_other W ⟨w.heap.size + 1 + 1, 0, none⟩ k v (by have h := (h1.lt k hk).1; show k ≠ w.heap.size + 1 + 1; omega))) (by omega), h2, h3⟩, h4.setCell (by show w.heap.size ≤ w.heap.size + 1 + 1; omega) _⟩
  have hRM : Hid (∀ W, Below w.heap.size w W → rMem W.heap.size W [.slice a n c] ⟨l⟩) := fun W hb => ⟨a, c, by show [Value.slice a n c] = [.slice a l.length c]; rw [HX.out], (HL.out.below rNode_good hb).mono rNode_good hb.size, trivial⟩
  have HBR : Hid (∀ W, Below w2.heap.size w2 W → Bw W (w.heap.size + 1 + 1) 70 [.slice none 0 0] ∧ Bw W w1.heap.size 70 [.slice (some ⟨g, 0, none⟩) n c1] ∧ Bx W (w.heap.size + 1) [.string p.fKey, .string p.fVal, .bool p.fGone]) := fun W hb =>
    ⟨(hbr.below hb02 (by omega)).under hb, hbo.under hb, (hbp.below hb02 (by omega)).under hb⟩
  have HOW : Hid (∀ W, Below w2.heap.size w2 W → W.ownsRow (w.heap.size + 3) 73 4 (.slice (some ⟨g, 0, none⟩) n c1) l.length (flatN l)) := fun W hb => own_below (own_below (by have h := HO2.out; rw [← HX.out] at h; rw [← HX.out]; exact h) hx2) hb
  have hln : l.length ≤ n + 1 := by rw [HX.out]; omega
  rw [← hw2]
  refine (specMemOk_c [.slice a n c] ⟨l⟩ w2 (hRM.out _ hB2) hww).mono ?_
  rintro e w3 ⟨rfl, hx3⟩
  clear hw2 m1 q0 q1 q2
  by_cases hM : memOkP ⟨l⟩ = true
  rotate_left
  · have hMf := Bool.eq_false_iff.2 hM
    rw [hMf]
    obtain ⟨hr3, ho3, hp3⟩ := HBR.out _ hx3
    have f0 := hr3.free 0
    have y0 := hr3.cell 0 _ rfl
    have z0 := ho3.cell 0 _ rfl
    have hlr0 := hr3.lt
    have hlo0 := ho3.lt
    have hne0 : w.heap.size + 1 + 1 ≠ w1.heap.size := by omega
    go_wp2_with fail
    exact bodyPost_ret (v := .tuple #[.agg #[.slice (some ⟨g, 0, none⟩) n c1], .bool false]) (by simp [results, Tryd.results45, go_sem, *]) rfl (put_postG (.inl rfl) (FIN.out w3 _ _ (HOW.out w3 hx3) HSH.out hln (bthen hB2 hx3)))
  rw [hM]
  obtain ⟨hr3, ho3, hp3⟩ := HBR.out _ hx3
  have q0 := hp3.2 0 _ rfl
  have q1 := hp3.2 1 _ rfl
  have q2 := hp3.2 2 _ rfl
  have hlp := hp3.1
  go_wp2_with fail
  refine (specPairOk_c [.string p.fKey, .string p.fVal, .bool p.fGone] p w3 ⟨rfl, by omega, by omega, trivial, trivial⟩ hwp).mono ?_
  rintro e w4 ⟨rfl, hx4⟩
  have hb4 := bthen hx3 hx4
  clear q0 q1 q2 hr3 ho3 hp3 hlp
  by_cases hP : pairOkP p = true
  rotate_left
  · have hPf := Bool.eq_false_iff.2 hP
    rw [hPf]
    obtain ⟨hr3, ho3, hp3⟩ := HBR.out _ hb4
    have f0 := hr3.free 0
    have y0 := hr3.cell 0 _ rfl
    have z0 := ho3.cell 0 _ rfl
    have hlr0 := hr3.lt
    have hlo0 := ho3.lt
    have hne0 : w.heap.size + 1 + 1 ≠ w1.heap.size := by omega
    go_wp2_with fail
    exact bodyPost_ret (v := .tuple #[.agg #[.slice (some ⟨g, 0, none⟩) n c1], .bool false]) (by simp [results, Tryd.results45, go_sem, *]) rfl (put_postG (.inl rfl) (FIN.out w4 _ _ (HOW.out w4 hb4) HSH.out hln (bthen hB2 hb4)))
  rw [hP]
  go_wp2_with fail
  refine (inR_any tw 1 4 w4).mono ?_
  rintro e w5 ⟨rfl, hw5⟩
  have hw6 := hw5.symm
  clear hw5
  subst hw6
  by_cases hW : inR tw 1 4 = true
  rotate_left
  · have hWf := Bool.eq_false_iff.2 hW
    rw [hWf]
    obtain ⟨hr3, ho3, hp3⟩ := HBR.out _ hb4
    have f0 := hr3.free 0
    have y0 := hr3.cell 0 _ rfl
    have z0 := ho3.cell 0 _ rfl
    have hlr0 := hr3.lt
    have hlo0 := ho3.lt
    have hne0 : w.heap.size + 1 + 1 ≠ w1.heap.size := by omega
    go_wp2_with fail
    exact bodyPost_ret (v := .tuple #[.agg #[.slice (some ⟨g, 0, none⟩) n c1], .bool false]) (by simp [results, Tryd.results45, go_sem, *]) rfl (put_postG (.inl rfl) (FIN.out _ _ _ (HOW.out _ hb4) HSH.out hln (bthen hB2 hb4)))
  rw [hW]
  have HRI := Hid.mk (memOk_iff.1 hM).2.2
  go_wp2_with fail
  go_loopw [9] (fun i wr => ∃ k : Nat, k ≤ n ∧ i = .int .i64 k ∧ Below w2.heap.size w2 wr ∧ Hid (∀ j, (hj : j < l.length) → j < k → kLt l[j].fP.fKey p.fKey = true)) (fun i _ => n - (intOf i).toNat)
  case atStart => exact ⟨0, Nat.zero_le _, rfl, hb4, Hid.mk (fun j _ h => absurd h (Nat.not_lt_zero j))⟩
  case round =>
    obtain ⟨k, hk, rfl, hbk, HJ⟩ := hrel
    have hBk := bthen hB2 hbk
    have y8 : ∀ W, Below wr.heap.size wr W → W.cell? ⟨w1.heap.size, 0, none⟩ = some (.slice (some ⟨g, 0, none⟩) n c1) := fun W hb => (HBR.out W (bthen hbk hb)).2.1.cell 0 _ rfl
    have y4 : ∀ W, Below wr.heap.size wr W → W.cell? ⟨w.heap.size + 1, 0, none⟩ = some (.string p.fKey) := fun W hb => (HBR.out W (bthen hbk hb)).2.2.2 0 _ rfl
    by_cases hlt : k < n
    · have hkl : k < l.length := by rw [HX.out]; exact hlt
      have hlt' : (k : Int) < (n : Int) := by omega
      have hrow := HOW.out _ hbk
      have HCE : Hid (∀ W, Below wr.heap.size wr W → ∀ i u, (ndC l[k])[i]? = some u → W.cell? ⟨g, k * 4 + i, none⟩ = some u) := fun W hb i u hu => by
        have h1 := own_below hrow hb
        rw [← HX.out] at h1
        have hi4 : i < 4 := by have := (List.getElem?_eq_some_iff.1 hu).1; simpa [ndC] using this
        rw [h1.cellAt (k * 4 + i) (by omega), ← hu, ← flatN_at hkl, List.getElem?_take, if_pos hi4, List.getElem?_drop]
      have u0 : ∀ W, Below wr.heap.size wr W → W.cell? ⟨g, k * 4, none⟩ = some (.string l[k].fP.fKey) := fun W hb => HCE.out W hb 0 _ rfl
      by_cases hK : kLt l[k].fP.fKey p.fKey = true
      · have HJ2 : Hid (∀ j, (hj : j < l.length) → j < k + 1 → kLt l[j].fP.fKey p.fKey = true) := fun j hj hjk => by
          rcases Nat.lt_succ_iff_lt_or_eq.1 hjk with g9 | g9
          · exact HJ.out j hj g9
          · subst g9; exact hK
        have e1 : Op.bytesLess l[k].fP.fKey.toList p.fKey.toList = true := hK
        generalize l[k].fP.fKey = kx at *
        go_wp2_with fail
        refine wp_region_held_drew (S := fun W => Below wr.heap.size wr W) (by kernel_rfl) (Below.drew (Below.refl _ _)) (fun hHeld => ?_)
        refine tk 0 qb73_45_5_0 (some 30) (v := ?v1) rfl rfl (by kernel_rfl) hHeld (by rfl) (fun _ _ _ x => x) (fun w h => ?y1) ?_; (case y1 => (try dsimp only at h); go_simp; try (with_reducible rfl)); try simp only [Act.put, sa, s0, s1]
        refine tk 1 qb73_45_5_1 (some 31) (v := ?v2) rfl rfl (by kernel_rfl) hHeld (by rfl) (fun _ _ _ x => x) (fun w h => ?y2) ?_; (case y2 => (try dsimp only at h); go_simp; try (with_reducible rfl)); try simp only [Act.put, sa, s0, s1]
        refine tk 2 qb73_45_5_2 (some 32) (v := ?v3) rfl rfl (by kernel_rfl) hHeld (by rfl) (fun _ _ _ x => x) (fun w h => ?y3) ?_; (case y3 => (try dsimp only at h); go_simp; try (with_reducible rfl)); try simp only [Act.put, sa, s0, s1]
        refine tk 3 qb73_45_5_3 (some 33) (v := ?v4) rfl rfl (by kernel_rfl) hHeld (by rfl) (fun _ _ _ x => x) (fun w h => ?y4) ?_; (case y4 => (try dsimp only at h); go_simp; try (with_reducible rfl)); try simp only [Act.put, sa, s0, s1]
        refine tk 4 qb73_45_5_4 (some 34) (v := ?v5) rfl rfl (by kernel_rfl) hHeld (by rfl) (fun _ _ _ x => x) (fun w h => ?y5) ?_; (case y5 => (try dsimp only at h); go_simp; try (with_reducible rfl)); try simp only [Act.put, sa, s0, s1]
        refine tk 5 qb73_45_5_5 (some 35) (v := ?v6) rfl rfl (by kernel_rfl) hHeld (by rfl) (fun _ _ _ x => x) (fun w h => ?y6) ?_; (case y6 => (try dsimp only at h); go_simp; try (with_reducible rfl)); try simp only [Act.put, sa, s0, s1]
        refine tk 6 qb73_45_5_6 (some 36) (v := ?v7) rfl rfl (by kernel_rfl) hHeld (by rfl) (fun _ _ _ x => x) (fun w h => ?y7) ?_; (case y7 => (try dsimp only at h); go_simp; try (with_reducible rfl)); try simp only [Act.put, sa, s0, s1]
        refine tk 7 qb73_45_5_7 (some 37) (v := ?v8) rfl rfl (by kernel_rfl) hHeld (by rfl) (fun _ _ _ x => x) (fun w h => ?y8) ?_; (case y8 => (try dsimp only at h); go_simp; try (with_reducible rfl)); try simp only [Act.put, sa, s0, s1]
        refine tk 8 qb73_45_5_8 (some 38) (v := ?v9) rfl rfl (by kernel_rfl) hHeld (by rfl) (fun _ _ _ x => x) (fun w h => ?y9) ?_; (case y9 => (try dsimp only at h); go_simp; try (with_reducible rfl)); try simp only [Act.put, sa, s0, s1]
        refine tk 9 qb73_45_5_9 (some 39) (v := ?v10) rfl rfl (by kernel_rfl) hHeld (by rfl) (fun _ _ _ x => x) (fun w h => ?y10) ?_; (case y10 => (try dsimp only at h); go_simp; try (with_reducible rfl)); try simp only [Act.put, sa, s0, s1]
        refine tk 10 qb73_45_5_10 (some 40) (v := ?v11) rfl rfl (by kernel_rfl) hHeld (by rfl) (fun _ _ _ x => x) (fun w h => ?y11) ?_; (case y11 => (try dsimp only at h); go_simp; try (with_reducible rfl)); try simp only [Act.put, sa, s0, s1]
        refine tk 11 qb73_45_5_11 (some 41) (v := ?v12) rfl rfl (by kernel_rfl) hHeld (by rfl) (fun _ _ _ x => x) (fun w h => ?y12) ?_; (case y12 => (try dsimp only at h); go_simp; try (with_reducible rfl)); try simp only [Act.put, sa, s0, s1]
        refine tk 12 qb73_45_5_12 (some 42) (v := ?v13) rfl rfl (by kernel_rfl) hHeld (by rfl) (fun _ _ _ x => x) (fun w h => ?y13) ?_; (case y13 => (try dsimp only at h); go_simp; try (with_reducible rfl)); try simp only [Act.put, sa, s0, s1]
        refine tk 13 qb73_45_5_13 (some 43) (v := ?v14) rfl rfl (by kernel_rfl) hHeld (by rfl) (fun _ _ _ x => x) (fun w h => ?y14) ?_; (case y14 => (try dsimp only at h); go_simp; try (with_reducible rfl)); try simp only [Act.put, sa, s0, s1]
        refine tk 14 qb73_45_5_14 (some 44) (v := ?v15) rfl rfl (by kernel_rfl) hHeld (by rfl) (fun _ _ _ x => x) (fun w h => ?y15) ?_; (case y15 => (try dsimp only at h); go_simp; try (with_reducible rfl)); try simp only [Act.put, sa, s0, s1]
        refine tk 15 qb73_45_5_15 (some 45) (v := ?v16) rfl rfl (by kernel_rfl) hHeld (by rfl) (fun _ _ _ x => x) (fun w h => ?y16) ?_; (case y16 => (try dsimp only at h); go_simp; try (with_reducible rfl)); try simp only [Act.put, sa, s0, s1]
        refine tk 16 qb73_45_5_16 (some 46) (v := ?v17) rfl rfl (by kernel_rfl) hHeld (by rfl) (fun _ _ _ x => x) (fun w h => ?y17) ?_; (case y17 => (try dsimp only at h); go_simp; try (with_reducible rfl)); try simp only [Act.put, sa, s0, s1]
        refine wpAnyH_done (by kernel_rfl) ?_ _
        go_wp2_with fail
        go_roundw
        case rel => exact ⟨k + 1, by omega, by go_num, bthen hbk hHeld, HJ2⟩
        case measure => simp [intOf]; omega
      · have e1 : Op.bytesLess l[k].fP.fKey.toList p.fKey.toList = false := Bool.eq_false_iff.2 hK
        by_cases hE : l[k].fP.fKey = p.fKey
        · have HOB : True := trivial
          have HPQ : Hid (PutIs l p tw (l.set k ⟨p, l[k].fTower⟩)) := put_is_set HRI.out hkl HJ.out hE
          have HE2 := Hid.mk (k_same hE)
          clear hE hK
          have HSET := Hid.mk (flatN_set hkl p)
          have HSHK := Hid.mk (HSH.out l[k] (List.getElem_mem hkl))
          obtain ⟨l2, HL2⟩ : ∃ l2, Hid (l2 = l.set k ⟨p, l[k].fTower⟩) := ⟨_, Hid.mk rfl⟩
          have HS2 : Hid (∀ x, x ∈ l2 → ShN x) := fun x hx => by
            rw [HL2.out] at hx
            rcases List.mem_or_eq_of_mem_set hx with h | rfl
            · exact HSH.out x h
            · exact ⟨hp1, hp2, HSHK.out.2.2⟩
          have hl2 : l2.length = n := by rw [HL2.out, List.length_set]; exact HX.out
          rw [← HL2.out] at HSET
          have HPI : Hid (PutIs l p tw l2) := by unfold Hid; rw [HL2.out]; exact HPQ.out
          clear HPQ
          have HC3 : Hid (∀ W, Below wr.heap.size wr W → W.cell? ⟨g, k * 4, none⟩ = some (.string l[k].fP.fKey) ∧ W.cell? ⟨g, k * 4 + 1, none⟩ = some (.string l[k].fP.fVal) ∧ W.cell? ⟨g, k * 4 + 2, none⟩ = some (.bool l[k].fP.fGone)) := fun W hb => ⟨HCE.out W hb 0 _ rfl, HCE.out W hb 1 _ rfl, HCE.out W hb 2 _ rfl⟩
          have HFR : Hid (∀ W, Below wr.heap.size wr W → ∀ i, W.frozen? ⟨g, i, none⟩ = false) := fun W hb i => by
            rcases (own_below hrow hb).2 with ⟨h, _⟩ | ⟨g', cap, cur, h, _, hgg, _⟩
            · cases h
            · simp only [Value.slice.injEq, Option.some.injEq, Addr.mk.injEq, and_true] at h
              rw [h.1]
              exact frozen_of_row W g' i cur _ hgg
          generalize l[k].fP.fVal = vx at *
          generalize l[k].fP.fGone = gx at *
          generalize l[k].fP.fKey = kx at *
          go_wp2_with fail
          refine wp_region_held_drew (S := fun W => Below wr.heap.size wr W) (by kernel_rfl) (Below.drew (Below.refl _ _)) (fun hHeld => ?_)
          refine tk 0 qb73_45_5_0 (some 30) (v := ?v18) rfl rfl (by kernel_rfl) hHeld (by rfl) (fun _ _ _ x => x) (fun w h => ?y18) ?_; (case y18 => (try dsimp only at h); go_simp; try (with_reducible rfl)); try simp only [Act.put, sa, s0, s1]
          refine tk 1 qb73_45_5_1 (some 31) (v := ?v19) rfl rfl (by kernel_rfl) hHeld (by rfl) (fun _ _ _ x => x) (fun w h => ?y19) ?_; (case y19 => (try dsimp only at h); go_simp; try (with_reducible rfl)); try simp only [Act.put, sa, s0, s1]
          refine tk 2 qb73_45_5_2 (some 32) (v := ?v20) rfl rfl (by kernel_rfl) hHeld (by rfl) (fun _ _ _ x => x) (fun w h => ?y20) ?_; (case y20 => (try dsimp only at h); go_simp; try (with_reducible rfl)); try simp only [Act.put, sa, s0, s1]
          refine tk 3 qb73_45_5_3 (some 33) (v := ?v21) rfl rfl (by kernel_rfl) hHeld (by rfl) (fun _ _ _ x => x) (fun w h => ?y21) ?_; (case y21 => (try dsimp only at h); go_simp; try (with_reducible rfl)); try simp only [Act.put, sa, s0, s1]
          refine tk 4 qb73_45_5_4 (some 34) (v := ?v22) rfl rfl (by kernel_rfl) hHeld (by rfl) (fun _ _ _ x => x) (fun w h => ?y22) ?_; (case y22 => (try dsimp only at h); go_simp; try (with_reducible rfl)); try simp only [Act.put, sa, s0, s1]
          refine tk 5 qb73_45_5_5 (some 35) (v := ?v23) rfl rfl (by kernel_rfl) hHeld (by rfl) (fun _ _ _ x => x) (fun w h => ?y23) ?_; (case y23 => (try dsimp only at h); go_simp; try (with_reducible rfl)); try simp only [Act.put, sa, s0, s1]
          refine tk 6 qb73_45_5_6 (some 36) (v := ?v24) rfl rfl (by kernel_rfl) hHeld (by rfl) (fun _ _ _ x => x) (fun w h => ?y24) ?_; (case y24 => (try dsimp only at h); go_simp; try (with_reducible rfl)); try simp only [Act.put, sa, s0, s1]
          refine tk 7 qb73_45_5_7 (some 37) (v := ?v25) rfl rfl (by kernel_rfl) hHeld (by rfl) (fun _ _ _ x => x) (fun w h => ?y25) ?_; (case y25 => (try dsimp only at h); go_simp; try (with_reducible rfl)); try simp only [Act.put, sa, s0, s1]
          refine tk 8 qb73_45_5_8 (some 38) (v := ?v26) rfl rfl (by kernel_rfl) hHeld (by rfl) (fun _ _ _ x => x) (fun w h => ?y26) ?_; (case y26 => (try dsimp only at h); go_simp; try (with_reducible rfl)); try simp only [Act.put, sa, s0, s1]
          refine tk 9 qb73_45_5_9 (some 39) (v := ?v27) rfl rfl (by kernel_rfl) hHeld (by rfl) (fun _ _ _ x => x) (fun w h => ?y27) ?_; (case y27 => (try dsimp only at h); go_simp; try (with_reducible rfl)); try simp only [Act.put, sa, s0, s1]
          refine tk 10 qb73_45_5_10 (some 40) (v := ?v28) rfl rfl (by kernel_rfl) hHeld (by rfl) (fun _ _ _ x => x) (fun w h => ?y28) ?_; (case y28 => (try dsimp only at h); go_simp; try (with_reducible rfl)); try simp only [Act.put, sa, s0, s1]
          refine tk 11 qb73_45_5_11 (some 41) (v := ?v29) rfl rfl (by kernel_rfl) hHeld (by rfl) (fun _ _ _ x => x) (fun w h => ?y29) ?_; (case y29 => (try dsimp only at h); go_simp; try (with_reducible rfl)); try simp only [Act.put, sa, s0, s1]
          refine tk 12 qb73_45_5_12 (some 42) (v := ?v30) rfl rfl (by kernel_rfl) hHeld (by rfl) (fun _ _ _ x => x) (fun w h => ?y30) ?_; (case y30 => (try dsimp only at h); go_simp; try (with_reducible rfl)); try simp only [Act.put, sa, s0, s1]
          refine tk 13 qb73_45_5_13 (some 43) (v := ?v31) rfl rfl (by kernel_rfl) hHeld (by rfl) (fun _ _ _ x => x) (fun w h => ?y31) ?_; (case y31 => (try dsimp only at h); go_simp; try (with_reducible rfl)); try simp only [Act.put, sa, s0, s1]
          refine tk 14 qb73_45_5_14 (some 44) (v := ?v32) rfl rfl (by kernel_rfl) hHeld (by rfl) (fun _ _ _ x => x) (fun w h => ?y32) ?_; (case y32 => (try dsimp only at h); go_simp; try (with_reducible rfl)); try simp only [Act.put, sa, s0, s1]
          refine tk 15 qb73_45_5_15 (some 45) (v := ?v33) rfl rfl (by kernel_rfl) hHeld (by rfl) (fun _ _ _ x => x) (fun w h => ?y33) ?_; (case y33 => (try dsimp only at h); go_simp; try (with_reducible rfl)); try simp only [Act.put, sa, s0, s1]
          refine tk 16 qb73_45_5_16 (some 46) (v := ?v34) rfl rfl (by kernel_rfl) hHeld (by rfl) (fun _ _ _ x => x) (fun w h => ?y34) ?_; (case y34 => (try dsimp only at h); go_simp; try (with_reducible rfl)); try simp only [Act.put, sa, s0, s1]
          refine wpAnyH_done (by kernel_rfl) ?_ _
          have e2 := HE2.out
          clear e1
          go_wp2_with fail
          refine wp_region_held_drew (S := fun W => Below wr.heap.size wr W) (by kernel_rfl) (Below.drew hHeld) (fun hHeld => ?_)
          refine tk 0 qb73_45_7_0 (some 49) (v := ?v35) rfl rfl (by kernel_rfl) hHeld (by rfl) (fun _ _ _ x => x) (fun w h => ?y35) ?_; (case y35 => (try dsimp only at h); go_simp; try (with_reducible rfl)); try simp only [Act.put, sa, s0, s1]
          refine tk 1 qb73_45_7_1 (some 50) (v := ?v36) rfl rfl (by kernel_rfl) hHeld (by rfl) (fun _ _ _ x => x) (fun w h => ?y36) ?_; (case y36 => (try dsimp only at h); go_simp; try (with_reducible rfl)); try simp only [Act.put, sa, s0, s1]
          refine tk 2 qb73_45_7_2 (some 51) (v := ?v37) rfl rfl (by kernel_rfl) hHeld (by rfl) (fun _ _ _ x => x) (fun w h => ?y37) ?_; (case y37 => (try dsimp only at h); go_simp; try (with_reducible rfl)); try simp only [Act.put, sa, s0, s1]
          refine tk 3 qb73_45_7_3 (some 52) (v := ?v38) rfl rfl (by kernel_rfl) hHeld (by rfl) (fun _ _ _ x => x) (fun w h => ?y38) ?_; (case y38 => (try dsimp only at h); go_simp; try (with_reducible rfl)); try simp only [Act.put, sa, s0, s1]
          refine tk 4 qb73_45_7_4 (some 53) (v := ?v39) rfl rfl (by kernel_rfl) hHeld (by rfl) (fun _ _ _ x => x) (fun w h => ?y39) ?_; (case y39 => (try dsimp only at h); go_simp; try (with_reducible rfl)); try simp only [Act.put, sa, s0, s1]
          refine tk 5 qb73_45_7_5 (some 54) (v := ?v40) rfl rfl (by kernel_rfl) hHeld (by rfl) (fun _ _ _ x => x) (fun w h => ?y40) ?_; (case y40 => (try dsimp only at h); go_simp; try (with_reducible rfl)); try simp only [Act.put, sa, s0, s1]
          refine tk 6 qb73_45_7_6 (some 55) (v := ?v41) rfl rfl (by kernel_rfl) hHeld (by rfl) (fun _ _ _ x => x) (fun w h => ?y41) ?_; (case y41 => (try dsimp only at h); go_simp; try (with_reducible rfl)); try simp only [Act.put, sa, s0, s1]
          refine tk 7 qb73_45_7_7 (some 56) (v := ?v42) rfl rfl (by kernel_rfl) hHeld (by rfl) (fun _ _ _ x => x) (fun w h => ?y42) ?_; (case y42 => (try dsimp only at h); go_simp; try (with_reducible rfl)); try simp only [Act.put, sa, s0, s1]
          refine tk 8 qb73_45_7_8 (some 57) (v := ?v43) rfl rfl (by kernel_rfl) hHeld (by rfl) (fun _ _ _ x => x) (fun w h => ?y43) ?_; (case y43 => (try dsimp only at h); go_simp; try (with_reducible rfl)); try simp only [Act.put, sa, s0, s1]
          refine tk 9 qb73_45_7_9 (some 58) (v := ?v44) rfl rfl (by kernel_rfl) hHeld (by rfl) (fun _ _ _ x => x) (fun w h => ?y44) ?_; (case y44 => (try dsimp only at h); go_simp; try (with_reducible rfl)); try simp only [Act.put, sa, s0, s1]
          refine tk 10 qb73_45_7_10 (some 59) (v := ?v45) rfl rfl (by kernel_rfl) hHeld (by rfl) (fun _ _ _ x => x) (fun w h => ?y45) ?_; (case y45 => (try dsimp only at h); go_simp; try (with_reducible rfl)); try simp only [Act.put, sa, s0, s1]
          refine tk 11 qb73_45_7_11 (some 60) (v := ?v46) rfl rfl (by kernel_rfl) hHeld (by rfl) (fun _ _ _ x => x) (fun w h => ?y46) ?_; (case y46 => (try dsimp only at h); go_simp; try (with_reducible rfl)); try simp only [Act.put, sa, s0, s1]
          refine tk 12 qb73_45_7_12 (some 61) (v := ?v47) rfl rfl (by kernel_rfl) hHeld (by rfl) (fun _ _ _ x => x) (fun w h => ?y47) ?_; (case y47 => (try dsimp only at h); go_simp; try (with_reducible rfl)); try simp only [Act.put, sa, s0, s1]
          refine tk 13 qb73_45_7_13 (some 62) (v := ?v48) rfl rfl (by kernel_rfl) hHeld (by rfl) (fun _ _ _ x => x) (fun w h => ?y48) ?_; (case y48 => (try dsimp only at h); go_simp; try (with_reducible rfl)); try simp only [Act.put, sa, s0, s1]
          refine tk 14 qb73_45_7_14 (some 63) (v := ?v49) rfl rfl (by kernel_rfl) hHeld (by rfl) (fun _ _ _ x => x) (fun w h => ?y49) ?_; (case y49 => (try dsimp only at h); go_simp; try (with_reducible rfl)); try simp only [Act.put, sa, s0, s1]
          refine tk 15 qb73_45_7_15 (some 64) (v := ?v50) rfl rfl (by kernel_rfl) hHeld (by rfl) (fun _ _ _ x => x) (fun w h => ?y50) ?_; (case y50 => (try dsimp only at h); go_simp; try (with_reducible rfl)); try simp only [Act.put, sa, s0, s1]
          refine tk 16 qb73_45_7_16 (some 65) (v := ?v51) rfl rfl (by kernel_rfl) hHeld (by rfl) (fun _ _ _ x => x) (fun w h => ?y51) ?_; (case y51 => (try dsimp only at h); go_simp; try (with_reducible rfl)); try simp only [Act.put, sa, s0, s1]
          refine wpAnyH_done (by kernel_rfl) ?_ _
          clear e2
          obtain ⟨wz, hwz⟩ : ∃ x, x = wr.drew.drew := ⟨_, rfl⟩
          have hbzr : Below wr.heap.size wr wz := by rw [hwz]; exact hHeld
          have hbz := bthen hbk hbzr
          rw [← hwz]
          clear hwz hHeld
          obtain ⟨hr3, ho3, hp3⟩ := HBR.out _ hbz
          have q0 := hp3.2 0 _ rfl
          have q1 := hp3.2 1 _ rfl
          have q2 := hp3.2 2 _ rfl
          have z8 := ho3.cell 0 _ rfl
          obtain ⟨c0, c1', c2⟩ := HC3.out _ hbzr
          have fr0 := HFR.out _ hbzr (k * 4)
          have fr1 := HFR.out _ hbzr (k * 4 + 1)
          have fr2 := HFR.out _ hbzr (k * 4 + 2)
          have r0 := hr3.cell 0 _ rfl
          have rf := hr3.free 0
          have hgn1 : g ≠ w1.heap.size := by omega
          have hgn2 : w1.heap.size ≠ g := by omega
          have hgn3 : g ≠ w.heap.size + 1 + 1 := by omega
          have hgn4 : w.heap.size + 1 + 1 ≠ g := by omega
          have hgn5 : w.heap.size + 1 + 1 ≠ w1.heap.size := by omega
          have HOZ : Hid ((wz.setCells g (k * 4) [.string p.fKey, .string p.fVal, .bool p.fGone]).ownsRow (w.heap.size + 3) 73 4 (.slice (some ⟨g, 0, none⟩) n c1) l2.length (flatN l2)) := by
            have h := HOW.out _ hbz
            rw [HX.out] at h
            have h2 := own_setCells (o := k * 4) (news := [.string p.fKey, .string p.fVal, .bool p.fGone]) h (by simp; omega)
            rw [hl2]
            exact own_congr h2 rfl HSET.out
          have HBZ : Hid (Below w.heap.size w (wz.setCells g (k * 4) [.string p.fKey, .string p.fVal, .bool p.fGone])) := (((bthen hB2 hbz).setCell (p := ⟨g, k * 4, none⟩) (by show w.heap.size ≤ g; omega) _).setCell (p := ⟨g, k * 4 + 1, none⟩) (by show w.heap.size ≤ g; omega) _).setCell (p := ⟨g, k * 4 + 2, none⟩) (by show w.heap.size ≤ g; omega) _
          have FZ := Hid.mk (FIN.out _ _ _ HOZ.out HS2.out (by rw [hl2]; omega) HBZ.out)
          clear HOZ HBZ HC3 HFR HCE HSET hrow y8 y4 u0
          go_wp2_with fail
          exact bodyPost_ret (v := .tuple #[.agg #[.slice (some ⟨g, 0, none⟩) n c1], .bool true]) (by simp [results, Tryd.results45, go_sem, *]) rfl (put_postG HPI.out FZ.out)
        · have HNK : Hid (hasKey l p.fKey = false) := noKey HRI.out hkl HJ.out hE (Bool.eq_false_iff.2 hK)
          have HPQ : Hid (PutIs l p tw (l.take k ++ [(⟨p, tw⟩ : MNode)] ++ l.drop k)) := put_is_ins HRI.out (Nat.le_of_lt hkl) HJ.out (fun _ => ⟨Bool.eq_false_iff.2 hK, hE⟩)
          have e2 := k_ne hE
          generalize l[k].fP.fKey = kx at *
          go_wp2_with fail
          refine wp_region_held_drew (S := fun W => Below wr.heap.size wr W) (by kernel_rfl) (Below.drew (Below.refl _ _)) (fun hHeld => ?_)
          refine tk 0 qb73_45_5_0 (some 30) (v := ?v52) rfl rfl (by kernel_rfl) hHeld (by rfl) (fun _ _ _ x => x) (fun w h => ?y52) ?_; (case y52 => (try dsimp only at h); go_simp; try (with_reducible rfl)); try simp only [Act.put, sa, s0, s1]
          refine tk 1 qb73_45_5_1 (some 31) (v := ?v53) rfl rfl (by kernel_rfl) hHeld (by rfl) (fun _ _ _ x => x) (fun w h => ?y53) ?_; (case y53 => (try dsimp only at h); go_simp; try (with_reducible rfl)); try simp only [Act.put, sa, s0, s1]
          refine tk 2 qb73_45_5_2 (some 32) (v := ?v54) rfl rfl (by kernel_rfl) hHeld (by rfl) (fun _ _ _ x => x) (fun w h => ?y54) ?_; (case y54 => (try dsimp only at h); go_simp; try (with_reducible rfl)); try simp only [Act.put, sa, s0, s1]
          refine tk 3 qb73_45_5_3 (some 33) (v := ?v55) rfl rfl (by kernel_rfl) hHeld (by rfl) (fun _ _ _ x => x) (fun w h => ?y55) ?_; (case y55 => (try dsimp only at h); go_simp; try (with_reducible rfl)); try simp only [Act.put, sa, s0, s1]
          refine tk 4 qb73_45_5_4 (some 34) (v := ?v56) rfl rfl (by kernel_rfl) hHeld (by rfl) (fun _ _ _ x => x) (fun w h => ?y56) ?_; (case y56 => (try dsimp only at h); go_simp; try (with_reducible rfl)); try simp only [Act.put, sa, s0, s1]
          refine tk 5 qb73_45_5_5 (some 35) (v := ?v57) rfl rfl (by kernel_rfl) hHeld (by rfl) (fun _ _ _ x => x) (fun w h => ?y57) ?_; (case y57 => (try dsimp only at h); go_simp; try (with_reducible rfl)); try simp only [Act.put, sa, s0, s1]
          refine tk 6 qb73_45_5_6 (some 36) (v := ?v58) rfl rfl (by kernel_rfl) hHeld (by rfl) (fun _ _ _ x => x) (fun w h => ?y58) ?_; (case y58 => (try dsimp only at h); go_simp; try (with_reducible rfl)); try simp only [Act.put, sa, s0, s1]
          refine tk 7 qb73_45_5_7 (some 37) (v := ?v59) rfl rfl (by kernel_rfl) hHeld (by rfl) (fun _ _ _ x => x) (fun w h => ?y59) ?_; (case y59 => (try dsimp only at h); go_simp; try (with_reducible rfl)); try simp only [Act.put, sa, s0, s1]
          refine tk 8 qb73_45_5_8 (some 38) (v := ?v60) rfl rfl (by kernel_rfl) hHeld (by rfl) (fun _ _ _ x => x) (fun w h => ?y60) ?_; (case y60 => (try dsimp only at h); go_simp; try (with_reducible rfl)); try simp only [Act.put, sa, s0, s1]
          refine tk 9 qb73_45_5_9 (some 39) (v := ?v61) rfl rfl (by kernel_rfl) hHeld (by rfl) (fun _ _ _ x => x) (fun w h => ?y61) ?_; (case y61 => (try dsimp only at h); go_simp; try (with_reducible rfl)); try simp only [Act.put, sa, s0, s1]
          refine tk 10 qb73_45_5_10 (some 40) (v := ?v62) rfl rfl (by kernel_rfl) hHeld (by rfl) (fun _ _ _ x => x) (fun w h => ?y62) ?_; (case y62 => (try dsimp only at h); go_simp; try (with_reducible rfl)); try simp only [Act.put, sa, s0, s1]
          refine tk 11 qb73_45_5_11 (some 41) (v := ?v63) rfl rfl (by kernel_rfl) hHeld (by rfl) (fun _ _ _ x => x) (fun w h => ?y63) ?_; (case y63 => (try dsimp only at h); go_simp; try (with_reducible rfl)); try simp only [Act.put, sa, s0, s1]
          refine tk 12 qb73_45_5_12 (some 42) (v := ?v64) rfl rfl (by kernel_rfl) hHeld (by rfl) (fun _ _ _ x => x) (fun w h => ?y64) ?_; (case y64 => (try dsimp only at h); go_simp; try (with_reducible rfl)); try simp only [Act.put, sa, s0, s1]
          refine tk 13 qb73_45_5_13 (some 43) (v := ?v65) rfl rfl (by kernel_rfl) hHeld (by rfl) (fun _ _ _ x => x) (fun w h => ?y65) ?_; (case y65 => (try dsimp only at h); go_simp; try (with_reducible rfl)); try simp only [Act.put, sa, s0, s1]
          refine tk 14 qb73_45_5_14 (some 44) (v := ?v66) rfl rfl (by kernel_rfl) hHeld (by rfl) (fun _ _ _ x => x) (fun w h => ?y66) ?_; (case y66 => (try dsimp only at h); go_simp; try (with_reducible rfl)); try simp only [Act.put, sa, s0, s1]
          refine tk 15 qb73_45_5_15 (some 45) (v := ?v67) rfl rfl (by kernel_rfl) hHeld (by rfl) (fun _ _ _ x => x) (fun w h => ?y67) ?_; (case y67 => (try dsimp only at h); go_simp; try (with_reducible rfl)); try simp only [Act.put, sa, s0, s1]
          refine tk 16 qb73_45_5_16 (some 46) (v := ?v68) rfl rfl (by kernel_rfl) hHeld (by rfl) (fun _ _ _ x => x) (fun w h => ?y68) ?_; (case y68 => (try dsimp only at h); go_simp; try (with_reducible rfl)); try simp only [Act.put, sa, s0, s1]
          refine wpAnyH_done (by kernel_rfl) ?_ _
          go_wp2_with fail
          refine wp_region_held_drew (S := fun W => Below wr.heap.size wr W) (by kernel_rfl) (Below.drew hHeld) (fun hHeld => ?_)
          refine tk 0 qb73_45_7_0 (some 49) (v := ?v69) rfl rfl (by kernel_rfl) hHeld (by rfl) (fun _ _ _ x => x) (fun w h => ?y69) ?_; (case y69 => (try dsimp only at h); go_simp; try (with_reducible rfl)); try simp only [Act.put, sa, s0, s1]
          refine tk 1 qb73_45_7_1 (some 50) (v := ?v70) rfl rfl (by kernel_rfl) hHeld (by rfl) (fun _ _ _ x => x) (fun w h => ?y70) ?_; (case y70 => (try dsimp only at h); go_simp; try (with_reducible rfl)); try simp only [Act.put, sa, s0, s1]
          refine tk 2 qb73_45_7_2 (some 51) (v := ?v71) rfl rfl (by kernel_rfl) hHeld (by rfl) (fun _ _ _ x => x) (fun w h => ?y71) ?_; (case y71 => (try dsimp only at h); go_simp; try (with_reducible rfl)); try simp only [Act.put, sa, s0, s1]
          refine tk 3 qb73_45_7_3 (some 52) (v := ?v72) rfl rfl (by kernel_rfl) hHeld (by rfl) (fun _ _ _ x => x) (fun w h => ?y72) ?_; (case y72 => (try dsimp only at h); go_simp; try (with_reducible rfl)); try simp only [Act.put, sa, s0, s1]
          refine tk 4 qb73_45_7_4 (some 53) (v := ?v73) rfl rfl (by kernel_rfl) hHeld (by rfl) (fun _ _ _ x => x) (fun w h => ?y73) ?_; (case y73 => (try dsimp only at h); go_simp; try (with_reducible rfl)); try simp only [Act.put, sa, s0, s1]
          refine tk 5 qb73_45_7_5 (some 54) (v := ?v74) rfl rfl (by kernel_rfl) hHeld (by rfl) (fun _ _ _ x => x) (fun w h => ?y74) ?_; (case y74 => (try dsimp only at h); go_simp; try (with_reducible rfl)); try simp only [Act.put, sa, s0, s1]
          refine tk 6 qb73_45_7_6 (some 55) (v := ?v75) rfl rfl (by kernel_rfl) hHeld (by rfl) (fun _ _ _ x => x) (fun w h => ?y75) ?_; (case y75 => (try dsimp only at h); go_simp; try (with_reducible rfl)); try simp only [Act.put, sa, s0, s1]
          refine tk 7 qb73_45_7_7 (some 56) (v := ?v76) rfl rfl (by kernel_rfl) hHeld (by rfl) (fun _ _ _ x => x) (fun w h => ?y76) ?_; (case y76 => (try dsimp only at h); go_simp; try (with_reducible rfl)); try simp only [Act.put, sa, s0, s1]
          refine tk 8 qb73_45_7_8 (some 57) (v := ?v77) rfl rfl (by kernel_rfl) hHeld (by rfl) (fun _ _ _ x => x) (fun w h => ?y77) ?_; (case y77 => (try dsimp only at h); go_simp; try (with_reducible rfl)); try simp only [Act.put, sa, s0, s1]
          refine tk 9 qb73_45_7_9 (some 58) (v := ?v78) rfl rfl (by kernel_rfl) hHeld (by rfl) (fun _ _ _ x => x) (fun w h => ?y78) ?_; (case y78 => (try dsimp only at h); go_simp; try (with_reducible rfl)); try simp only [Act.put, sa, s0, s1]
          refine tk 10 qb73_45_7_10 (some 59) (v := ?v79) rfl rfl (by kernel_rfl) hHeld (by rfl) (fun _ _ _ x => x) (fun w h => ?y79) ?_; (case y79 => (try dsimp only at h); go_simp; try (with_reducible rfl)); try simp only [Act.put, sa, s0, s1]
          refine tk 11 qb73_45_7_11 (some 60) (v := ?v80) rfl rfl (by kernel_rfl) hHeld (by rfl) (fun _ _ _ x => x) (fun w h => ?y80) ?_; (case y80 => (try dsimp only at h); go_simp; try (with_reducible rfl)); try simp only [Act.put, sa, s0, s1]
          refine tk 12 qb73_45_7_12 (some 61) (v := ?v81) rfl rfl (by kernel_rfl) hHeld (by rfl) (fun _ _ _ x => x) (fun w h => ?y81) ?_; (case y81 => (try dsimp only at h); go_simp; try (with_reducible rfl)); try simp only [Act.put, sa, s0, s1]
          refine tk 13 qb73_45_7_13 (some 62) (v := ?v82) rfl rfl (by kernel_rfl) hHeld (by rfl) (fun _ _ _ x => x) (fun w h => ?y82) ?_; (case y82 => (try dsimp only at h); go_simp; try (with_reducible rfl)); try simp only [Act.put, sa, s0, s1]
          refine tk 14 qb73_45_7_14 (some 63) (v := ?v83) rfl rfl (by kernel_rfl) hHeld (by rfl) (fun _ _ _ x => x) (fun w h => ?y83) ?_; (case y83 => (try dsimp only at h); go_simp; try (with_reducible rfl)); try simp only [Act.put, sa, s0, s1]
          refine tk 15 qb73_45_7_15 (some 64) (v := ?v84) rfl rfl (by kernel_rfl) hHeld (by rfl) (fun _ _ _ x => x) (fun w h => ?y84) ?_; (case y84 => (try dsimp only at h); go_simp; try (with_reducible rfl)); try simp only [Act.put, sa, s0, s1]
          refine tk 16 qb73_45_7_16 (some 65) (v := ?v85) rfl rfl (by kernel_rfl) hHeld (by rfl) (fun _ _ _ x => x) (fun w h => ?y85) ?_; (case y85 => (try dsimp only at h); go_simp; try (with_reducible rfl)); try simp only [Act.put, sa, s0, s1]
          refine wpAnyH_done (by kernel_rfl) ?_ _
          obtain ⟨wz, hwz⟩ : ∃ x, x = wr.drew.drew := ⟨_, rfl⟩
          have hbzr : Below wr.heap.size wr wz := by rw [hwz]; exact hHeld
          have hbz := bthen hbk hbzr
          rw [← hwz]
          clear hwz hHeld
          obtain ⟨hr3, ho3, hp3⟩ := HBR.out _ hbz
          have z8 := ho3.cell 0 _ rfl
          have r0 := hr3.cell 0 _ rfl
          have rf := hr3.free 0
          have hlr0 := hr3.lt
          have hlo3 := ho3.lt
          have hgn5 : w.heap.size + 1 + 1 ≠ w1.heap.size := by omega
          have hgn6 : w1.heap.size ≠ w.heap.size + 1 + 1 := by omega
          have HLZ : Hid (LeafL 4 rNode wz.heap.size wz (some ⟨g, 0, none⟩) c1 l) := by
            obtain ⟨x1, x2, hx1, hx2⟩ := ownN_leaf (HOW.out _ hbz) (fun x hx => (HSH.out x hx).ok)
            simp only [Value.slice.injEq] at hx1
            rw [hx1.1, hx1.2.2]
            exact hx2
          by_cases h60 : (n : Int) = 60
          · have HOB : True := trivial
            go_wp2_with fail
            exact bodyPost_ret (v := .tuple #[.agg #[.slice (some ⟨g, 0, none⟩) n c1], .bool false]) (by simp [results, Tryd.results45, go_sem, *]) rfl (put_postG (.inl rfl) (FIN.out wz _ _ (HOW.out wz hbz) HSH.out hln (bthen hB2 hbz)))
          · have HOB : True := trivial
            obtain ⟨wA, hwA⟩ : ∃ x, x = wz.alloc (.cells #[] 73) := ⟨_, rfl⟩
            have hbA : Below wz.heap.size wz wA := by rw [hwA]; exact (Below.refl _ _).alloc (Nat.le_refl _) _
            have hoA : wA.ownsRow wz.heap.size 73 4 (.slice (some ⟨wz.heap.size, 0, none⟩) 0 0) 0 [] := by rw [hwA]; exact World.ownsRow_lit wz #[] 0 (Nat.le_refl _) (by decide) rfl
            have HFR := Hid.mk (LeafL.fore (k := k) HLZ.out (by rw [HX.out]; omega))
            have hkc : (k : Int) ≤ (c1 : Int) := by have h := HLZ.out.1; rw [HX.out] at h; omega
            have hkn : (k : Int) ≤ (n : Int) := by omega
            have hk0 : (0 : Int) ≤ (k : Int) := by omega
            have HTL : Hid ((l.take k).length = k) := by show _ = _; rw [List.length_take, HX.out]; omega
            have q0 : ∀ W, Below wz.heap.size wz W → W.cell? ⟨w.heap.size + 1, 0, none⟩ = some (.string p.fKey) := fun W hb => (HBR.out W (bthen hbz hb)).2.2.2 0 _ rfl
            have q1 : ∀ W, Below wz.heap.size wz W → W.cell? ⟨w.heap.size + 1, 1, none⟩ = some (.string p.fVal) := fun W hb => (HBR.out W (bthen hbz hb)).2.2.2 1 _ rfl
            have q2 : ∀ W, Below wz.heap.size wz W → W.cell? ⟨w.heap.size + 1, 2, none⟩ = some (.bool p.fGone) := fun W hb => (HBR.out W (bthen hbz hb)).2.2.2 2 _ rfl
            have HQ8 : Hid (∀ W, Below wz.heap.size wz W → W.cell? ⟨w1.heap.size, 0, none⟩ = some (.slice (some ⟨g, 0, none⟩) n c1)) := fun W hb => (HBR.out W (bthen hbz hb)).2.1.cell 0 _ rfl
            have hzz : w.heap.size + 1 < wz.heap.size := hp3.1
            have hzz3 : w.heap.size + 3 ≤ wz.heap.size := by omega
            have HDL : Hid ((l.drop k).length = n - k) := by show _ = _; rw [List.length_drop, HX.out]
            have HDR : Hid (RdS 4 rNode wz.heap.size wz (some ⟨g, k * 4, none⟩) (l.drop k)) := fun j hj => by
              have hj2 : k + j < l.length := by simp at hj; omega
              obtain ⟨b, off, e, hB, cs, h1, h2, h3⟩ := HLZ.out.2.2 (k + j) hj2
              simp only [Option.some.injEq, Addr.mk.injEq, and_true] at e
              obtain ⟨rfl, rfl⟩ := e
              refine ⟨g, k * 4, rfl, hB, cs, h1, fun i u hu => ?_, by rw [List.getElem_drop]; exact h3⟩
              have h4 := h2 i u hu
              rw [show 0 + (k + j) * 4 + i = k * 4 + j * 4 + i by omega] at h4
              exact h4
            have HDI : Hid (RdS 4 rNode wz.heap.size wz (if c1 = k then some ⟨g, 0, none⟩ else some ⟨g, k * 4, none⟩) (l.drop k)) := by
              by_cases hc : c1 = k
              · rw [if_pos hc]
                intro j hj
                have h := HLZ.out.1
                simp at hj
                omega
              · rw [if_neg hc]
                exact HDR.out
            obtain ⟨l3, H3⟩ : ∃ l3 : List MNode, Hid (l3 = l.take k ++ [(⟨p, tw⟩ : MNode)] ++ l.drop k) := ⟨_, Hid.mk rfl⟩
            have HPI : Hid (PutIs l p tw l3) := by unfold Hid; rw [H3.out]; exact HPQ.out
            have HS3 : Hid (∀ x, x ∈ l3 → ShN x) := fun x hx => by
              rw [H3.out] at hx
              simp only [List.mem_append, List.mem_singleton] at hx
              rcases hx with (hx | rfl) | hx
              · exact HSH.out x (List.mem_of_mem_take hx)
              · exact ⟨hp1, hp2, htw⟩
              · exact HSH.out x (List.mem_of_mem_drop hx)
            have HL3 : Hid (k + 1 + (n - k) = l3.length) := by show _ = _; rw [H3.out]; simp only [List.length_append, List.length_cons, List.length_nil, HTL.out, HDL.out]
            have HF3 : Hid (flatN (l.take k ++ [(⟨p, tw⟩ : MNode)]) ++ flatN (l.drop k) = flatN l3) := by show _ = _; rw [H3.out]; exact (flatN_app _ _).symm
            have HL4 : Hid (l3.length ≤ n + 1) := by show _ ≤ _; rw [← HL3.out]; omega
            go_wp2_with (first | (at_builtin; rw [← hwA]; refine wpList_app rfl _ _ 68 68 rfl wz.heap.size 73 iN (.agg #[.string ⟨#[]⟩, .string ⟨#[]⟩, .bool false, .int .i64 0]) 4 48 Tryd.underlying68 HI.out.1 HI.out.2.1 HI.out.2.2.1 HI.out.2.2.2 rfl _ _ _ rfl hoA _ rfl k (flatN (l.take k)) (Src.nds Tryd.underlying68 HTL.out (HFR.out.2.2.below rNode_good hbA)) (by unfold maxLen; omega) (by omega) hbA.size ?_; intro v7 w7 ho7 hgr7 hat7; have hb7 : Below wz.heap.size wz w7 := hbA.grown hgr7 hbA.size (fun k h => (hoA.lt k h).1); have HO7 : Hid (w7.ownsRow wz.heap.size 73 4 v7 k (flatN (l.take k))) := own_congr ho7 (by omega) (by simp); have q07 := q0 _ hb7; have q17 := q1 _ hb7; have q27 := q2 _ hb7; have hz7 : w.heap.size + 1 < w7.heap.size := Nat.lt_of_lt_of_le hzz hb7.size; clear ho7 hgr7 hat7) | (at_builtin; obtain ⟨w8, hw8⟩ : ∃ x, x = w7.alloc (.cells #[.string p.fKey, .string p.fVal, .bool p.fGone, .int .i64 tw] 73) := ⟨_, rfl⟩; have hbx8 : Bx w8 w7.heap.size (ndC ⟨p, tw⟩) := (by rw [hw8]; exact Bx.new _ _ _); have hx8 : Below w7.heap.size w7 w8 := (by rw [hw8]; exact (Below.refl _ _).alloc (Nat.le_refl _) _); have hb8 := bthen hb7 hx8; have ho8 := own_below HO7.out hx8; rw [← hw8]; refine wpList_app rfl _ _ 68 68 rfl wz.heap.size 73 iN (.agg #[.string ⟨#[]⟩, .string ⟨#[]⟩, .bool false, .int .i64 0]) 4 48 Tryd.underlying68 HI.out.1 HI.out.2.1 HI.out.2.2.1 HI.out.2.2.2 rfl _ _ _ rfl ho8 _ rfl 1 (ndC ⟨p, tw⟩) (Src.ofSlice _ Tryd.underlying68 ⟨w7.heap.size, 0, none⟩ 1 1 _ rfl (bx_news hbx8) ndC_one) (by unfold maxLen; omega) (by omega) hb8.size ?_; intro v9 w9 ho9 hgr9 hat9; have hb9 : Below wz.heap.size wz w9 := hb8.grown hgr9 hb8.size (fun k h => (ho8.lt k h).1); have HO9 : Hid (w9.ownsRow wz.heap.size 73 4 v9 (k + 1) (flatN (l.take k ++ [(⟨p, tw⟩ : MNode)]))) := own_congr ho9 rfl (by rw [flatN_app]; simp [flatN]); have z89 := HQ8.out _ hb9; clear ho8 ho9 hgr9 hat9 hw8 hbx8 hx8) | (at_builtin; refine wpList_app rfl _ _ 68 68 rfl wz.heap.size 73 iN (.agg #[.string ⟨#[]⟩, .string ⟨#[]⟩, .bool false, .int .i64 0]) 4 48 Tryd.underlying68 HI.out.1 HI.out.2.1 HI.out.2.2.1 HI.out.2.2.2 rfl _ _ _ rfl HO9.out _ rfl (n - k) (flatN (l.drop k)) (Src.nds Tryd.underlying68 HDL.out (RdS.below rNode_good HDI.out hb9)) (by unfold maxLen; omega) (by omega) hb9.size ?_; intro v10 w10 ho10 hgr10 hat10; have hb10 : Below wz.heap.size wz w10 := hb9.grown hgr10 hb9.size (fun k h => (HO9.out.lt k h).1); have ho11 : w10.ownsRow wz.heap.size 73 4 v10 l3.length (flatN l3) := own_congr ho10 HL3.out HF3.out; obtain ⟨a10, c10, rfl, _⟩ := ownN_leaf ho11 (fun x hx => (HS3.out x hx).ok); have hbr10 := (HBR.out _ (bthen hbz hb10)).1; have r10 := hbr10.cell 0 _ rfl; have rf10 := hbr10.free 0; have hlr10 := hbr10.lt; have FZ := Hid.mk (FIN.out w10 _ _ (own_base ho11 hzz3) HS3.out HL4.out (bthen hB2 (bthen hbz hb10))); clear ho10 hgr10 hat10 ho11))
            all_goals exact bodyPost_ret (v := .tuple #[.agg #[.slice a10 l3.length c10], .bool true]) (by simp [results, Tryd.results45, go_sem, *]) rfl (put_postG HPI.out FZ.out)
    · have HNK : Hid (hasKey l p.fKey = false) := noKey_all (fun j hj => HJ.out j hj (by have := HX.out; omega))
      have hlt' : ¬ (k : Int) < (n : Int) := by omega
      have hlt2 : decide ((k : Int) < (n : Int)) = false := decide_eq_false hlt'
      have HPQ : Hid (PutIs l p tw (l.take k ++ [(⟨p, tw⟩ : MNode)] ++ l.drop k)) := put_is_ins HRI.out (by rw [HX.out]; exact hk) HJ.out (fun h => absurd h (by have := HX.out; omega))
      go_wp2_with fail
      refine wp_region_held_drew (S := fun W => Below wr.heap.size wr W) (by kernel_rfl) (Below.drew (Below.refl _ _)) (fun hHeld => ?_)
      refine tk 0 qb73_45_5_0 (some 30) (v := ?v86) rfl rfl (by kernel_rfl) hHeld (by rfl) (fun _ _ _ x => x) (fun w h => ?y86) ?_; (case y86 => (try dsimp only at h); go_simp; try (with_reducible rfl)); try simp only [Act.put, sa, s0, s1]
      refine tk 1 qb73_45_5_1 (some 31) (v := ?v87) rfl rfl (by kernel_rfl) hHeld (by rfl) (fun _ _ _ x => x) (fun w h => ?y87) ?_; (case y87 => (try dsimp only at h); go_simp; try (with_reducible rfl)); try simp only [Act.put, sa, s0, s1]
      refine tk 2 qb73_45_5_2 (some 32) (v := ?v88) rfl rfl (by kernel_rfl) hHeld (by rfl) (fun _ _ _ x => x) (fun w h => ?y88) ?_; (case y88 => (try dsimp only at h); go_simp; try (with_reducible rfl)); try simp only [Act.put, sa, s0, s1]
      refine tk 3 qb73_45_5_3 (some 33) (v := ?v89) rfl rfl (by kernel_rfl) hHeld (by rfl) (fun _ _ _ x => x) (fun w h => ?y89) ?_; (case y89 => (try dsimp only at h); go_simp; try (with_reducible rfl)); try simp only [Act.put, sa, s0, s1]
      refine tk 4 qb73_45_5_4 (some 34) (v := ?v90) rfl rfl (by kernel_rfl) hHeld (by rfl) (fun _ _ _ x => x) (fun w h => ?y90) ?_; (case y90 => (try dsimp only at h); go_simp; try (with_reducible rfl)); try simp only [Act.put, sa, s0, s1]
      refine tk 5 qb73_45_5_5 (some 35) (v := ?v91) rfl rfl (by kernel_rfl) hHeld (by rfl) (fun _ _ _ x => x) (fun w h => ?y91) ?_; (case y91 => (try dsimp only at h); go_simp; try (with_reducible rfl)); try simp only [Act.put, sa, s0, s1]
      refine tn 6 qb73_45_5_6 (some 36) rfl rfl (by kernel_rfl) hHeld (by rfl) (fun _ _ _ x => x) ?_; try simp only [Act.put, sa, s0, s1]
      refine tn 7 qb73_45_5_7 (some 37) rfl rfl (by kernel_rfl) hHeld (by rfl) (fun _ _ _ x => x) ?_; try simp only [Act.put, sa, s0, s1]
      refine tn 8 qb73_45_5_8 (some 38) rfl rfl (by kernel_rfl) hHeld (by rfl) (fun _ _ _ x => x) ?_; try simp only [Act.put, sa, s0, s1]
      refine tn 9 qb73_45_5_9 (some 39) rfl rfl (by kernel_rfl) hHeld (by rfl) (fun _ _ _ x => x) ?_; try simp only [Act.put, sa, s0, s1]
      refine tn 10 qb73_45_5_10 (some 40) rfl rfl (by kernel_rfl) hHeld (by rfl) (fun _ _ _ x => x) ?_; try simp only [Act.put, sa, s0, s1]
      refine tn 11 qb73_45_5_11 (some 41) rfl rfl (by kernel_rfl) hHeld (by rfl) (fun _ _ _ x => x) ?_; try simp only [Act.put, sa, s0, s1]
      refine tn 12 qb73_45_5_12 (some 42) rfl rfl (by kernel_rfl) hHeld (by rfl) (fun _ _ _ x => x) ?_; try simp only [Act.put, sa, s0, s1]
      refine tn 13 qb73_45_5_13 (some 43) rfl rfl (by kernel_rfl) hHeld (by rfl) (fun _ _ _ x => x) ?_; try simp only [Act.put, sa, s0, s1]
      refine tn 14 qb73_45_5_14 (some 44) rfl rfl (by kernel_rfl) hHeld (by rfl) (fun _ _ _ x => x) ?_; try simp only [Act.put, sa, s0, s1]
      refine tn 15 qb73_45_5_15 (some 45) rfl rfl (by kernel_rfl) hHeld (by rfl) (fun _ _ _ x => x) ?_; try simp only [Act.put, sa, s0, s1]
      refine tk 16 qb73_45_5_16 (some 46) (v := ?v102) rfl rfl (by kernel_rfl) hHeld (by rfl) (fun _ _ _ x => x) (fun w h => ?y102) ?_; (case y102 => (try dsimp only at h); go_simp; try (with_reducible rfl)); try simp only [Act.put, sa, s0, s1]
      refine wpAnyH_done (by kernel_rfl) ?_ _
      go_wp2_with fail
      refine wp_region_held_drew (S := fun W => Below wr.heap.size wr W) (by kernel_rfl) (Below.drew hHeld) (fun hHeld => ?_)
      refine tk 0 qb73_45_7_0 (some 49) (v := ?v103) rfl rfl (by kernel_rfl) hHeld (by rfl) (fun _ _ _ x => x) (fun w h => ?y103) ?_; (case y103 => (try dsimp only at h); go_simp; try (with_reducible rfl)); try simp only [Act.put, sa, s0, s1]
      refine tk 1 qb73_45_7_1 (some 50) (v := ?v104) rfl rfl (by kernel_rfl) hHeld (by rfl) (fun _ _ _ x => x) (fun w h => ?y104) ?_; (case y104 => (try dsimp only at h); go_simp; try (with_reducible rfl)); try simp only [Act.put, sa, s0, s1]
      refine tk 2 qb73_45_7_2 (some 51) (v := ?v105) rfl rfl (by kernel_rfl) hHeld (by rfl) (fun _ _ _ x => x) (fun w h => ?y105) ?_; (case y105 => (try dsimp only at h); go_simp; try (with_reducible rfl)); try simp only [Act.put, sa, s0, s1]
      refine tk 3 qb73_45_7_3 (some 52) (v := ?v106) rfl rfl (by kernel_rfl) hHeld (by rfl) (fun _ _ _ x => x) (fun w h => ?y106) ?_; (case y106 => (try dsimp only at h); go_simp; try (with_reducible rfl)); try simp only [Act.put, sa, s0, s1]
      refine tk 4 qb73_45_7_4 (some 53) (v := ?v107) rfl rfl (by kernel_rfl) hHeld (by rfl) (fun _ _ _ x => x) (fun w h => ?y107) ?_; (case y107 => (try dsimp only at h); go_simp; try (with_reducible rfl)); try simp only [Act.put, sa, s0, s1]
      refine tk 5 qb73_45_7_5 (some 54) (v := ?v108) rfl rfl (by kernel_rfl) hHeld (by rfl) (fun _ _ _ x => x) (fun w h => ?y108) ?_; (case y108 => (try dsimp only at h); go_simp; try (with_reducible rfl)); try simp only [Act.put, sa, s0, s1]
      refine tn 6 qb73_45_7_6 (some 55) rfl rfl (by kernel_rfl) hHeld (by rfl) (fun _ _ _ x => x) ?_; try simp only [Act.put, sa, s0, s1]
      refine tn 7 qb73_45_7_7 (some 56) rfl rfl (by kernel_rfl) hHeld (by rfl) (fun _ _ _ x => x) ?_; try simp only [Act.put, sa, s0, s1]
      refine tn 8 qb73_45_7_8 (some 57) rfl rfl (by kernel_rfl) hHeld (by rfl) (fun _ _ _ x => x) ?_; try simp only [Act.put, sa, s0, s1]
      refine tn 9 qb73_45_7_9 (some 58) rfl rfl (by kernel_rfl) hHeld (by rfl) (fun _ _ _ x => x) ?_; try simp only [Act.put, sa, s0, s1]
      refine tn 10 qb73_45_7_10 (some 59) rfl rfl (by kernel_rfl) hHeld (by rfl) (fun _ _ _ x => x) ?_; try simp only [Act.put, sa, s0, s1]
      refine tn 11 qb73_45_7_11 (some 60) rfl rfl (by kernel_rfl) hHeld (by rfl) (fun _ _ _ x => x) ?_; try simp only [Act.put, sa, s0, s1]
      refine tn 12 qb73_45_7_12 (some 61) rfl rfl (by kernel_rfl) hHeld (by rfl) (fun _ _ _ x => x) ?_; try simp only [Act.put, sa, s0, s1]
      refine tn 13 qb73_45_7_13 (some 62) rfl rfl (by kernel_rfl) hHeld (by rfl) (fun _ _ _ x => x) ?_; try simp only [Act.put, sa, s0, s1]
      refine tn 14 qb73_45_7_14 (some 63) rfl rfl (by kernel_rfl) hHeld (by rfl) (fun _ _ _ x => x) ?_; try simp only [Act.put, sa, s0, s1]
      refine tn 15 qb73_45_7_15 (some 64) rfl rfl (by kernel_rfl) hHeld (by rfl) (fun _ _ _ x => x) ?_; try simp only [Act.put, sa, s0, s1]
      refine tk 16 qb73_45_7_16 (some 65) (v := ?v119) rfl rfl (by kernel_rfl) hHeld (by rfl) (fun _ _ _ x => x) (fun w h => ?y119) ?_; (case y119 => (try dsimp only at h); go_simp; try (with_reducible rfl)); try simp only [Act.put, sa, s0, s1]
      refine wpAnyH_done (by kernel_rfl) ?_ _
      obtain ⟨wz, hwz⟩ : ∃ x, x = wr.drew.drew := ⟨_, rfl⟩
      have hbzr : Below wr.heap.size wr wz := by rw [hwz]; exact hHeld
      have hbz := bthen hbk hbzr
      rw [← hwz]
      clear hwz hHeld
      obtain ⟨hr3, ho3, hp3⟩ := HBR.out _ hbz
      have z8 := ho3.cell 0 _ rfl
      have r0 := hr3.cell 0 _ rfl
      have rf := hr3.free 0
      have hlr0 := hr3.lt
      have hlo3 := ho3.lt
      have hgn5 : w.heap.size + 1 + 1 ≠ w1.heap.size := by omega
      have hgn6 : w1.heap.size ≠ w.heap.size + 1 + 1 := by omega
      have HLZ : Hid (LeafL 4 rNode wz.heap.size wz (some ⟨g, 0, none⟩) c1 l) := by
        obtain ⟨x1, x2, hx1, hx2⟩ := ownN_leaf (HOW.out _ hbz) (fun x hx => (HSH.out x hx).ok)
        simp only [Value.slice.injEq] at hx1
        rw [hx1.1, hx1.2.2]
        exact hx2
      by_cases h60 : (n : Int) = 60
      · have HOB : True := trivial
        go_wp2_with fail
        exact bodyPost_ret (v := .tuple #[.agg #[.slice (some ⟨g, 0, none⟩) n c1], .bool false]) (by simp [results, Tryd.results45, go_sem, *]) rfl (put_postG (.inl rfl) (FIN.out wz _ _ (HOW.out wz hbz) HSH.out hln (bthen hB2 hbz)))
      · have HOB : True := trivial
        obtain ⟨wA, hwA⟩ : ∃ x, x = wz.alloc (.cells #[] 73) := ⟨_, rfl⟩
        have hbA : Below wz.heap.size wz wA := by rw [hwA]; exact (Below.refl _ _).alloc (Nat.le_refl _) _
        have hoA : wA.ownsRow wz.heap.size 73 4 (.slice (some ⟨wz.heap.size, 0, none⟩) 0 0) 0 [] := by rw [hwA]; exact World.ownsRow_lit wz #[] 0 (Nat.le_refl _) (by decide) rfl
        have HFR := Hid.mk (LeafL.fore (k := k) HLZ.out (by rw [HX.out]; omega))
        have hkc : (k : Int) ≤ (c1 : Int) := by have h := HLZ.out.1; rw [HX.out] at h; omega
        have hkn : (k : Int) ≤ (n : Int) := by omega
        have hk0 : (0 : Int) ≤ (k : Int) := by omega
        have HTL : Hid ((l.take k).length = k) := by show _ = _; rw [List.length_take, HX.out]; omega
        have q0 : ∀ W, Below wz.heap.size wz W → W.cell? ⟨w.heap.size + 1, 0, none⟩ = some (.string p.fKey) := fun W hb => (HBR.out W (bthen hbz hb)).2.2.2 0 _ rfl
        have q1 : ∀ W, Below wz.heap.size wz W → W.cell? ⟨w.heap.size + 1, 1, none⟩ = some (.string p.fVal) := fun W hb => (HBR.out W (bthen hbz hb)).2.2.2 1 _ rfl
        have q2 : ∀ W, Below wz.heap.size wz W → W.cell? ⟨w.heap.size + 1, 2, none⟩ = some (.bool p.fGone) := fun W hb => (HBR.out W (bthen hbz hb)).2.2.2 2 _ rfl
        have HQ8 : Hid (∀ W, Below wz.heap.size wz W → W.cell? ⟨w1.heap.size, 0, none⟩ = some (.slice (some ⟨g, 0, none⟩) n c1)) := fun W hb => (HBR.out W (bthen hbz hb)).2.1.cell 0 _ rfl
        have hzz : w.heap.size + 1 < wz.heap.size := hp3.1
        have hzz3 : w.heap.size + 3 ≤ wz.heap.size := by omega
        have HDL : Hid ((l.drop k).length = n - k) := by show _ = _; rw [List.length_drop, HX.out]
        have HDR : Hid (RdS 4 rNode wz.heap.size wz (some ⟨g, k * 4, none⟩) (l.drop k)) := fun j hj => by
          have hj2 : k + j < l.length := by simp at hj; omega
          obtain ⟨b, off, e, hB, cs, h1, h2, h3⟩ := HLZ.out.2.2 (k + j) hj2
          simp only [Option.some.injEq, Addr.mk.injEq, and_true] at e
          obtain ⟨rfl, rfl⟩ := e
          refine ⟨g, k * 4, rfl, hB, cs, h1, fun i u hu => ?_, by rw [List.getElem_drop]; exact h3⟩
          have h4 := h2 i u hu
          rw [show 0 + (k + j) * 4 + i = k * 4 + j * 4 + i by omega] at h4
          exact h4
        have HDI : Hid (RdS 4 rNode wz.heap.size wz (if c1 = k then some ⟨g, 0, none⟩ else some ⟨g, k * 4, none⟩) (l.drop k)) := by
          by_cases hc : c1 = k
          · rw [if_pos hc]
            intro j hj
            have h := HLZ.out.1
            simp at hj
            omega
          · rw [if_neg hc]
            exact HDR.out
        obtain ⟨l3, H3⟩ : ∃ l3 : List MNode, Hid (l3 = l.take k ++ [(⟨p, tw⟩ : MNode)] ++ l.drop k) := ⟨_, Hid.mk rfl⟩
        have HPI : Hid (PutIs l p tw l3) := by unfold Hid; rw [H3.out]; exact HPQ.out
        have HS3 : Hid (∀ x, x ∈ l3 → ShN x) := fun x hx => by
          rw [H3.out] at hx
          simp only [List.mem_append, List.mem_singleton] at hx
          rcases hx with (hx | rfl) | hx
          · exact HSH.out x (List.mem_of_mem_take hx)
          · exact ⟨hp1, hp2, htw⟩
          · exact HSH.out x (List.mem_of_mem_drop hx)
        have HL3 : Hid (k + 1 + (n - k) = l3.length) := by show _ = _; rw [H3.out]; simp only [List.length_append, List.length_cons, List.length_nil, HTL.out, HDL.out]
        have HF3 : Hid (flatN (l.take k ++ [(⟨p, tw⟩ : MNode)]) ++ flatN (l.drop k) = flatN l3) := by show _ = _; rw [H3.out]; exact (flatN_app _ _).symm
        have HL4 : Hid (l3.length ≤ n + 1) := by show _ ≤ _; rw [← HL3.out]; omega
        go_wp2_with (first | (at_builtin; rw [← hwA]; refine wpList_app rfl _ _ 68 68 rfl wz.heap.size 73 iN (.agg #[.string ⟨#[]⟩, .string ⟨#[]⟩, .bool false, .int .i64 0]) 4 48 Tryd.underlying68 HI.out.1 HI.out.2.1 HI.out.2.2.1 HI.out.2.2.2 rfl _ _ _ rfl hoA _ rfl k (flatN (l.take k)) (Src.nds Tryd.underlying68 HTL.out (HFR.out.2.2.below rNode_good hbA)) (by unfold maxLen; omega) (by omega) hbA.size ?_; intro v7 w7 ho7 hgr7 hat7; have hb7 : Below wz.heap.size wz w7 := hbA.grown hgr7 hbA.size (fun k h => (hoA.lt k h).1); have HO7 : Hid (w7.ownsRow wz.heap.size 73 4 v7 k (flatN (l.take k))) := own_congr ho7 (by omega) (by simp); have q07 := q0 _ hb7; have q17 := q1 _ hb7; have q27 := q2 _ hb7; have hz7 : w.heap.size + 1 < w7.heap.size := Nat.lt_of_lt_of_le hzz hb7.size; clear ho7 hgr7 hat7) | (at_builtin; obtain ⟨w8, hw8⟩ : ∃ x, x = w7.alloc (.cells #[.string p.fKey, .string p.fVal, .bool p.fGone, .int .i64 tw] 73) := ⟨_, rfl⟩; have hbx8 : Bx w8 w7.heap.size (ndC ⟨p, tw⟩) := (by rw [hw8]; exact Bx.new _ _ _); have hx8 : Below w7.heap.size w7 w8 := (by rw [hw8]; exact (Below.refl _ _).alloc (Nat.le_refl _) _); have hb8 := bthen hb7 hx8; have ho8 := own_below HO7.out hx8; rw [← hw8]; refine wpList_app rfl _ _ 68 68 rfl wz.heap.size 73 iN (.agg #[.string ⟨#[]⟩, .string ⟨#[]⟩, .bool false, .int .i64 0]) 4 48 Tryd.underlying68 HI.out.1 HI.out.2.1 HI.out.2.2.1 HI.out.2.2.2 rfl _ _ _ rfl ho8 _ rfl 1 (ndC ⟨p, tw⟩) (Src.ofSlice _ Tryd.underlying68 ⟨w7.heap.size, 0, none⟩ 1 1 _ rfl (bx_news hbx8) ndC_one) (by unfold maxLen; omega) (by omega) hb8.size ?_; intro v9 w9 ho9 hgr9 hat9; have hb9 : Below wz.heap.size wz w9 := hb8.grown hgr9 hb8.size (fun k h => (ho8.lt k h).1); have HO9 : Hid (w9.ownsRow wz.heap.size 73 4 v9 (k + 1) (flatN (l.take k ++ [(⟨p, tw⟩ : MNode)]))) := own_congr ho9 rfl (by rw [flatN_app]; simp [flatN]); have z89 := HQ8.out _ hb9; clear ho8 ho9 hgr9 hat9 hw8 hbx8 hx8) | (at_builtin; refine wpList_app rfl _ _ 68 68 rfl wz.heap.size 73 iN (.agg #[.string ⟨#[]⟩, .string ⟨#[]⟩, .bool false, .int .i64 0]) 4 48 Tryd.underlying68 HI.out.1 HI.out.2.1 HI.out.2.2.1 HI.out.2.2.2 rfl _ _ _ rfl HO9.out _ rfl (n - k) (flatN (l.drop k)) (Src.nds Tryd.underlying68 HDL.out (RdS.below rNode_good HDI.out hb9)) (by unfold maxLen; omega) (by omega) hb9.size ?_; intro v10 w10 ho10 hgr10 hat10; have hb10 : Below wz.heap.size wz w10 := hb9.grown hgr10 hb9.size (fun k h => (HO9.out.lt k h).1); have ho11 : w10.ownsRow wz.heap.size 73 4 v10 l3.length (flatN l3) := own_congr ho10 HL3.out HF3.out; obtain ⟨a10, c10, rfl, _⟩ := ownN_leaf ho11 (fun x hx => (HS3.out x hx).ok); have hbr10 := (HBR.out _ (bthen hbz hb10)).1; have r10 := hbr10.cell 0 _ rfl; have rf10 := hbr10.free 0; have hlr10 := hbr10.lt; have FZ := Hid.mk (FIN.out w10 _ _ (own_base ho11 hzz3) HS3.out HL4.out (bthen hB2 (bthen hbz hb10))); clear ho10 hgr10 hat10 ho11))
        all_goals exact bodyPost_ret (v := .tuple #[.agg #[.slice a10 l3.length c10], .bool true]) (by simp [results, Tryd.results45, go_sem, *]) rfl (put_postG HPI.out FZ.out)

end Go.Proofs.YtmedljankefhbaaDoor
