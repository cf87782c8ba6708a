/-
  The law of puts, at every code: behind a put the drawn table has the pair, and of the others what it had.
-/
import Derived.Test.YtadadkookbkkoaaDoorRegK
import Derived.Test.YtadadkookbkkoaaDoorDrMP
import Derived.Test.YtadadkookbkkoaaDoorMemJ
import Derived.Test.YtadadkookbkkoaaDoorMPutF
import Derived.Test.YtadadkookbkkoaaDoorMemGI
import Derived.Test.YtadadkookbkkoaaDoorMemQ
import Derived.Test.YtadadkookbkkoaaDoorMemOk
import Derived.Test.YtadadkookbkkoaaDoorPairOk
namespace Go.Proofs.YtadadkookbkkoaaDoor
open Go.RowKit Go.Maps
set_option linter.unusedVariables false
set_option linter.unusedSimpArgs false
set_option maxRecDepth 10000
abbrev q2bc_3_14_0 : Oper := ⟨some 91, .move (.tmp 16), 4, "laws.go:285", #[], none⟩
abbrev q2bc_3_14_1 : Oper := ⟨some 92, .unOp .not 4 (.tmp 91), 4, "laws.go:285", #[⟨0, .data⟩], none⟩
abbrev q2bc_3_14_2 : Oper := ⟨some 93, .move (.tmp 92), 4, "laws.go:285", #[⟨1, .data⟩], none⟩
abbrev q2bc_3_14_3 : Oper := ⟨some 94, .fieldAddr 26 (.tmp 3) 0, 0, "laws.go:285", #[⟨2, .guard⟩], some (2, false)⟩
abbrev q2bc_3_14_4 : Oper := ⟨some 95, .load 24 (.tmp 94), 24, "laws.go:285", #[⟨3, .data⟩, ⟨2, .guard⟩], some (2, false)⟩
abbrev q2bc_3_14_5 : Oper := ⟨some 96, .move (.tmp 14), 3, "laws.go:285", #[⟨2, .guard⟩], some (2, false)⟩
abbrev q2bc_3_14_6 : Oper := ⟨some 97, .indexAddr 24 (.tmp 95) (.tmp 96), 0, "laws.go:285", #[⟨4, .data⟩, ⟨5, .data⟩, ⟨2, .guard⟩], some (2, false)⟩
abbrev q2bc_3_14_7 : Oper := ⟨some 98, .fieldAddr 36 (.tmp 97) 0, 0, "laws.go:285", #[⟨6, .data⟩, ⟨2, .guard⟩], some (2, false)⟩
abbrev q2bc_3_14_8 : Oper := ⟨some 99, .fieldAddr 28 (.tmp 98) 0, 0, "laws.go:285", #[⟨7, .data⟩, ⟨2, .guard⟩], some (2, false)⟩
abbrev q2bc_3_14_9 : Oper := ⟨some 100, .load 9 (.tmp 99), 9, "laws.go:285", #[⟨8, .data⟩, ⟨2, .guard⟩], some (2, false)⟩
abbrev q2bc_3_14_10 : Oper := ⟨some 101, .fieldAddr 28 (.tmp 4) 0, 0, "laws.go:285", #[⟨2, .guard⟩], some (2, false)⟩
abbrev q2bc_3_14_11 : Oper := ⟨some 102, .load 9 (.tmp 101), 9, "laws.go:285", #[⟨10, .data⟩, ⟨2, .guard⟩], some (2, false)⟩
abbrev q2bc_3_14_12 : Oper := ⟨some 103, .binOp .neq 9 (.tmp 100) (.tmp 102) 9, 4, "laws.go:285", #[⟨9, .data⟩, ⟨11, .data⟩, ⟨2, .guard⟩], some (2, false)⟩
abbrev q2bc_3_14_13 : Oper := ⟨some 104, .move (.tmp 103), 4, "laws.go:285", #[⟨12, .data⟩, ⟨2, .chain⟩, ⟨2, .guard⟩], some (2, false)⟩
abbrev q2bc_3_14_14 : Oper := ⟨some 105, .load 28 (.tmp 15), 28, "laws.go:285", #[⟨13, .guard⟩], some (13, true)⟩
abbrev q2bc_3_14_15 : Oper := ⟨some 106, .fieldAddr 26 (.tmp 3) 0, 0, "laws.go:285", #[⟨13, .guard⟩], some (13, true)⟩
abbrev q2bc_3_14_16 : Oper := ⟨some 107, .load 24 (.tmp 106), 24, "laws.go:285", #[⟨15, .data⟩, ⟨13, .guard⟩], some (13, true)⟩
abbrev q2bc_3_14_17 : Oper := ⟨some 108, .move (.tmp 14), 3, "laws.go:285", #[⟨13, .guard⟩], some (13, true)⟩
abbrev q2bc_3_14_18 : Oper := ⟨some 109, .indexAddr 24 (.tmp 107) (.tmp 108), 0, "laws.go:285", #[⟨16, .data⟩, ⟨17, .data⟩, ⟨13, .guard⟩], some (13, true)⟩
abbrev q2bc_3_14_19 : Oper := ⟨some 110, .fieldAddr 36 (.tmp 109) 0, 0, "laws.go:285", #[⟨18, .data⟩, ⟨13, .guard⟩], some (13, true)⟩
abbrev q2bc_3_14_20 : Oper := ⟨some 111, .load 28 (.tmp 110), 28, "laws.go:285", #[⟨19, .data⟩, ⟨13, .guard⟩], some (13, true)⟩
abbrev q2bc_3_14_21 : Oper := ⟨some 112, .binOp .neq 28 (.tmp 105) (.tmp 111) 28, 4, "laws.go:285", #[⟨14, .data⟩, ⟨20, .data⟩, ⟨13, .guard⟩], some (13, true)⟩
abbrev q2bc_3_14_22 : Oper := ⟨some 113, .pick (.tmp 104) (.tmp 112) (.const (.bool false)), 4, "laws.go:285", #[⟨13, .data⟩, ⟨21, .data⟩, ⟨2, .guard⟩], some (2, false)⟩
abbrev q2bc_3_14_23 : Oper := ⟨some 114, .pick (.tmp 93) (.const (.bool true)) (.tmp 113), 4, "laws.go:285", #[⟨2, .data⟩, ⟨22, .data⟩], none⟩
abbrev q2bc_3_13_0 : Oper := ⟨some 80, .load 26 (.tmp 6), 26, "laws.go:284", #[], none⟩
abbrev q2bc_3_13_1 : Oper := ⟨some 81, .fieldAddr 26 (.tmp 3) 0, 0, "laws.go:284", #[], none⟩
abbrev q2bc_3_13_2 : Oper := ⟨some 82, .load 24 (.tmp 81), 24, "laws.go:284", #[⟨1, .data⟩], none⟩
abbrev q2bc_3_13_3 : Oper := ⟨some 83, .move (.tmp 14), 3, "laws.go:284", #[], none⟩
abbrev q2bc_3_13_4 : Oper := ⟨some 84, .indexAddr 24 (.tmp 82) (.tmp 83), 0, "laws.go:284", #[⟨2, .data⟩, ⟨3, .data⟩], none⟩
abbrev q2bc_3_13_5 : Oper := ⟨some 85, .fieldAddr 36 (.tmp 84) 0, 0, "laws.go:284", #[⟨4, .data⟩], none⟩
abbrev q2bc_3_13_6 : Oper := ⟨some 86, .fieldAddr 28 (.tmp 85) 0, 0, "laws.go:284", #[⟨5, .data⟩], none⟩
abbrev q2bc_3_13_7 : Oper := ⟨some 87, .load 9 (.tmp 86), 9, "laws.go:284", #[⟨6, .data⟩], none⟩
abbrev q2bc_3_13_12 : Oper := ⟨some 15, .alloc 28, 0, "laws.go:284", #[], none⟩
abbrev q2bc_3_13_8 : Oper := ⟨some 88, .call { callee := .value (.func 11), args := #[.tmp 80, .tmp 87], argTypes := #[26, 9] }, 33, "laws.go:284", #[⟨0, .data⟩, ⟨7, .data⟩], none⟩
abbrev q2bc_3_13_9 : Oper := ⟨some 79, .move (.tmp 88), 33, "laws.go:284", #[⟨8, .data⟩], none⟩
abbrev q2bc_3_13_10 : Oper := ⟨some 89, .extract (.tmp 79) 0, 28, "laws.go:284", #[⟨9, .data⟩], none⟩
abbrev q2bc_3_13_11 : Oper := ⟨some 90, .extract (.tmp 79) 1, 4, "laws.go:284", #[⟨9, .data⟩, { on := 13, ground := Ground.gcOnly Departure.lateStores }], none⟩
abbrev q2bc_3_13_13 : Oper := ⟨none, .store 28 (.tmp 15) (.tmp 89), 0, "laws.go:284", #[⟨12, .data⟩, ⟨10, .data⟩, ⟨8, .chain⟩, ⟨0, .phase⟩, ⟨1, .phase⟩, ⟨2, .phase⟩, ⟨3, .phase⟩, ⟨4, .phase⟩, ⟨5, .phase⟩, ⟨6, .phase⟩, ⟨7, .phase⟩, ⟨8, .phase⟩, ⟨9, .phase⟩, ⟨10, .phase⟩, { on := 11, ground := Ground.textOnly Departure.lateStores }, ⟨12, .phase⟩], none⟩
abbrev q2bc_3_13_14 : Oper := ⟨some 16, .assign (.tmp 90), 4, "laws.go:284", #[⟨11, .data⟩, ⟨13, .chain⟩, ⟨0, .phase⟩, ⟨1, .phase⟩, ⟨2, .phase⟩, ⟨3, .phase⟩, ⟨4, .phase⟩, ⟨5, .phase⟩, ⟨6, .phase⟩, ⟨7, .phase⟩, ⟨8, .phase⟩, ⟨9, .phase⟩, ⟨10, .phase⟩, ⟨11, .phase⟩, ⟨12, .phase⟩, ⟨13, .phase⟩], none⟩

set_option maxHeartbeats 400000 in
theorem big_any (a : Option Addr) (n cap : Nat) (w : World) :
    Calls Tryd.prog 7 #[.slice a n cap] w fun e w' => e = .returned (.bool (decide (1048576 < (n : Int)))) ∧ w' = w := by
  go_enter Tryd.func7, Tryd.ntmps7
  go_wp2_with fail
  go_ret
  exact ⟨rfl, rfl⟩

theorem ok_short {l : List MNode} (h : memOkP ⟨l⟩ = true) : ∀ x, x ∈ l → ShN x := by
  intro x hx
  obtain ⟨h1, h2⟩ := (memOk_iff.1 h).2.1 x hx
  simp only [pairOkP, keyOkP, Bool.and_eq_true, decide_eq_true_eq] at h1
  have h3 : 1 ≤ x.fTower ∧ x.fTower ≤ 4 := of_decide_eq_true h2
  exact ⟨by omega, by omega, wfT4 h3.1 h3.2⟩
theorem ok_weight {l : List MNode} (h : memOkP ⟨l⟩ = true) : wMem ⟨l⟩ ≤ 1048576 := by
  have h1 := (memOk_iff.1 h).1
  have h2 := sh_weight (ok_short h)
  show l.length + sumW wNode l ≤ _
  omega

set_option maxHeartbeats 8000000 in
theorem law_FnMem_r (a : Option Addr) (n cap : Nat) (zs : List Int) (w : World) (hx : zs.length = n) (hr : Rd .u8 w.heap.size w a zs) (hT : Tabs w) :
    Calls Tryd.prog 3 #[.slice a n cap] w fun e w' => e = .returned (.bool true) ∧ Below w.heap.size w w' := by
  go_enter Tryd.func3, Tryd.ntmps3
  go_wp2_with fail
  refine (big_any a n cap w).mono ?_
  rintro e w0 ⟨rfl, hw0⟩
  have hw0' := hw0.symm
  clear hw0
  subst hw0'
  by_cases hbig : 1048576 < (n : Int)
  · rw [decide_eq_true hbig]
    go_wp2_with fail
    go_ret
    exact ⟨rfl, Below.refl _ _⟩
  rw [decide_eq_false hbig]
  go_wp2_with fail
  refine (drawMemPut_ok a n cap zs w hx (by omega) hr).mono ?_
  rintro e w1 ⟨a1, c1, l, p, tw, rfl, hL1, hsh, hll, ⟨hp1, hp2, htw⟩, hkk, hb1⟩
  have hsw := sh_weight hsh
  have hww : wMem ⟨l⟩ ≤ 1048576 := by show l.length + sumW wNode l ≤ _; omega
  obtain ⟨w2, hw2⟩ : ∃ x, x = (w1.alloc (.cells #[.slice a1 l.length c1] 26)).alloc (.cells #[.string p.fKey, .string p.fVal, .bool p.fGone] 28) := ⟨_, rfl⟩
  have hx2 : Below w1.heap.size w1 w2 := by rw [hw2]; exact ((Below.refl _ _).alloc (Nat.le_refl _) _).alloc (by simp) _
  have hbm : Bw w2 w1.heap.size 26 [.slice a1 l.length c1] := by rw [hw2]; exact (Bw.new _ _ _).alloc _
  have hbp : Bw w2 (w1.heap.size + 1) 28 [.string p.fKey, .string p.fVal, .bool p.fGone] := by rw [hw2]; exact Bw.new' _ _ _ (by simp)
  have HLM : Hid (∀ W, Below w2.heap.size w2 W → LeafL 4 rNode W.heap.size W a1 c1 l) := fun W hb => (hL1.below rNode_good (bthen hx2 hb)).mono rNode_good (bthen hx2 hb).size
  have HTB : Hid (∀ W, Below w2.heap.size w2 W → Tabs W) := fun W hb => hT.below (bthen hb1 (bthen hx2 hb))
  have HBM : Hid (∀ W, Below w2.heap.size w2 W → Bw W w1.heap.size 26 [.slice a1 l.length c1] ∧ Bw W (w1.heap.size + 1) 28 [.string p.fKey, .string p.fVal, .bool p.fGone]) := fun W hb => ⟨hbm.under hb, hbp.under hb⟩
  have HB2 := Hid.mk (bthen hb1 hx2)
  have HSH := Hid.mk hsh
  have HKK := Hid.mk hkk
  have hz2 := hbp.lt
  clear hL1 hT hx2 hbm hbp hsw hb1 hsh hkk
  go_wp2_with (rw [← hw2])
  try rw [← hw2]
  clear hw2
  refine (implMemPut_c a1 c1 l p tw w2 (HLM.out _ (Below.refl _ _)) hww hp1 hp2 htw (HTB.out _ (Below.refl _ _))).mono ?_
  rintro e w3 ⟨a3, c3, l', rfl, hof, hot, hx3⟩
  have HOF := Hid.mk hof
  have HOT := Hid.mk hot
  clear hof hot
  have q0 := ((HBM.out _ hx3).1).cell 0 _ rfl
  have q1 := ((HBM.out _ hx3).2).cell 0 _ rfl
  have q2 := ((HBM.out _ hx3).2).cell 1 _ rfl
  have q3 := ((HBM.out _ hx3).2).cell 2 _ rfl
  have q4 := ((HBM.out _ hx3).2).lt
  have q5 : w1.heap.size < w3.heap.size := by omega
  go_wp2_with fail
  obtain ⟨gn, hgn⟩ : ∃ g, g = w3.heap.size := ⟨_, rfl⟩
  obtain ⟨w4, hw4⟩ : ∃ x, x = w3.alloc (.cells #[.slice a3 l'.length c3] 26) := ⟨_, rfl⟩
  have hx4 : Below w3.heap.size w3 w4 := by rw [hw4]; exact (Below.refl _ _).alloc (Nat.le_refl _) _
  have HBN : Hid (∀ W, Below w4.heap.size w4 W → Bw W gn 26 [.slice a3 l'.length c3]) := by
    have h : Bw w4 gn 26 [.slice a3 l'.length c3] := by rw [hw4]; exact Bw.new' _ _ _ hgn
    exact fun W hb => h.under hb
  have HB4 := Hid.mk (bthen hx3 hx4)
  have HX4 := Hid.mk hx4
  have hgp : w1.heap.size + 2 ≤ gn := by omega
  have hln' : l'.length ≤ 61 := by
    cases hO : okI l p tw with
    | false => rw [HOF.out hO]; omega
    | true =>
      have hO2 := hO
      simp only [okI, Bool.and_eq_true, decide_eq_true_eq] at hO2
      rw [(HOT.out hO).1]
      have := (putN_ok hO2.1.1.1 hO2.1.1.2 hO2.1.2 hO2.2).2.2.2.2
      omega
  rw [← hw4]
  rw [← hgn]
  clear hw4 hgn hx3 hx4 q0 q1 q2 q3 q4 q5
  refine (specMemPut_f a1 l.length c1 l p tw w4 rfl (by omega) (HLM.out _ HB4.out) HSH.out hp1 hp2 htw).mono ?_
  rintro e w5 ⟨v5, b5, l5, rfl, hb5, hd5, hx5⟩
  rw [ok_same HKK.out] at hb5
  subst hb5
  have HB5 := Hid.mk (bthen HB4.out hx5)
  have HX5 := Hid.mk hx5
  obtain ⟨a5, c5, rfl, _⟩ := ownN_leaf hd5.1 (fun y hy => (hd5.2.1 y hy).ok)
  clear hd5 hx5
  have q0 := (HBM.out _ HB5.out).1.cell 0 _ rfl
  have q1 := (HBM.out _ HB5.out).1.lt
  have q2 := (HBN.out _ HX5.out).cell 0 _ rfl
  have q3 := (HBN.out _ HX5.out).lt
  cases hO : okI l p tw with
  | false =>
    have hle := HOF.out hO
    have hle2 : ((l'.length : Nat) : Int) = ((l.length : Nat) : Int) := by omega
    go_wp2_with fail
    go_ret
    exact ⟨rfl, bthen (bthen HB2.out HB5.out) ((Below.refl _ _).alloc (Nat.le_refl _) _)⟩
  | true =>
  have hO2 := hO
  simp only [okI, Bool.and_eq_true, decide_eq_true_eq] at hO2
  obtain ⟨hN, hLN⟩ := HOT.out hO
  have HPN := Hid.mk (putN_ok hO2.1.1.1 hO2.1.1.2 hO2.1.2 hO2.2)
  rw [← hN] at HPN
  have HLN : Hid (∀ W, Below w4.heap.size w4 W → LeafL 4 rNode W.heap.size W a3 c3 l') := fun W hb => (hLN.below rNode_good (bthen HX4.out hb)).mono rNode_good (bthen HX4.out hb).size
  have hPO : pairOkP p = true := hO2.1.1.2
  have hwn : wMem ⟨l'⟩ ≤ 1048576 := ok_weight HPN.out.1
  have HGP : Hid (getP l' p.fKey = p ∧ hasKey l' p.fKey = true) := by
    obtain ⟨y, hy, e⟩ := HPN.out.2.1
    have h := getP_mem (memOk_iff.1 HPN.out.1).2.2 hy
    rw [e] at h
    exact h
  clear HOT HOF hO2 hN hLN HKK
  have q4 := (HBM.out _ HB5.out).2.cell 0 _ rfl
  have q5 := (HBM.out _ HB5.out).2.lt
  go_wp2_with fail
  obtain ⟨w6, hw6⟩ : ∃ x, x = w5.alloc (.cells #[.slice a5 l5.length c5] 26) := ⟨_, rfl⟩
  have hx6 : Below w5.heap.size w5 w6 := by rw [hw6]; exact (Below.refl _ _).alloc (Nat.le_refl _) _
  rw [← hw6]
  have HB6 := Hid.mk (bthen HB5.out hx6)
  have HX6 := Hid.mk (bthen HX5.out hx6)
  generalize w5.heap.size = g5 at *
  clear hw6 hx6 HB5 HX5 q0 q1 q2 q3 q4 q5
  refine (implMemGet_c [.slice a3 l'.length c3] ⟨l'⟩ p.fKey w6 ⟨a3, c3, rfl, HLN.out _ HX6.out, trivial⟩ (by omega) hwn (by omega)).mono ?_
  rintro e w7 ⟨rfl, hx7⟩
  simp only [HGP.out.1, HGP.out.2]
  have HB7 := Hid.mk (bthen HB6.out hx7)
  have HX7 := Hid.mk (bthen HX6.out hx7)
  clear hx7 HB6 HX6
  have q0 := (HBM.out _ HB7.out).1.cell 0 _ rfl
  have q1 := (HBM.out _ HB7.out).1.lt
  have q2 := (HBN.out _ HX7.out).cell 0 _ rfl
  have q3 := (HBN.out _ HX7.out).lt
  have q4 := (HBM.out _ HB7.out).2.cell 0 _ rfl
  have q5 := (HBM.out _ HB7.out).2.lt
  go_wp2_with fail
  obtain ⟨gx, hgx⟩ : ∃ g, g = w7.heap.size := ⟨_, rfl⟩
  obtain ⟨w8, hw8⟩ : ∃ x, x = w7.alloc (.cells #[.string p.fKey, .string p.fVal, .bool p.fGone] 28) := ⟨_, rfl⟩
  have hx8 : Below w7.heap.size w7 w8 := by rw [hw8]; exact (Below.refl _ _).alloc (Nat.le_refl _) _
  have HBX : Hid (∀ W, Below w8.heap.size w8 W → Bw W gx 28 [.string p.fKey, .string p.fVal, .bool p.fGone]) := by
    have h : Bw w8 gx 28 [.string p.fKey, .string p.fVal, .bool p.fGone] := by rw [hw8]; exact Bw.new' _ _ _ hgx
    exact fun W hb => h.under hb
  rw [← hw8]
  rw [← hgx]
  have HB8 := Hid.mk (bthen HB7.out hx8)
  have HX8 := Hid.mk (bthen HX7.out hx8)
  clear hw8 hgx hx8 HB7 HX7 q0 q1 q2 q3 q4 q5
  refine (implMemGet_c [.slice a1 l.length c1] ⟨l⟩ p.fKey w8 ⟨a1, c1, rfl, HLM.out _ HB8.out, trivial⟩ (by omega) hww (by omega)).mono ?_
  rintro e w9 ⟨rfl, hx9⟩
  have HHD : Hid (l'.length = l.length ↔ hasKey l p.fKey = true) := HPN.out.2.2.2.1
  simp only
  generalize getP l p.fKey = pg
  generalize hasKey l p.fKey = had at HHD
  have HB9 := Hid.mk (bthen HB8.out hx9)
  have HX9 := Hid.mk (bthen HX8.out hx9)
  have HY9 := Hid.mk hx9
  clear hx9 HB8 HX8
  have q0 := (HBM.out _ HB9.out).1.cell 0 _ rfl
  have q1 := (HBM.out _ HB9.out).1.lt
  go_wp2_with fail
  go_loopw [14] (fun iv wr => ∃ k : Nat, k ≤ l.length ∧ iv = .int .i64 k ∧ Below w9.heap.size w9 wr) (fun iv _ => l.length - (intOf iv).toNat)
  case atStart => exact ⟨0, Nat.zero_le _, rfl, (Below.refl _ _).alloc (Nat.le_refl _) _⟩
  case round =>
    obtain ⟨k, hk, rfl, hbk⟩ := hrel
    have HBk := Hid.mk (bthen HB9.out hbk)
    have HXk := Hid.mk (bthen HX9.out hbk)
    have HYk := Hid.mk (bthen HY9.out hbk)
    clear q0 q1
    by_cases hlt : k < l.length
    · obtain ⟨b1, o1, rfl, hB, cs, _, hcell, rfl, _⟩ := (HLM.out _ HBk.out).2.2 k hlt
      have k0 := hcell 0 _ rfl
      have k1 := hcell 1 _ rfl
      have k2 := hcell 2 _ rfl
      rw [Nat.add_zero] at k0
      have HKP : Hid (hasKey l' l[k].fP.fKey = true ∧ (l[k].fP.fKey ≠ p.fKey → getP l' l[k].fP.fKey = l[k].fP)) := by
        have hm := List.getElem_mem hlt
        by_cases e : l[k].fP.fKey = p.fKey
        · exact ⟨by rw [e]; exact HGP.out.2, fun h => (h e).elim⟩
        · have h := getP_mem (memOk_iff.1 HPN.out.1).2.2 (HPN.out.2.2.1 _ hm e)
          exact ⟨h.2, fun _ => h.1⟩
      have hks : l[k].fP.fKey.size ≤ 21 := (HSH.out _ (List.getElem_mem hlt)).1
      clear hcell
      generalize l[k].fP = pk at *
      have HF : Hid (∀ W, Below wr.heap.size wr W → W.cell? ⟨b1, o1 + k * 4, none⟩ = some (.string pk.fKey) ∧ W.cell? ⟨b1, o1 + k * 4 + 1, none⟩ = some (.string pk.fVal) ∧ W.cell? ⟨b1, o1 + k * 4 + 2, none⟩ = some (.bool pk.fGone)) := fun W h => ⟨(h.cell (p := ⟨b1, o1 + k * 4, none⟩) hB).trans k0, (h.cell (p := ⟨b1, o1 + k * 4 + 1, none⟩) hB).trans k1, (h.cell (p := ⟨b1, o1 + k * 4 + 2, none⟩) hB).trans k2⟩
      have HCG : Hid (∀ W, Below wr.heap.size wr W → Calls Tryd.prog 11 #[.agg #[.slice a3 l'.length c3], .string pk.fKey] W fun e w' => e = .returned (.tuple #[.agg #[.string (getP l' pk.fKey).fKey, .string (getP l' pk.fKey).fVal, .bool (getP l' pk.fKey).fGone], .bool true]) ∧ Below W.heap.size W w') := by
        intro W h
        have hc := implMemGet_c [.slice a3 l'.length c3] ⟨l'⟩ pk.fKey W ⟨a3, c3, rfl, HLN.out _ (bthen HXk.out h), trivial⟩ (by omega) hwn (by omega)
        simp only [HKP.out.1] at hc
        exact hc
      have HPY : Hid (pk.fKey ≠ p.fKey → getP l' pk.fKey = pk) := HKP.out.2
      clear HKP k0 k1 k2
      generalize getP l' pk.fKey = py at *
      have hj0 : (0 : Int) ≤ (k : Int) := by omega
      have hj1 : (k : Int) < (l.length : Int) := by omega
      have yr := (HBM.out _ HBk.out).1.cell 0 _ rfl
      have yl := (HBM.out _ HBk.out).1.lt
      have f0 : ∀ W, Below wr.heap.size wr W → W.cell? ⟨b1, o1 + k * 4, none⟩ = some (.string pk.fKey) := fun W h => (HF.out W h).1
      have y0 : ∀ W, Below wr.heap.size wr W → W.cell? ⟨w1.heap.size, 0, none⟩ = some (.slice (some ⟨b1, o1, none⟩) l.length c1) := fun W h => (HBM.out W (bthen HBk.out h)).1.cell 0 _ rfl
      have y1 : ∀ W, Below wr.heap.size wr W → W.cell? ⟨gn, 0, none⟩ = some (.slice a3 l'.length c3) := fun W h => (HBN.out W (bthen HXk.out h)).cell 0 _ rfl
      go_wp2_with fail
      go_cut [15, 16] (fun yv hv wx => ∃ gy : Nat, yv = .pointer (some ⟨gy, 0, none⟩) ∧ hv = .bool true ∧ Hid (Bw wx gy 28 [.string py.fKey, .string py.fVal, .bool py.fGone]) ∧ Below wr.heap.size wr wx)
      case first =>
        clear yr yl
        refine wp_region_held_drew (S := fun W => Below wr.heap.size wr W) (by kernel_rfl) (Below.drew (Below.refl _ _)) (fun hHeld => ?_)
        obtain ⟨wS, hwS⟩ : ∃ wS, wS = wr.drew := ⟨_, rfl⟩
        rw [← hwS] at hHeld ⊢
        clear hwS
        refine tk 0 q2bc_3_13_0 (some 80) (v := ?v49) rfl rfl (by kernel_rfl) hHeld (by rfl) (fun _ _ _ x => x) (fun w h => ?y49) ?_; (case y49 => (try dsimp only at h); go_simp; try (with_reducible rfl)); try simp only [Act.put, sa, s0, s1]
        refine tk 1 q2bc_3_13_1 (some 81) (v := ?v50) rfl rfl (by kernel_rfl) hHeld (by rfl) (fun _ _ _ x => x) (fun w h => ?y50) ?_; (case y50 => (try dsimp only at h); go_simp; try (with_reducible rfl)); try simp only [Act.put, sa, s0, s1]
        refine tk 2 q2bc_3_13_2 (some 82) (v := ?v51) rfl rfl (by kernel_rfl) hHeld (by rfl) (fun _ _ _ x => x) (fun w h => ?y51) ?_; (case y51 => (try dsimp only at h); go_simp; try (with_reducible rfl)); try simp only [Act.put, sa, s0, s1]
        refine tk 3 q2bc_3_13_3 (some 83) (v := ?v52) rfl rfl (by kernel_rfl) hHeld (by rfl) (fun _ _ _ x => x) (fun w h => ?y52) ?_; (case y52 => (try dsimp only at h); go_simp; try (with_reducible rfl)); try simp only [Act.put, sa, s0, s1]
        refine tk 4 q2bc_3_13_4 (some 84) (v := ?v53) rfl rfl (by kernel_rfl) hHeld (by rfl) (fun _ _ _ x => x) (fun w h => ?y53) ?_; (case y53 => (try dsimp only at h); go_simp; try (with_reducible rfl)); try simp only [Act.put, sa, s0, s1]
        refine tk 5 q2bc_3_13_5 (some 85) (v := ?v54) rfl rfl (by kernel_rfl) hHeld (by rfl) (fun _ _ _ x => x) (fun w h => ?y54) ?_; (case y54 => (try dsimp only at h); go_simp; try (with_reducible rfl)); try simp only [Act.put, sa, s0, s1]
        refine tk 6 q2bc_3_13_6 (some 86) (v := ?v55) rfl rfl (by kernel_rfl) hHeld (by rfl) (fun _ _ _ x => x) (fun w h => ?y55) ?_; (case y55 => (try dsimp only at h); go_simp; try (with_reducible rfl)); try simp only [Act.put, sa, s0, s1]
        refine tk 7 q2bc_3_13_7 (some 87) (v := ?v56) rfl rfl (by kernel_rfl) hHeld (by rfl) (fun _ _ _ x => x) (fun w h => ?y56) ?_; (case y56 => (try dsimp only at h); go_simp; try (with_reducible rfl)); try simp only [Act.put, sa, s0, s1]
        refine wpAnyH_ready (rs := [8, 12]) (by kernel_rfl) (by simp) ?_
        refine (AllReadyH.cons (o := q2bc_3_13_8) rfl (fun K hK => ?_) (AllReadyH.cons (o := q2bc_3_13_12) rfl (fun K hK => ?_) AllReadyH.nil))
        · go_simp
          refine Calls.mono (HCG.out wS hHeld) ?_
          rintro e wE8 ⟨rfl, hop8⟩
          go_wp2_with fail
          refine hK.out _ _ (bthen hHeld hop8) (fun hHeld => ?_)
          clear hK K
          try simp only [Act.put, sa, s0, s1]
          refine tk 9 q2bc_3_13_9 (some 79) (v := ?v57) rfl rfl (by kernel_rfl) hHeld (by rfl) (fun _ _ _ x => x) (fun w h => ?y57) ?_; (case y57 => (try dsimp only at h); go_simp; try (with_reducible rfl)); try simp only [Act.put, sa, s0, s1]
          refine tk 10 q2bc_3_13_10 (some 89) (v := ?v58) rfl rfl (by kernel_rfl) hHeld (by rfl) (fun _ _ _ x => x) (fun w h => ?y58) ?_; (case y58 => (try dsimp only at h); go_simp; try (with_reducible rfl)); try simp only [Act.put, sa, s0, s1]
          refine tk 11 q2bc_3_13_11 (some 90) (v := ?v59) rfl rfl (by kernel_rfl) hHeld (by rfl) (fun _ _ _ x => x) (fun w h => ?y59) ?_; (case y59 => (try dsimp only at h); go_simp; try (with_reducible rfl)); try simp only [Act.put, sa, s0, s1]
          refine wpAnyH_ready (rs := [12]) (by kernel_rfl) (by simp) ?_
          refine (AllReadyH.cons (o := q2bc_3_13_12) rfl (fun K hK => ?_) AllReadyH.nil)
          · go_simp
            obtain ⟨wE12, hq12⟩ : ∃ q, q = wE8.alloc (.cells #[.string ⟨#[]⟩, .string ⟨#[]⟩, .bool false] 28) := ⟨_, rfl⟩
            have hop12 : Below wE8.heap.size wE8 wE12 := by rw [hq12]; exact (Below.refl _ _).alloc (Nat.le_refl _) _
            obtain ⟨gy, HGY⟩ : ∃ z, Hid (z = wE8.heap.size) := ⟨_, Hid.mk rfl⟩
            have HB12 : Hid (Bw wE12 gy 28 [.string ⟨#[]⟩, .string ⟨#[]⟩, .bool false]) := by unfold Hid; rw [HGY.out, hq12]; exact Bw.new _ _ _
            have HBL : Hid (wr.heap.size ≤ gy) := by unfold Hid; rw [HGY.out]; exact hHeld.size
            rw [← HGY.out]
            rw [← hq12]
            clear hq12
            refine hK.out _ _ (bthen hHeld hop12) (fun hHeld => ?_)
            clear hK K
            try simp only [Act.put, sa, s0, s1]
            refine wpAnyH_ready (rs := [13]) (by kernel_rfl) (by simp) ?_
            refine (AllReadyH.cons (o := q2bc_3_13_13) rfl (fun K hK => ?_) AllReadyH.nil)
            · skip
              have hbd := HB12.out.under (show Below wE12.heap.size wE12 wE12 from Below.refl _ _)
              have s0 := hbd.cell 0 _ rfl
              have s1 := hbd.cell 1 _ rfl
              have s2 := hbd.cell 2 _ rfl
              have s3 := hbd.free 0
              have s4 := hbd.free 1
              have s5 := hbd.free 2
              have s6 := hbd.lt
              go_simp
              have HBF := Hid.mk (((hbd.put 0 (.string py.fKey)).put 1 (.string py.fVal)).put 2 (.bool py.fGone))
              clear s0 s1 s2 s3 s4 s5 s6 hbd
              refine hK.out _ _ (((hHeld.setCell (p := ⟨gy, 0, none⟩) HBL.out _).setCell (p := ⟨gy, 1, none⟩) HBL.out _).setCell (p := ⟨gy, 2, none⟩) HBL.out _) (fun hHeld => ?_)
              clear hK K
              try simp only [Act.put, sa, s0, s1]
              refine tk 14 q2bc_3_13_14 (some 16) (v := ?v60) rfl rfl (by kernel_rfl) hHeld (by rfl) (fun _ _ _ x => x) (fun w h => ?y60) ?_; (case y60 => (try dsimp only at h); go_simp; try (with_reducible rfl)); try simp only [Act.put, sa, s0, s1]
              refine wpAnyH_done (by kernel_rfl) ?_ _
              try go_wp2_with fail
              go_meet
              case rel => exact ⟨gy, rfl, rfl, HBF, hHeld⟩
        · go_simp
          obtain ⟨wE12, hq12⟩ : ∃ q, q = wS.alloc (.cells #[.string ⟨#[]⟩, .string ⟨#[]⟩, .bool false] 28) := ⟨_, rfl⟩
          have hop12 : Below wS.heap.size wS wE12 := by rw [hq12]; exact (Below.refl _ _).alloc (Nat.le_refl _) _
          obtain ⟨gy, HGY⟩ : ∃ z, Hid (z = wS.heap.size) := ⟨_, Hid.mk rfl⟩
          have HB12 : Hid (Bw wE12 gy 28 [.string ⟨#[]⟩, .string ⟨#[]⟩, .bool false]) := by unfold Hid; rw [HGY.out, hq12]; exact Bw.new _ _ _
          have HBL : Hid (wr.heap.size ≤ gy) := by unfold Hid; rw [HGY.out]; exact hHeld.size
          rw [← HGY.out]
          rw [← hq12]
          clear hq12
          refine hK.out _ _ (bthen hHeld hop12) (fun hHeld => ?_)
          clear hK K
          try simp only [Act.put, sa, s0, s1]
          refine wpAnyH_ready (rs := [8]) (by kernel_rfl) (by simp) ?_
          refine (AllReadyH.cons (o := q2bc_3_13_8) rfl (fun K hK => ?_) AllReadyH.nil)
          · go_simp
            refine Calls.mono (HCG.out wE12 hHeld) ?_
            rintro e wE8 ⟨rfl, hop8⟩
            go_wp2_with fail
            refine hK.out _ _ (bthen hHeld hop8) (fun hHeld => ?_)
            clear hK K
            try simp only [Act.put, sa, s0, s1]
            refine tk 9 q2bc_3_13_9 (some 79) (v := ?v61) rfl rfl (by kernel_rfl) hHeld (by rfl) (fun _ _ _ x => x) (fun w h => ?y61) ?_; (case y61 => (try dsimp only at h); go_simp; try (with_reducible rfl)); try simp only [Act.put, sa, s0, s1]
            refine tk 10 q2bc_3_13_10 (some 89) (v := ?v62) rfl rfl (by kernel_rfl) hHeld (by rfl) (fun _ _ _ x => x) (fun w h => ?y62) ?_; (case y62 => (try dsimp only at h); go_simp; try (with_reducible rfl)); try simp only [Act.put, sa, s0, s1]
            refine tk 11 q2bc_3_13_11 (some 90) (v := ?v63) rfl rfl (by kernel_rfl) hHeld (by rfl) (fun _ _ _ x => x) (fun w h => ?y63) ?_; (case y63 => (try dsimp only at h); go_simp; try (with_reducible rfl)); try simp only [Act.put, sa, s0, s1]
            refine wpAnyH_ready (rs := [13]) (by kernel_rfl) (by simp) ?_
            refine (AllReadyH.cons (o := q2bc_3_13_13) rfl (fun K hK => ?_) AllReadyH.nil)
            · skip
              have hbd := HB12.out.under (show Below wE12.heap.size wE12 wE8 from bthen (Below.refl _ _) hop8)
              have s0 := hbd.cell 0 _ rfl
              have s1 := hbd.cell 1 _ rfl
              have s2 := hbd.cell 2 _ rfl
              have s3 := hbd.free 0
              have s4 := hbd.free 1
              have s5 := hbd.free 2
              have s6 := hbd.lt
              go_simp
              have HBF := Hid.mk (((hbd.put 0 (.string py.fKey)).put 1 (.string py.fVal)).put 2 (.bool py.fGone))
              clear s0 s1 s2 s3 s4 s5 s6 hbd
              refine hK.out _ _ (((hHeld.setCell (p := ⟨gy, 0, none⟩) HBL.out _).setCell (p := ⟨gy, 1, none⟩) HBL.out _).setCell (p := ⟨gy, 2, none⟩) HBL.out _) (fun hHeld => ?_)
              clear hK K
              try simp only [Act.put, sa, s0, s1]
              refine tk 14 q2bc_3_13_14 (some 16) (v := ?v64) rfl rfl (by kernel_rfl) hHeld (by rfl) (fun _ _ _ x => x) (fun w h => ?y64) ?_; (case y64 => (try dsimp only at h); go_simp; try (with_reducible rfl)); try simp only [Act.put, sa, s0, s1]
              refine wpAnyH_done (by kernel_rfl) ?_ _
              try go_wp2_with fail
              go_meet
              case rel => exact ⟨gy, rfl, rfl, HBF, hHeld⟩
      case rest =>
        obtain ⟨gy, rfl, rfl, HGB, hbx⟩ := hcut
        clear f0 y0 y1 yr yl
        have HBc := Hid.mk (bthen HBk.out hbx)
        have y0 : ∀ W, Below wc.heap.size wc W → W.cell? ⟨w1.heap.size, 0, none⟩ = some (.slice (some ⟨b1, o1, none⟩) l.length c1) := fun W h => (HBM.out W (bthen HBc.out h)).1.cell 0 _ rfl
        have y1 : ∀ W, Below wc.heap.size wc W → W.cell? ⟨w1.heap.size + 1, 0, none⟩ = some (.string p.fKey) := fun W h => (HBM.out W (bthen HBc.out h)).2.cell 0 _ rfl
        by_cases e : pk.fKey = p.fKey
        · have f0 : ∀ W, Below wc.heap.size wc W → W.cell? ⟨b1, o1 + k * 4, none⟩ = some (.string p.fKey) := fun W h => by rw [← e]; exact (HF.out W (bthen hbx h)).1
          clear e
          go_wp2_with fail
          refine wp_region_held_drew (S := fun W => Below wc.heap.size wc W) (by kernel_rfl) (Below.drew (Below.refl _ _)) (fun hHeld => ?_)
          refine tk 0 q2bc_3_14_0 (some 91) (v := ?v1) rfl rfl (by kernel_rfl) hHeld (by rfl) (fun _ _ _ x => x) (fun w h => ?y1) ?_; (case y1 => (try dsimp only at h); go_simp; try (with_reducible rfl)); try simp only [Act.put, sa, s0, s1]
          refine tk 1 q2bc_3_14_1 (some 92) (v := ?v2) rfl rfl (by kernel_rfl) hHeld (by rfl) (fun _ _ _ x => x) (fun w h => ?y2) ?_; (case y2 => (try dsimp only at h); go_simp; try (with_reducible rfl)); try simp only [Act.put, sa, s0, s1]
          refine tk 2 q2bc_3_14_2 (some 93) (v := ?v3) rfl rfl (by kernel_rfl) hHeld (by rfl) (fun _ _ _ x => x) (fun w h => ?y3) ?_; (case y3 => (try dsimp only at h); go_simp; try (with_reducible rfl)); try simp only [Act.put, sa, s0, s1]
          refine tk 3 q2bc_3_14_3 (some 94) (v := ?v4) rfl rfl (by kernel_rfl) hHeld (by rfl) (fun _ _ _ x => x) (fun w h => ?y4) ?_; (case y4 => (try dsimp only at h); go_simp; try (with_reducible rfl)); try simp only [Act.put, sa, s0, s1]
          refine tk 4 q2bc_3_14_4 (some 95) (v := ?v5) rfl rfl (by kernel_rfl) hHeld (by rfl) (fun _ _ _ x => x) (fun w h => ?y5) ?_; (case y5 => (try dsimp only at h); go_simp; try (with_reducible rfl)); try simp only [Act.put, sa, s0, s1]
          refine tk 5 q2bc_3_14_5 (some 96) (v := ?v6) rfl rfl (by kernel_rfl) hHeld (by rfl) (fun _ _ _ x => x) (fun w h => ?y6) ?_; (case y6 => (try dsimp only at h); go_simp; try (with_reducible rfl)); try simp only [Act.put, sa, s0, s1]
          refine tk 6 q2bc_3_14_6 (some 97) (v := ?v7) rfl rfl (by kernel_rfl) hHeld (by rfl) (fun _ _ _ x => x) (fun w h => ?y7) ?_; (case y7 => (try dsimp only at h); go_simp; try (with_reducible rfl)); try simp only [Act.put, sa, s0, s1]
          refine tk 7 q2bc_3_14_7 (some 98) (v := ?v8) rfl rfl (by kernel_rfl) hHeld (by rfl) (fun _ _ _ x => x) (fun w h => ?y8) ?_; (case y8 => (try dsimp only at h); go_simp; try (with_reducible rfl)); try simp only [Act.put, sa, s0, s1]
          refine tk 8 q2bc_3_14_8 (some 99) (v := ?v9) rfl rfl (by kernel_rfl) hHeld (by rfl) (fun _ _ _ x => x) (fun w h => ?y9) ?_; (case y9 => (try dsimp only at h); go_simp; try (with_reducible rfl)); try simp only [Act.put, sa, s0, s1]
          refine tk 9 q2bc_3_14_9 (some 100) (v := ?v10) rfl rfl (by kernel_rfl) hHeld (by rfl) (fun _ _ _ x => x) (fun w h => ?y10) ?_; (case y10 => (try dsimp only at h); go_simp; try (with_reducible rfl)); try simp only [Act.put, sa, s0, s1]
          refine tk 10 q2bc_3_14_10 (some 101) (v := ?v11) rfl rfl (by kernel_rfl) hHeld (by rfl) (fun _ _ _ x => x) (fun w h => ?y11) ?_; (case y11 => (try dsimp only at h); go_simp; try (with_reducible rfl)); try simp only [Act.put, sa, s0, s1]
          refine tk 11 q2bc_3_14_11 (some 102) (v := ?v12) rfl rfl (by kernel_rfl) hHeld (by rfl) (fun _ _ _ x => x) (fun w h => ?y12) ?_; (case y12 => (try dsimp only at h); go_simp; try (with_reducible rfl)); try simp only [Act.put, sa, s0, s1]
          refine tk 12 q2bc_3_14_12 (some 103) (v := ?v13) rfl rfl (by kernel_rfl) hHeld (by rfl) (fun _ _ _ x => x) (fun w h => ?y13) ?_; (case y13 => (try dsimp only at h); go_simp; try (with_reducible rfl)); try simp only [Act.put, sa, s0, s1]
          refine tk 13 q2bc_3_14_13 (some 104) (v := ?v14) rfl rfl (by kernel_rfl) hHeld (by rfl) (fun _ _ _ x => x) (fun w h => ?y14) ?_; (case y14 => (try dsimp only at h); go_simp; try (with_reducible rfl)); try simp only [Act.put, sa, s0, s1]
          refine tn 14 q2bc_3_14_14 (some 105) rfl rfl (by kernel_rfl) hHeld (by rfl) (fun _ _ _ x => x) ?_; try simp only [Act.put, sa, s0, s1]
          refine tn 15 q2bc_3_14_15 (some 106) rfl rfl (by kernel_rfl) hHeld (by rfl) (fun _ _ _ x => x) ?_; try simp only [Act.put, sa, s0, s1]
          refine tn 16 q2bc_3_14_16 (some 107) rfl rfl (by kernel_rfl) hHeld (by rfl) (fun _ _ _ x => x) ?_; try simp only [Act.put, sa, s0, s1]
          refine tn 17 q2bc_3_14_17 (some 108) rfl rfl (by kernel_rfl) hHeld (by rfl) (fun _ _ _ x => x) ?_; try simp only [Act.put, sa, s0, s1]
          refine tn 18 q2bc_3_14_18 (some 109) rfl rfl (by kernel_rfl) hHeld (by rfl) (fun _ _ _ x => x) ?_; try simp only [Act.put, sa, s0, s1]
          refine tn 19 q2bc_3_14_19 (some 110) rfl rfl (by kernel_rfl) hHeld (by rfl) (fun _ _ _ x => x) ?_; try simp only [Act.put, sa, s0, s1]
          refine tn 20 q2bc_3_14_20 (some 111) rfl rfl (by kernel_rfl) hHeld (by rfl) (fun _ _ _ x => x) ?_; try simp only [Act.put, sa, s0, s1]
          refine tn 21 q2bc_3_14_21 (some 112) rfl rfl (by kernel_rfl) hHeld (by rfl) (fun _ _ _ x => x) ?_; try simp only [Act.put, sa, s0, s1]
          refine tk 22 q2bc_3_14_22 (some 113) (v := ?v23) rfl rfl (by kernel_rfl) hHeld (by rfl) (fun _ _ _ x => x) (fun w h => ?y23) ?_; (case y23 => (try dsimp only at h); go_simp; try (with_reducible rfl)); try simp only [Act.put, sa, s0, s1]
          refine tk 23 q2bc_3_14_23 (some 114) (v := ?v24) rfl rfl (by kernel_rfl) hHeld (by rfl) (fun _ _ _ x => x) (fun w h => ?y24) ?_; (case y24 => (try dsimp only at h); go_simp; try (with_reducible rfl)); try simp only [Act.put, sa, s0, s1]
          refine wpAnyH_done (by kernel_rfl) ?_ _
          go_wp2_with fail
          go_roundw
          case rel => first | exact ⟨k + 1, by omega, by go_num, bthen hbk (bthen hbx hHeld)⟩ | ((repeat apply Exists.intro); exact ⟨⟨k + 1, by omega, by go_num, bthen hbk (bthen hbx hHeld)⟩, rfl⟩)
          case measure => simp [intOf]; omega
        · have hpe := HPY.out e
          subst hpe
          have f0 : ∀ W, Below wc.heap.size wc W → W.cell? ⟨b1, o1 + k * 4, none⟩ = some (.string py.fKey) := fun W h => (HF.out W (bthen hbx h)).1
          have f1 : ∀ W, Below wc.heap.size wc W → W.cell? ⟨b1, o1 + k * 4 + 1, none⟩ = some (.string py.fVal) := fun W h => (HF.out W (bthen hbx h)).2.1
          have f2 : ∀ W, Below wc.heap.size wc W → W.cell? ⟨b1, o1 + k * 4 + 2, none⟩ = some (.bool py.fGone) := fun W h => (HF.out W (bthen hbx h)).2.2
          have t0 : ∀ W, Below wc.heap.size wc W → W.cell? ⟨gy, 0, none⟩ = some (.string py.fKey) := fun W h => (HGB.out.under h).cell 0 _ rfl
          have t1 : ∀ W, Below wc.heap.size wc W → W.cell? ⟨gy, 1, none⟩ = some (.string py.fVal) := fun W h => (HGB.out.under h).cell 1 _ rfl
          have t2 : ∀ W, Below wc.heap.size wc W → W.cell? ⟨gy, 2, none⟩ = some (.bool py.fGone) := fun W h => (HGB.out.under h).cell 2 _ rfl
          have e1 : (py.fKey.toList == p.fKey.toList) = false := k_ne e
          have e2 : (py.fKey.toList == py.fKey.toList) = true := k_same rfl
          have e3 : (py.fVal.toList == py.fVal.toList) = true := k_same rfl
          go_wp2_with fail
          refine wp_region_held_drew (S := fun W => Below wc.heap.size wc W) (by kernel_rfl) (Below.drew (Below.refl _ _)) (fun hHeld => ?_)
          refine tk 0 q2bc_3_14_0 (some 91) (v := ?v25) rfl rfl (by kernel_rfl) hHeld (by rfl) (fun _ _ _ x => x) (fun w h => ?y25) ?_; (case y25 => (try dsimp only at h); go_simp; try (with_reducible rfl)); try simp only [Act.put, sa, s0, s1]
          refine tk 1 q2bc_3_14_1 (some 92) (v := ?v26) rfl rfl (by kernel_rfl) hHeld (by rfl) (fun _ _ _ x => x) (fun w h => ?y26) ?_; (case y26 => (try dsimp only at h); go_simp; try (with_reducible rfl)); try simp only [Act.put, sa, s0, s1]
          refine tk 2 q2bc_3_14_2 (some 93) (v := ?v27) rfl rfl (by kernel_rfl) hHeld (by rfl) (fun _ _ _ x => x) (fun w h => ?y27) ?_; (case y27 => (try dsimp only at h); go_simp; try (with_reducible rfl)); try simp only [Act.put, sa, s0, s1]
          refine tk 3 q2bc_3_14_3 (some 94) (v := ?v28) rfl rfl (by kernel_rfl) hHeld (by rfl) (fun _ _ _ x => x) (fun w h => ?y28) ?_; (case y28 => (try dsimp only at h); go_simp; try (with_reducible rfl)); try simp only [Act.put, sa, s0, s1]
          refine tk 4 q2bc_3_14_4 (some 95) (v := ?v29) rfl rfl (by kernel_rfl) hHeld (by rfl) (fun _ _ _ x => x) (fun w h => ?y29) ?_; (case y29 => (try dsimp only at h); go_simp; try (with_reducible rfl)); try simp only [Act.put, sa, s0, s1]
          refine tk 5 q2bc_3_14_5 (some 96) (v := ?v30) rfl rfl (by kernel_rfl) hHeld (by rfl) (fun _ _ _ x => x) (fun w h => ?y30) ?_; (case y30 => (try dsimp only at h); go_simp; try (with_reducible rfl)); try simp only [Act.put, sa, s0, s1]
          refine tk 6 q2bc_3_14_6 (some 97) (v := ?v31) rfl rfl (by kernel_rfl) hHeld (by rfl) (fun _ _ _ x => x) (fun w h => ?y31) ?_; (case y31 => (try dsimp only at h); go_simp; try (with_reducible rfl)); try simp only [Act.put, sa, s0, s1]
          refine tk 7 q2bc_3_14_7 (some 98) (v := ?v32) rfl rfl (by kernel_rfl) hHeld (by rfl) (fun _ _ _ x => x) (fun w h => ?y32) ?_; (case y32 => (try dsimp only at h); go_simp; try (with_reducible rfl)); try simp only [Act.put, sa, s0, s1]
          refine tk 8 q2bc_3_14_8 (some 99) (v := ?v33) rfl rfl (by kernel_rfl) hHeld (by rfl) (fun _ _ _ x => x) (fun w h => ?y33) ?_; (case y33 => (try dsimp only at h); go_simp; try (with_reducible rfl)); try simp only [Act.put, sa, s0, s1]
          refine tk 9 q2bc_3_14_9 (some 100) (v := ?v34) rfl rfl (by kernel_rfl) hHeld (by rfl) (fun _ _ _ x => x) (fun w h => ?y34) ?_; (case y34 => (try dsimp only at h); go_simp; try (with_reducible rfl)); try simp only [Act.put, sa, s0, s1]
          refine tk 10 q2bc_3_14_10 (some 101) (v := ?v35) rfl rfl (by kernel_rfl) hHeld (by rfl) (fun _ _ _ x => x) (fun w h => ?y35) ?_; (case y35 => (try dsimp only at h); go_simp; try (with_reducible rfl)); try simp only [Act.put, sa, s0, s1]
          refine tk 11 q2bc_3_14_11 (some 102) (v := ?v36) rfl rfl (by kernel_rfl) hHeld (by rfl) (fun _ _ _ x => x) (fun w h => ?y36) ?_; (case y36 => (try dsimp only at h); go_simp; try (with_reducible rfl)); try simp only [Act.put, sa, s0, s1]
          refine tk 12 q2bc_3_14_12 (some 103) (v := ?v37) rfl rfl (by kernel_rfl) hHeld (by rfl) (fun _ _ _ x => x) (fun w h => ?y37) ?_; (case y37 => (try dsimp only at h); go_simp; try (with_reducible rfl)); try simp only [Act.put, sa, s0, s1]
          refine tk 13 q2bc_3_14_13 (some 104) (v := ?v38) rfl rfl (by kernel_rfl) hHeld (by rfl) (fun _ _ _ x => x) (fun w h => ?y38) ?_; (case y38 => (try dsimp only at h); go_simp; try (with_reducible rfl)); try simp only [Act.put, sa, s0, s1]
          refine tk 14 q2bc_3_14_14 (some 105) (v := ?v39) rfl rfl (by kernel_rfl) hHeld (by rfl) (fun _ _ _ x => x) (fun w h => ?y39) ?_; (case y39 => (try dsimp only at h); go_simp; try (with_reducible rfl)); try simp only [Act.put, sa, s0, s1]
          refine tk 15 q2bc_3_14_15 (some 106) (v := ?v40) rfl rfl (by kernel_rfl) hHeld (by rfl) (fun _ _ _ x => x) (fun w h => ?y40) ?_; (case y40 => (try dsimp only at h); go_simp; try (with_reducible rfl)); try simp only [Act.put, sa, s0, s1]
          refine tk 16 q2bc_3_14_16 (some 107) (v := ?v41) rfl rfl (by kernel_rfl) hHeld (by rfl) (fun _ _ _ x => x) (fun w h => ?y41) ?_; (case y41 => (try dsimp only at h); go_simp; try (with_reducible rfl)); try simp only [Act.put, sa, s0, s1]
          refine tk 17 q2bc_3_14_17 (some 108) (v := ?v42) rfl rfl (by kernel_rfl) hHeld (by rfl) (fun _ _ _ x => x) (fun w h => ?y42) ?_; (case y42 => (try dsimp only at h); go_simp; try (with_reducible rfl)); try simp only [Act.put, sa, s0, s1]
          refine tk 18 q2bc_3_14_18 (some 109) (v := ?v43) rfl rfl (by kernel_rfl) hHeld (by rfl) (fun _ _ _ x => x) (fun w h => ?y43) ?_; (case y43 => (try dsimp only at h); go_simp; try (with_reducible rfl)); try simp only [Act.put, sa, s0, s1]
          refine tk 19 q2bc_3_14_19 (some 110) (v := ?v44) rfl rfl (by kernel_rfl) hHeld (by rfl) (fun _ _ _ x => x) (fun w h => ?y44) ?_; (case y44 => (try dsimp only at h); go_simp; try (with_reducible rfl)); try simp only [Act.put, sa, s0, s1]
          refine tk 20 q2bc_3_14_20 (some 111) (v := ?v45) rfl rfl (by kernel_rfl) hHeld (by rfl) (fun _ _ _ x => x) (fun w h => ?y45) ?_; (case y45 => (try dsimp only at h); go_simp; try (with_reducible rfl)); try simp only [Act.put, sa, s0, s1]
          refine tk 21 q2bc_3_14_21 (some 112) (v := ?v46) rfl rfl (by kernel_rfl) hHeld (by rfl) (fun _ _ _ x => x) (fun w h => ?y46) ?_; (case y46 => (try dsimp only at h); go_simp; try (with_reducible rfl)); try simp only [Act.put, sa, s0, s1]
          refine tk 22 q2bc_3_14_22 (some 113) (v := ?v47) rfl rfl (by kernel_rfl) hHeld (by rfl) (fun _ _ _ x => x) (fun w h => ?y47) ?_; (case y47 => (try dsimp only at h); go_simp; try (with_reducible rfl)); try simp only [Act.put, sa, s0, s1]
          refine tk 23 q2bc_3_14_23 (some 114) (v := ?v48) rfl rfl (by kernel_rfl) hHeld (by rfl) (fun _ _ _ x => x) (fun w h => ?y48) ?_; (case y48 => (try dsimp only at h); go_simp; try (with_reducible rfl)); try simp only [Act.put, sa, s0, s1]
          refine wpAnyH_done (by kernel_rfl) ?_ _
          go_wp2_with fail
          go_roundw
          case rel => first | exact ⟨k + 1, by omega, by go_num, bthen hbk (bthen hbx hHeld)⟩ | ((repeat apply Exists.intro); exact ⟨⟨k + 1, by omega, by go_num, bthen hbk (bthen hbx hHeld)⟩, rfl⟩)
          case measure => simp [intOf]; omega
    · have hke : ¬ (k : Int) < (l.length : Int) := by omega
      have y0 := (HBM.out _ HBk.out).1.cell 0 _ rfl
      have y1 := (HBM.out _ HBk.out).1.lt
      have y2 := (HBM.out _ HBk.out).2.cell 0 _ rfl
      have y3 := (HBM.out _ HBk.out).2.cell 1 _ rfl
      have y4 := (HBM.out _ HBk.out).2.cell 2 _ rfl
      have y5 := (HBM.out _ HBk.out).2.lt
      have z0 := (HBN.out _ HXk.out).cell 0 _ rfl
      have z1 := (HBN.out _ HXk.out).lt
      have u0 := (HBX.out _ HYk.out).cell 0 _ rfl
      have u1 := (HBX.out _ HYk.out).cell 1 _ rfl
      have u2 := (HBX.out _ HYk.out).cell 2 _ rfl
      have u3 := (HBX.out _ HYk.out).lt
      go_wp2_with fail
      refine (implMemOk_c [.slice a3 l'.length c3] ⟨l'⟩ wr ⟨a3, c3, rfl, HLN.out _ HXk.out, trivial⟩ hwn (HTB.out _ HBk.out)).mono ?_
      rintro e wA ⟨rfl, hxA⟩
      rw [HPN.out.1]
      have HBA := Hid.mk (bthen HBk.out hxA)
      have HXA := Hid.mk (bthen HXk.out hxA)
      clear y0 y1 y2 y3 y4 y5 z0 z1 u0 u1 u2 u3
      have y0 := (HBM.out _ HBA.out).1.cell 0 _ rfl
      have y1 := (HBM.out _ HBA.out).1.lt
      have y2 := (HBM.out _ HBA.out).2.cell 0 _ rfl
      have y3 := (HBM.out _ HBA.out).2.cell 1 _ rfl
      have y4 := (HBM.out _ HBA.out).2.cell 2 _ rfl
      have y5 := (HBM.out _ HBA.out).2.lt
      have z0 := (HBN.out _ HXA.out).cell 0 _ rfl
      have z1 := (HBN.out _ HXA.out).lt
      go_wp2_with fail
      refine (implPairOk_c [.string p.fKey, .string p.fVal, .bool p.fGone] p wA ⟨rfl, by omega, by omega, trivial, trivial⟩ (by show p.fKey.size + p.fVal.size ≤ _; omega)).mono ?_
      rintro e wB ⟨rfl, hxB⟩
      rw [hPO]
      have HBB := Hid.mk (bthen HBA.out hxB)
      have HXB := Hid.mk (bthen HXA.out hxB)
      clear y0 y1 y2 y3 y4 y5 z0 z1
      have y0 := (HBM.out _ HBB.out).1.cell 0 _ rfl
      have y1 := (HBM.out _ HBB.out).1.lt
      have z0 := (HBN.out _ HXB.out).cell 0 _ rfl
      have z1 := (HBN.out _ HXB.out).lt
      cases had with
      | true =>
        have e1 : ((l'.length : Nat) : Int) = ((l.length : Nat) : Int) := by have := HHD.out.2 rfl; omega
        go_wp2_with fail
        go_ret
        exact ⟨rfl, bthen HB2.out HBB.out⟩
      | false =>
        have e1 : ¬ ((l'.length : Nat) : Int) = ((l.length : Nat) : Int) := fun h => by have := HHD.out.1 (by omega); cases this
        have e2 : (((l'.length : Nat) : Int) == ((l.length : Nat) : Int)) = false := by rw [beq_eq_false_iff_ne]; exact e1
        have e3 : decide (((l'.length : Nat) : Int) = ((l.length : Nat) : Int)) = false := decide_eq_false e1
        go_wp2_with fail
        go_ret
        exact ⟨rfl, bthen HB2.out HBB.out⟩

/-- A slice of bytes that is read. -/
def rdB (B : Nat) (w : World) (v : Value) (zs : List Int) : Prop := ∃ a c, v = .slice a zs.length c ∧ LeafB B w a c zs

theorem law_FnMem (cs0 : Value) (m0 : List Int) (w : World) (hr0 : rdB w.heap.size w cs0 m0) (hT : Tabs w) :
    Calls Tryd.prog 3 #[cs0] w fun e w' => e = .returned (.bool true) ∧ Below w.heap.size w w' := by
  obtain ⟨a, c, rfl, h⟩ := hr0
  exact law_FnMem_r a m0.length c m0 w rfl h.2.2.1 hT

end Go.Proofs.YtadadkookbkkoaaDoor
