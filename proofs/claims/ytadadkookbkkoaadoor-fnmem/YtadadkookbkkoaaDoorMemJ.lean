/-
  The program's MemPut.
-/
import Derived.Test.YtadadkookbkkoaaDoorRegK
import Derived.Test.YtadadkookbkkoaaDoorMemI
import Derived.Deep.DeepCutAuto
import Derived.Deep.Cut
namespace Go.Proofs.YtadadkookbkkoaaDoor
open Go.RowKit Go.Maps
set_option linter.unusedVariables false
set_option linter.unusedSimpArgs false
set_option maxRecDepth 10000
abbrev qb4a_9_4_0 : Oper := ⟨some 39, .fieldAddr 26 (.tmp 3) 0, 0, "l04_mem.go:101", #[], none⟩
abbrev qb4a_9_4_1 : Oper := ⟨some 40, .load 24 (.tmp 39), 24, "l04_mem.go:101", #[⟨0, .data⟩], none⟩
abbrev qb4a_9_4_2 : Oper := ⟨some 41, .move (.tmp 8), 3, "l04_mem.go:101", #[], none⟩
abbrev qb4a_9_4_3 : Oper := ⟨some 42, .slice 24 (.tmp 40) none (some (.tmp 41)) none, 24, "l04_mem.go:101", #[⟨1, .data⟩, ⟨2, .data⟩], none⟩
abbrev qb4a_9_4_4 : Oper := ⟨some 43, .fieldAddr 26 (.tmp 3) 0, 0, "l04_mem.go:101", #[], none⟩
abbrev qb4a_9_4_5 : Oper := ⟨some 44, .load 24 (.tmp 43), 24, "l04_mem.go:101", #[⟨4, .data⟩], none⟩
abbrev qb4a_9_4_6 : Oper := ⟨some 45, .move (.tmp 8), 3, "l04_mem.go:101", #[], none⟩
abbrev qb4a_9_4_7 : Oper := ⟨some 46, .slice 24 (.tmp 44) (some (.tmp 45)) none none, 24, "l04_mem.go:101", #[⟨5, .data⟩, ⟨6, .data⟩], none⟩
abbrev qb4a_9_4_8 : Oper := ⟨some 9, .assign (.tmp 42), 24, "l04_mem.go:101", #[⟨3, .data⟩, ⟨0, .phase⟩, ⟨1, .phase⟩, ⟨2, .phase⟩, ⟨3, .phase⟩, { on := 4, ground := Ground.textOnly Departure.lateStores }, { on := 5, ground := Ground.textOnly Departure.lateStores }, { on := 6, ground := Ground.textOnly Departure.lateStores }, { on := 7, ground := Ground.textOnly Departure.lateStoresUnsure }], none⟩
abbrev qb4a_9_4_9 : Oper := ⟨some 10, .assign (.tmp 46), 24, "l04_mem.go:101", #[⟨7, .data⟩, ⟨8, .chain⟩, ⟨0, .phase⟩, ⟨1, .phase⟩, ⟨2, .phase⟩, ⟨3, .phase⟩, ⟨4, .phase⟩, ⟨5, .phase⟩, ⟨6, .phase⟩, ⟨7, .phase⟩, ⟨8, .phase⟩], none⟩
abbrev qb4a_9_5_0 : Oper := ⟨some 47, .move (.tmp 10), 24, "l04_mem.go:102", #[], none⟩
abbrev qb4a_9_5_1 : Oper := ⟨some 48, .call { callee := .builtin .len, args := #[.tmp 47], argTypes := #[24] }, 3, "l04_mem.go:102", #[⟨0, .data⟩], none⟩
abbrev qb4a_9_5_2 : Oper := ⟨some 49, .binOp .gtr 3 (.tmp 48) (.const (.int .i64 0)) 3, 4, "l04_mem.go:102", #[⟨1, .data⟩], none⟩
abbrev qb4a_9_5_3 : Oper := ⟨some 50, .move (.tmp 49), 4, "l04_mem.go:102", #[⟨2, .data⟩], none⟩
abbrev qb4a_9_5_4 : Oper := ⟨some 51, .move (.tmp 10), 24, "l04_mem.go:102", #[⟨3, .guard⟩], some (3, true)⟩
abbrev qb4a_9_5_5 : Oper := ⟨some 52, .indexAddr 24 (.tmp 51) (.const (.int .i64 0)), 0, "l04_mem.go:102", #[⟨4, .data⟩, ⟨3, .guard⟩], some (3, true)⟩
abbrev qb4a_9_5_6 : Oper := ⟨some 53, .fieldAddr 36 (.tmp 52) 0, 0, "l04_mem.go:102", #[⟨5, .data⟩, ⟨3, .guard⟩], some (3, true)⟩
abbrev qb4a_9_5_7 : Oper := ⟨some 54, .fieldAddr 28 (.tmp 53) 0, 0, "l04_mem.go:102", #[⟨6, .data⟩, ⟨3, .guard⟩], some (3, true)⟩
abbrev qb4a_9_5_8 : Oper := ⟨some 55, .load 9 (.tmp 54), 9, "l04_mem.go:102", #[⟨7, .data⟩, ⟨3, .guard⟩], some (3, true)⟩
abbrev qb4a_9_5_9 : Oper := ⟨some 56, .fieldAddr 28 (.tmp 4) 0, 0, "l04_mem.go:102", #[⟨3, .guard⟩], some (3, true)⟩
abbrev qb4a_9_5_10 : Oper := ⟨some 57, .load 9 (.tmp 56), 9, "l04_mem.go:102", #[⟨9, .data⟩, ⟨3, .guard⟩], some (3, true)⟩
abbrev qb4a_9_5_11 : Oper := ⟨some 58, .binOp .eql 9 (.tmp 55) (.tmp 57) 9, 4, "l04_mem.go:102", #[⟨8, .data⟩, ⟨10, .data⟩, ⟨3, .guard⟩], some (3, true)⟩
abbrev qb4a_9_5_12 : Oper := ⟨some 59, .pick (.tmp 50) (.tmp 58) (.const (.bool false)), 4, "l04_mem.go:102", #[⟨3, .data⟩, ⟨11, .data⟩], none⟩

/-- What the program's MemPut answers. -/
def PutI (w : World) (l : List MNode) (p : MPair) (tw : Int) (e : Ending) (w' : World) : Prop :=
  ∃ (a : Option Addr) (c : Nat) (l' : List MNode), e = .returned (.tuple #[.agg #[.slice a l'.length c], .bool (okI l p tw)]) ∧ (okI l p tw = false → l'.length = l.length) ∧ (okI l p tw = true → l' = putN l p tw ∧ LeafL 4 rNode w'.heap.size w' a c l') ∧ Below w.heap.size w w'
theorem wfT4 {z : Int} (h1 : 1 ≤ z) (h2 : z ≤ 4) : (Lit.int .i64 z).wf = true := by
  have : z = 1 ∨ z = 2 ∨ z = 3 ∨ z = 4 := by omega
  rcases this with rfl | rfl | rfl | rfl <;> rfl
def IsAt (l : List MNode) (k : Nat) (p : MPair) (B : Bool) : Prop := B = true ↔ ∃ hk : k < l.length, l[k].fP.fKey = p.fKey
theorem leaf_node {B : Nat} {w : World} {g : Nat} {x : MNode} {cs : List Value} (hb : Bx w g cs) (hr : rNode B w cs x) (hB : B ≤ w.heap.size) : LeafL 4 rNode w.heap.size w (some ⟨g, 0, none⟩) 1 [x] := by
  refine ⟨by simp, by omega, fun j hj => ?_⟩
  have h0 : j = 0 := by simp at hj; omega
  subst h0
  have hc : cs.length = 4 := by obtain ⟨rfl, _⟩ := hr; rfl
  refine ⟨g, 0, rfl, hb.1, cs, hc, fun i u hu => ?_, rNode_good.mono hr hB⟩
  have h := hb.2 i u hu
  simpa using h
theorem cat3N {w : World} {g n1 n2 c1 c2 : Nat} {a1 a2 am : Option Addr} {l1 l2 : List MNode} {it : MNode} (hb : Bx w g [.slice a1 n1 c1, .slice am 1 1, .slice a2 n2 c2]) (h1 : l1.length = n1) (h2 : l2.length = n2) (i : Nat) (h : i < [(a1, c1, l1), (am, 1, [it]), (a2, c2, l2)].length) :
    w.cell? ⟨g, i, none⟩ = some (.slice [(a1, c1, l1), (am, 1, [it]), (a2, c2, l2)][i].1 [(a1, c1, l1), (am, 1, [it]), (a2, c2, l2)][i].2.2.length [(a1, c1, l1), (am, 1, [it]), (a2, c2, l2)][i].2.1) := by
  have h' : i < 3 := h
  rcases (by omega : i = 0 ∨ i = 1 ∨ i = 2) with rfl | rfl | rfl
  · show w.cell? ⟨g, 0, none⟩ = some (.slice a1 l1.length c1); rw [h1]; exact hb.2 0 _ rfl
  · exact hb.2 1 _ rfl
  · show w.cell? ⟨g, 2, none⟩ = some (.slice a2 l2.length c2); rw [h2]; exact hb.2 2 _ rfl
theorem leaf3N {B : Nat} {w : World} {c1 c2 : Nat} {a1 a2 am : Option Addr} {l1 l2 : List MNode} {it : MNode} (h1 : LeafL 4 rNode B w a1 c1 l1) (hm : LeafL 4 rNode B w am 1 [it]) (h2 : LeafL 4 rNode B w a2 c2 l2) (i : Nat) (h : i < [(a1, c1, l1), (am, 1, [it]), (a2, c2, l2)].length) :
    LeafL 4 rNode B w [(a1, c1, l1), (am, 1, [it]), (a2, c2, l2)][i].1 [(a1, c1, l1), (am, 1, [it]), (a2, c2, l2)][i].2.1 [(a1, c1, l1), (am, 1, [it]), (a2, c2, l2)][i].2.2 := by
  have h' : i < 3 := h
  rcases (by omega : i = 0 ∨ i = 1 ∨ i = 2) with rfl | rfl | rfl
  · exact h1
  · exact hm
  · exact h2
theorem sum3N {n1 n2 c1 c2 : Nat} {a1 a2 am : Option Addr} {l1 l2 : List MNode} {it : MNode} (h1 : l1.length = n1) (h2 : l2.length = n2) (h : n1 + n2 ≤ 8388607) : sumW lenNode [(a1, c1, l1), (am, 1, [it]), (a2, c2, l2)] ≤ 8388608 := by
  simp only [sumW, lenNode, List.length_cons, List.length_nil]; omega
theorem cat_put {l1 l2 : List MNode} {x : MNode} {a1 a2 am : Option Addr} {c1 c2 : Nat} : catNode [(a1, c1, l1), (am, 1, [x]), (a2, c2, l2)] = l1 ++ x :: l2 := by simp [catNode]

set_option maxHeartbeats 8000000 in
theorem implMemPut_c (a : Option Addr) (c : Nat) (l : List MNode) (p : MPair) (tw : Int) (w : World) (hL : LeafL 4 rNode w.heap.size w a c l) (hw : wMem ⟨l⟩ ≤ 1048576) (hp1 : p.fKey.size ≤ 21) (hp2 : p.fVal.size ≤ 21) (htw : (Lit.int .i64 tw).wf = true) (hT : Tabs w) :
    Calls Tryd.prog 9 #[.agg #[.slice a l.length c], .agg #[.string p.fKey, .string p.fVal, .bool p.fGone], .int .i64 tw] w fun e w' => PutI w l p tw e w' := by
  obtain ⟨iN, hiN, hzN0, hzN1, hzN2⟩ := info_parts Tryd.infoOfNode
  have HI : Hid (_ ∧ _ ∧ _ ∧ _) := ⟨hiN, hzN0, hzN1, hzN2⟩
  have HL := Hid.mk hL
  have hll : l.length ≤ 1048576 := by have h : l.length + sumW wNode l ≤ 1048576 := hw; omega
  have hwp : wPair p ≤ 1048576 := by unfold wPair; omega
  have HWW := Hid.mk hw
  clear hL hw hiN hzN0 hzN1 hzN2
  obtain ⟨n, hn⟩ : ∃ n, n = l.length := ⟨_, rfl⟩
  rw [← hn] at hll ⊢
  have HX := Hid.mk hn.symm
  clear hn
  obtain ⟨w0, hw0⟩ : ∃ x, x = ((w.alloc (.cells #[.slice a n c] 26)).alloc (.cells #[.string p.fKey, .string p.fVal, .bool p.fGone] 28)).alloc (.cells #[.slice none 0 0] 26) := ⟨_, rfl⟩
  have hz0 : w0.heap.size = w.heap.size + 3 := by rw [hw0]; simp
  have hb0 : Below w.heap.size w w0 := by rw [hw0]; exact (((Below.refl _ _).alloc (Nat.le_refl _) _).alloc (by simp) _).alloc (by simp; omega) _
  have hbm : Bx w0 w.heap.size [.slice a n c] := by rw [hw0]; exact ((Bx.new _ _ _).alloc _).alloc _
  have hbp : Bx w0 (w.heap.size + 1) [.string p.fKey, .string p.fVal, .bool p.fGone] := by rw [hw0]; have h := Bx.new (w.alloc (.cells #[.slice a n c] 26)) [.string p.fKey, .string p.fVal, .bool p.fGone] 28; simp only [World.size_alloc] at h; exact h.alloc _
  have hbr : Bw w0 (w.heap.size + 2) 26 [.slice none 0 0] := by rw [hw0]; exact Bw.new' _ _ _ (by simp)
  have HRM : Hid (∀ W, Below w.heap.size w W → rMem W.heap.size W [.slice a n c] ⟨l⟩) := fun W hb => ⟨a, c, by show [Value.slice a n c] = [.slice a l.length c]; rw [HX.out], (HL.out.below rNode_good hb).mono rNode_good hb.size, trivial⟩
  have HBX : Hid (∀ W, Below w0.heap.size w0 W → Bx W w.heap.size [.slice a n c] ∧ Bx W (w.heap.size + 1) [.string p.fKey, .string p.fVal, .bool p.fGone] ∧ Bw W (w.heap.size + 1 + 1) 26 [.slice none 0 0]) := fun W hb => ⟨hbm.under hb, hbp.under hb, hbr.under hb⟩
  have HTB : Hid (∀ W, Below w.heap.size w W → Tabs W) := fun W hb => hT.below hb
  have HNO : Hid (∀ (W : World) (ax : Option Addr) (cx : Nat), okI l p tw = false → Below w.heap.size w W → PutI w l p tw (.returned (.tuple #[.agg #[.slice ax n cx], .bool false])) (W.setCell ⟨w.heap.size + 1 + 1, 0, none⟩ (.slice ax n cx))) := fun W ax cx hf hb => ⟨ax, cx, l, (by rw [hf, HX.out]), (fun _ => rfl), (fun h => by rw [hf] at h; cases h), hb.setCell (by show w.heap.size ≤ w.heap.size + 1 + 1; omega) _⟩
  clear hT hbm hbp hbr
  have r0 := (HBX.out _ (Below.refl _ _)).1.2 0 _ rfl
  go_enter Tryd.func9, Tryd.ntmps9
  go_wp2_with (rw [← hw0])
  try rw [← hw0]
  clear hw0 r0
  refine (implMemOk_c [.slice a n c] ⟨l⟩ w0 (HRM.out _ hb0) HWW.out (HTB.out _ hb0)).mono ?_
  rintro e w1 ⟨rfl, hx1⟩
  have hb1 := bthen hb0 hx1
  obtain ⟨hm1, hq1, hr1⟩ := HBX.out _ hx1
  have m0 := hm1.2 0 _ rfl
  have q0 := hq1.2 0 _ rfl
  have q1 := hq1.2 1 _ rfl
  have q2 := hq1.2 2 _ rfl
  have s0 := hr1.cell 0 _ rfl
  have s1 := hr1.free 0
  have s2 := hr1.lt
  have s3 := hm1.1
  have s4 := hq1.1
  by_cases hM : memOkP ⟨l⟩ = true
  rotate_left
  · have hMf := Bool.eq_false_iff.2 hM
    have HOF : Hid (okI l p tw = false) := by unfold Hid okI; rw [hMf]; rfl
    rw [hMf]
    clear hM hMf
    obtain ⟨wl, hwl⟩ : ∃ x, x = w1.alloc (.cells #[] 36) := ⟨_, rfl⟩
    have hbl : Below w1.heap.size w1 wl := by rw [hwl]; exact (Below.refl _ _).alloc (Nat.le_refl _) _
    have hol : wl.ownsRow w1.heap.size 36 4 (.slice (some ⟨w1.heap.size, 0, none⟩) 0 0) 0 [] := by rw [hwl]; exact World.ownsRow_lit w1 #[] 0 (Nat.le_refl _) (by decide) rfl
    have hrl := hr1.under hbl
    have hml := hm1.under hbl
    have u0 := hml.2 0 _ rfl
    rw [hwl] at u0
    have HSR : Hid (Src Tryd.prog 4 24 (.slice a n c) n (flatN l) wl) := Src.nds Tryd.underlying24 HX.out (HL.out.below rNode_good (bthen hb1 hbl)).2.2
    go_wp2_with (at_builtin; rw [← hwl]; refine wpList_app rfl _ _ 24 24 rfl w1.heap.size 36 iN (.agg #[.string ⟨#[]⟩, .string ⟨#[]⟩, .bool false, .int .i64 0]) 4 48 Tryd.underlying24 HI.out.1 HI.out.2.1 HI.out.2.2.1 HI.out.2.2.2 rfl _ _ _ rfl hol _ rfl n (flatN l) HSR.out (by unfold maxLen; omega) (by omega) (by rw [hwl]; simp) ?_; intro v5 w5 ho5 hgr5 hat5; have hb5 : Below w1.heap.size w1 w5 := ((Below.refl _ _).trans hbl).grown hgr5 (by rw [hwl]; simp) (fun k hk => (hol.lt k hk).1); have hr5 := hr1.under hb5; have t0 := hr5.cell 0 _ rfl; have t1 := hr5.free 0; have t2 := hr5.lt; obtain ⟨a5, c5, hv5⟩ : ∃ a5 c5, v5 = .slice a5 n c5 := own_slice (by rw [Nat.zero_add] at ho5; exact ho5); subst hv5)
    exact bodyPost_ret (v := .tuple #[.agg #[.slice a5 n c5], .bool false]) (by simp [results, Tryd.results9, go_sem, *]) rfl (HNO.out w5 a5 c5 HOF.out (bthen hb1 hb5))
  rw [hM]
  have hl60 : l.length ≤ 60 := (memOk_iff.1 hM).1
  have hn60 : n ≤ 60 := by rw [← HX.out]; exact hl60
  go_wp2_with fail
  refine (implPairOk_c [.string p.fKey, .string p.fVal, .bool p.fGone] p w1 ⟨rfl, by omega, by omega, trivial, trivial⟩ hwp).mono ?_
  rintro e w2 ⟨rfl, hx2⟩
  have hb2 := bthen hb1 hx2
  have hb02 := bthen hx1 hx2
  clear m0 q0 q1 q2 s0 s1 s2 s3 s4 hm1 hq1 hr1
  obtain ⟨hm1, hq1, hr1⟩ := HBX.out _ hb02
  have m0 := hm1.2 0 _ rfl
  have q0 := hq1.2 0 _ rfl
  have q1 := hq1.2 1 _ rfl
  have q2 := hq1.2 2 _ rfl
  have s0 := hr1.cell 0 _ rfl
  have s1 := hr1.free 0
  have s2 := hr1.lt
  have s3 := hm1.1
  have s4 := hq1.1
  by_cases hP : pairOkP p = true
  rotate_left
  · have hPf := Bool.eq_false_iff.2 hP
    have HOF : Hid (okI l p tw = false) := by unfold Hid okI; rw [hPf, Bool.and_false]; rfl
    rw [hPf]
    clear hP hPf
    obtain ⟨wl, hwl⟩ : ∃ x, x = w2.alloc (.cells #[] 36) := ⟨_, rfl⟩
    have hbl : Below w2.heap.size w2 wl := by rw [hwl]; exact (Below.refl _ _).alloc (Nat.le_refl _) _
    have hol : wl.ownsRow w2.heap.size 36 4 (.slice (some ⟨w2.heap.size, 0, none⟩) 0 0) 0 [] := by rw [hwl]; exact World.ownsRow_lit w2 #[] 0 (Nat.le_refl _) (by decide) rfl
    have hrl := hr1.under hbl
    have hml := hm1.under hbl
    have u0 := hml.2 0 _ rfl
    rw [hwl] at u0
    have HSR : Hid (Src Tryd.prog 4 24 (.slice a n c) n (flatN l) wl) := Src.nds Tryd.underlying24 HX.out (HL.out.below rNode_good (bthen hb2 hbl)).2.2
    go_wp2_with (at_builtin; rw [← hwl]; refine wpList_app rfl _ _ 24 24 rfl w2.heap.size 36 iN (.agg #[.string ⟨#[]⟩, .string ⟨#[]⟩, .bool false, .int .i64 0]) 4 48 Tryd.underlying24 HI.out.1 HI.out.2.1 HI.out.2.2.1 HI.out.2.2.2 rfl _ _ _ rfl hol _ rfl n (flatN l) HSR.out (by unfold maxLen; omega) (by omega) (by rw [hwl]; simp) ?_; intro v5 w5 ho5 hgr5 hat5; have hb5 : Below w2.heap.size w2 w5 := ((Below.refl _ _).trans hbl).grown hgr5 (by rw [hwl]; simp) (fun k hk => (hol.lt k hk).1); have hr5 := hr1.under hb5; have t0 := hr5.cell 0 _ rfl; have t1 := hr5.free 0; have t2 := hr5.lt; obtain ⟨a5, c5, hv5⟩ : ∃ a5 c5, v5 = .slice a5 n c5 := own_slice (by rw [Nat.zero_add] at ho5; exact ho5); subst hv5)
    exact bodyPost_ret (v := .tuple #[.agg #[.slice a5 n c5], .bool false]) (by simp [results, Tryd.results9, go_sem, *]) rfl (HNO.out w5 a5 c5 HOF.out (bthen hb2 hb5))
  rw [hP]
  go_wp2_with fail
  refine (towerOk_any tw w2).mono ?_
  rintro e w2' ⟨rfl, hw2'⟩
  subst hw2'
  by_cases hW : inR tw 1 4 = true
  rotate_left
  · have hWf := Bool.eq_false_iff.2 hW
    have HOF : Hid (okI l p tw = false) := by unfold Hid okI; rw [hWf, Bool.and_false]; rfl
    rw [hWf]
    clear hW hWf
    obtain ⟨wl, hwl⟩ : ∃ x, x = w2'.alloc (.cells #[] 36) := ⟨_, rfl⟩
    have hbl : Below w2'.heap.size w2' wl := by rw [hwl]; exact (Below.refl _ _).alloc (Nat.le_refl _) _
    have hol : wl.ownsRow w2'.heap.size 36 4 (.slice (some ⟨w2'.heap.size, 0, none⟩) 0 0) 0 [] := by rw [hwl]; exact World.ownsRow_lit w2' #[] 0 (Nat.le_refl _) (by decide) rfl
    have hrl := hr1.under hbl
    have hml := hm1.under hbl
    have u0 := hml.2 0 _ rfl
    rw [hwl] at u0
    have HSR : Hid (Src Tryd.prog 4 24 (.slice a n c) n (flatN l) wl) := Src.nds Tryd.underlying24 HX.out (HL.out.below rNode_good (bthen hb2 hbl)).2.2
    go_wp2_with (at_builtin; rw [← hwl]; refine wpList_app rfl _ _ 24 24 rfl w2'.heap.size 36 iN (.agg #[.string ⟨#[]⟩, .string ⟨#[]⟩, .bool false, .int .i64 0]) 4 48 Tryd.underlying24 HI.out.1 HI.out.2.1 HI.out.2.2.1 HI.out.2.2.2 rfl _ _ _ rfl hol _ rfl n (flatN l) HSR.out (by unfold maxLen; omega) (by omega) (by rw [hwl]; simp) ?_; intro v5 w5 ho5 hgr5 hat5; have hb5 : Below w2'.heap.size w2' w5 := ((Below.refl _ _).trans hbl).grown hgr5 (by rw [hwl]; simp) (fun k hk => (hol.lt k hk).1); have hr5 := hr1.under hb5; have t0 := hr5.cell 0 _ rfl; have t1 := hr5.free 0; have t2 := hr5.lt; obtain ⟨a5, c5, hv5⟩ : ∃ a5 c5, v5 = .slice a5 n c5 := own_slice (by rw [Nat.zero_add] at ho5; exact ho5); subst hv5)
    exact bodyPost_ret (v := .tuple #[.agg #[.slice a5 n c5], .bool false]) (by simp [results, Tryd.results9, go_sem, *]) rfl (HNO.out w5 a5 c5 HOF.out (bthen hb2 hb5))
  rw [hW]
  by_cases h60 : n = 60
  · have HOF : Hid (okI l p tw = false) := by unfold Hid okI; rw [HX.out, h60]; simp
    have h61 : decide ((n : Int) = 60) = true := decide_eq_true (by omega)
    have h62 : (n : Int) = 60 := by omega
    clear h60
    obtain ⟨wl, hwl⟩ : ∃ x, x = w2'.alloc (.cells #[] 36) := ⟨_, rfl⟩
    have hbl : Below w2'.heap.size w2' wl := by rw [hwl]; exact (Below.refl _ _).alloc (Nat.le_refl _) _
    have hol : wl.ownsRow w2'.heap.size 36 4 (.slice (some ⟨w2'.heap.size, 0, none⟩) 0 0) 0 [] := by rw [hwl]; exact World.ownsRow_lit w2' #[] 0 (Nat.le_refl _) (by decide) rfl
    have hrl := hr1.under hbl
    have hml := hm1.under hbl
    have u0 := hml.2 0 _ rfl
    rw [hwl] at u0
    have HSR : Hid (Src Tryd.prog 4 24 (.slice a n c) n (flatN l) wl) := Src.nds Tryd.underlying24 HX.out (HL.out.below rNode_good (bthen hb2 hbl)).2.2
    go_wp2_with (at_builtin; rw [← hwl]; refine wpList_app rfl _ _ 24 24 rfl w2'.heap.size 36 iN (.agg #[.string ⟨#[]⟩, .string ⟨#[]⟩, .bool false, .int .i64 0]) 4 48 Tryd.underlying24 HI.out.1 HI.out.2.1 HI.out.2.2.1 HI.out.2.2.2 rfl _ _ _ rfl hol _ rfl n (flatN l) HSR.out (by unfold maxLen; omega) (by omega) (by rw [hwl]; simp) ?_; intro v5 w5 ho5 hgr5 hat5; have hb5 : Below w2'.heap.size w2' w5 := ((Below.refl _ _).trans hbl).grown hgr5 (by rw [hwl]; simp) (fun k hk => (hol.lt k hk).1); have hr5 := hr1.under hb5; have t0 := hr5.cell 0 _ rfl; have t1 := hr5.free 0; have t2 := hr5.lt; obtain ⟨a5, c5, hv5⟩ : ∃ a5 c5, v5 = .slice a5 n c5 := own_slice (by rw [Nat.zero_add] at ho5; exact ho5); subst hv5)
    exact bodyPost_ret (v := .tuple #[.agg #[.slice a5 n c5], .bool false]) (by simp [results, Tryd.results9, go_sem, *]) rfl (HNO.out w5 a5 c5 HOF.out (bthen hb2 hb5))
  have HOT : Hid (okI l p tw = true) := by unfold Hid okI; rw [hM, hP, hW, HX.out, decide_eq_true h60]; rfl
  have h61 : ¬ (n : Int) = 60 := by omega
  have h62 : decide ((n : Int) = 60) = false := decide_eq_false h61
  have hC := placeFor_any a c l p.fKey w2' (by have h := HRM.out _ hb2; rw [← HX.out] at h; exact h) HWW.out (by omega) (HTB.out _ hb2) hM
  rw [HX.out] at hC
  have HPN1 := Hid.mk (fun hk e => putN_same (l := l) (p := p) (tw := tw) hk e)
  have HPN2 := Hid.mk (fun h => putN_new (l := l) (p := p) (tw := tw) h)
  have hkn : lessN l p.fKey ≤ n := by rw [← HX.out]; exact lessN_le _ _
  have HTWS : Hid (∀ x, x ∈ l → (Lit.int .i64 x.fTower).wf = true) := fun x hx => by
    have := (memOk_iff.1 hM).2.1 x hx
    exact wfT4 (of_decide_eq_true this.2).1 (of_decide_eq_true this.2).2
  clear hM hP hW
  generalize lessN l p.fKey = k at *
  go_wp2_with fail
  refine hC.mono ?_
  rintro e w3 ⟨rfl, hx3⟩
  have hb3 := bthen hb2 hx3
  have hb03 := bthen hb02 hx3
  clear m0 q0 q1 q2 s0 s1 s2 s3 s4 hm1 hq1 hr1 hC h61 h62
  obtain ⟨hm1, hq1, hr1⟩ := HBX.out _ hb03
  have m0 : ∀ W, Below w3.heap.size w3 W → W.cell? ⟨w.heap.size, 0, none⟩ = some (.slice a n c) := fun W h => (hm1.under h).2 0 _ rfl
  have HLc := Hid.mk ((HL.out.below rNode_good hb3).mono rNode_good hb3.size)
  have hcn : n ≤ c := by have h := HLc.out.1; rw [HX.out] at h; exact h
  have hcm : c ≤ 9223372036854775807 := HLc.out.2.1
  have hk0 : (0 : Int) ≤ (k : Int) := by omega
  have hk1 : (k : Int) ≤ (n : Int) := by omega
  have hk2 : (k : Int) ≤ (c : Int) := by omega
  have hk3 : (n : Int) ≤ (c : Int) := by omega
  have H1 : Hid ((l.take k).length = k) := by unfold Hid; rw [List.length_take, HX.out]; omega
  have H2 : Hid ((l.drop k).length = n - k) := by unfold Hid; rw [List.length_drop, HX.out]
  go_wp2_with fail
  go_cut [9, 10] (fun av bv wx => ∃ (a1 a2 : Option Addr) (c1 c2 : Nat), av = .slice a1 k c1 ∧ bv = .slice a2 (n - k) c2 ∧ Hid (LeafL 4 rNode w3.heap.size w3 a1 c1 (l.take k)) ∧ Hid (LeafL 4 rNode w3.heap.size w3 a2 c2 (l.drop k)) ∧ Below w3.heap.size w3 wx)
  case first =>
    cases a with
    | none =>
      have hn00 : n = 0 := by
        by_cases h : n = 0
        · exact h
        · obtain ⟨_, _, h1, _⟩ := HL.out.2.2 0 (by rw [HX.out]; omega)
          cases h1
      have hp00 : k = 0 := by omega
      subst hn00
      subst hp00
      have hl00 : l = [] := List.eq_nil_of_length_eq_zero HX.out
      have HL1 : Hid (LeafL 4 rNode w3.heap.size w3 none c (l.take 0)) := by unfold Hid; rw [hl00]; rw [hl00] at HLc; exact HLc.out
      have HL2 : Hid (LeafL 4 rNode w3.heap.size w3 none c (l.drop 0)) := by unfold Hid; rw [hl00]; rw [hl00] at HLc; exact HLc.out
      clear hl00
      refine wp_region_held_drew (S := fun W => Below w3.heap.size w3 W) (by kernel_rfl) (Below.drew (Below.refl _ _)) (fun hHeld => ?_)
      refine tk 0 qb4a_9_4_0 (some 39) (v := ?v1) rfl rfl (by kernel_rfl) hHeld (by rfl) (fun _ _ _ x => x) (fun w h => ?y1) ?_; (case y1 => (try dsimp only at h); go_simp; try (with_reducible rfl)); try simp only [Act.put, sa, s0, s1]
      refine tk 1 qb4a_9_4_1 (some 40) (v := ?v2) rfl rfl (by kernel_rfl) hHeld (by rfl) (fun _ _ _ x => x) (fun w h => ?y2) ?_; (case y2 => (try dsimp only at h); go_simp; try (with_reducible rfl)); try simp only [Act.put, sa, s0, s1]
      refine tk 2 qb4a_9_4_2 (some 41) (v := ?v3) rfl rfl (by kernel_rfl) hHeld (by rfl) (fun _ _ _ x => x) (fun w h => ?y3) ?_; (case y3 => (try dsimp only at h); go_simp; try (with_reducible rfl)); try simp only [Act.put, sa, s0, s1]
      refine tk 3 qb4a_9_4_3 (some 42) (v := ?v4) rfl rfl (by kernel_rfl) hHeld (by rfl) (fun _ _ _ x => x) (fun w h => ?y4) ?_; (case y4 => (try dsimp only at h); go_simp; try (with_reducible rfl)); try simp only [Act.put, sa, s0, s1]
      refine tk 4 qb4a_9_4_4 (some 43) (v := ?v5) rfl rfl (by kernel_rfl) hHeld (by rfl) (fun _ _ _ x => x) (fun w h => ?y5) ?_; (case y5 => (try dsimp only at h); go_simp; try (with_reducible rfl)); try simp only [Act.put, sa, s0, s1]
      refine tk 5 qb4a_9_4_5 (some 44) (v := ?v6) rfl rfl (by kernel_rfl) hHeld (by rfl) (fun _ _ _ x => x) (fun w h => ?y6) ?_; (case y6 => (try dsimp only at h); go_simp; try (with_reducible rfl)); try simp only [Act.put, sa, s0, s1]
      refine tk 6 qb4a_9_4_6 (some 45) (v := ?v7) rfl rfl (by kernel_rfl) hHeld (by rfl) (fun _ _ _ x => x) (fun w h => ?y7) ?_; (case y7 => (try dsimp only at h); go_simp; try (with_reducible rfl)); try simp only [Act.put, sa, s0, s1]
      refine tk 7 qb4a_9_4_7 (some 46) (v := ?v8) rfl rfl (by kernel_rfl) hHeld (by rfl) (fun _ _ _ x => x) (fun w h => ?y8) ?_; (case y8 => (try dsimp only at h); go_simp; try (with_reducible rfl)); try simp only [Act.put, sa, s0, s1]
      refine tk 8 qb4a_9_4_8 (some 9) (v := ?v9) rfl rfl (by kernel_rfl) hHeld (by rfl) (fun _ _ _ x => x) (fun w h => ?y9) ?_; (case y9 => (try dsimp only at h); go_simp; try (with_reducible rfl)); try simp only [Act.put, sa, s0, s1]
      refine tk 9 qb4a_9_4_9 (some 10) (v := ?v10) rfl rfl (by kernel_rfl) hHeld (by rfl) (fun _ _ _ x => x) (fun w h => ?y10) ?_; (case y10 => (try dsimp only at h); go_simp; try (with_reducible rfl)); try simp only [Act.put, sa, s0, s1]
      refine wpAnyH_done (by kernel_rfl) ?_ _
      try go_wp2_with fail
      go_meet
      case rel => exact ⟨_, _, _, _, rfl, rfl, HL1, HL2, hHeld⟩
    | some ad =>
      by_cases hn00 : n = 0
      · have hp00 : k = 0 := by omega
        subst hn00
        subst hp00
        have hl00 : l = [] := List.eq_nil_of_length_eq_zero HX.out
        have HL1 : Hid (LeafL 4 rNode w3.heap.size w3 (some ad) c (l.take 0)) := by unfold Hid; rw [hl00]; rw [hl00] at HLc; exact HLc.out
        have HL2 : Hid (LeafL 4 rNode w3.heap.size w3 (some ad) c (l.drop 0)) := by unfold Hid; rw [hl00]; rw [hl00] at HLc; exact HLc.out
        clear hl00
        have hadd : ad.add 0 = ad := rfl
        refine wp_region_held_drew (S := fun W => Below w3.heap.size w3 W) (by kernel_rfl) (Below.drew (Below.refl _ _)) (fun hHeld => ?_)
        refine tk 0 qb4a_9_4_0 (some 39) (v := ?v11) rfl rfl (by kernel_rfl) hHeld (by rfl) (fun _ _ _ x => x) (fun w h => ?y11) ?_; (case y11 => (try dsimp only at h); go_simp; try (with_reducible rfl)); try simp only [Act.put, sa, s0, s1]
        refine tk 1 qb4a_9_4_1 (some 40) (v := ?v12) rfl rfl (by kernel_rfl) hHeld (by rfl) (fun _ _ _ x => x) (fun w h => ?y12) ?_; (case y12 => (try dsimp only at h); go_simp; try (with_reducible rfl)); try simp only [Act.put, sa, s0, s1]
        refine tk 2 qb4a_9_4_2 (some 41) (v := ?v13) rfl rfl (by kernel_rfl) hHeld (by rfl) (fun _ _ _ x => x) (fun w h => ?y13) ?_; (case y13 => (try dsimp only at h); go_simp; try (with_reducible rfl)); try simp only [Act.put, sa, s0, s1]
        refine tk 3 qb4a_9_4_3 (some 42) (v := ?v14) rfl rfl (by kernel_rfl) hHeld (by rfl) (fun _ _ _ x => x) (fun w h => ?y14) ?_; (case y14 => (try dsimp only at h); go_simp; try (with_reducible rfl)); try simp only [Act.put, sa, s0, s1]
        refine tk 4 qb4a_9_4_4 (some 43) (v := ?v15) rfl rfl (by kernel_rfl) hHeld (by rfl) (fun _ _ _ x => x) (fun w h => ?y15) ?_; (case y15 => (try dsimp only at h); go_simp; try (with_reducible rfl)); try simp only [Act.put, sa, s0, s1]
        refine tk 5 qb4a_9_4_5 (some 44) (v := ?v16) rfl rfl (by kernel_rfl) hHeld (by rfl) (fun _ _ _ x => x) (fun w h => ?y16) ?_; (case y16 => (try dsimp only at h); go_simp; try (with_reducible rfl)); try simp only [Act.put, sa, s0, s1]
        refine tk 6 qb4a_9_4_6 (some 45) (v := ?v17) rfl rfl (by kernel_rfl) hHeld (by rfl) (fun _ _ _ x => x) (fun w h => ?y17) ?_; (case y17 => (try dsimp only at h); go_simp; try (with_reducible rfl)); try simp only [Act.put, sa, s0, s1]
        refine tk 7 qb4a_9_4_7 (some 46) (v := ?v18) rfl rfl (by kernel_rfl) hHeld (by rfl) (fun _ _ _ x => x) (fun w h => ?y18) ?_; (case y18 => (try dsimp only at h); go_simp; try (with_reducible rfl)); try simp only [Act.put, sa, s0, s1]
        refine tk 8 qb4a_9_4_8 (some 9) (v := ?v19) rfl rfl (by kernel_rfl) hHeld (by rfl) (fun _ _ _ x => x) (fun w h => ?y19) ?_; (case y19 => (try dsimp only at h); go_simp; try (with_reducible rfl)); try simp only [Act.put, sa, s0, s1]
        refine tk 9 qb4a_9_4_9 (some 10) (v := ?v20) rfl rfl (by kernel_rfl) hHeld (by rfl) (fun _ _ _ x => x) (fun w h => ?y20) ?_; (case y20 => (try dsimp only at h); go_simp; try (with_reducible rfl)); try simp only [Act.put, sa, s0, s1]
        refine wpAnyH_done (by kernel_rfl) ?_ _
        try go_wp2_with fail
        go_meet
        case rel => exact ⟨_, _, _, _, rfl, rfl, HL1, HL2, hHeld⟩
      obtain ⟨b0, o0, had, _⟩ := HLc.out.2.2 0 (by rw [HX.out]; omega)
      simp only [Option.some.injEq] at had
      subst had
      have HL1 : Hid (LeafL 4 rNode w3.heap.size w3 (some ⟨b0, o0, none⟩) c (l.take k)) := by
        have h := LeafL.part HLc.out (f := 0) (m := k) (c' := c) (by rw [HX.out]; omega) (by omega) hcm
        unfold Hid
        simpa using h
      by_cases hcp : c = k
      · have hnp : n = k := by omega
        subst hcp
        subst hnp
        have HL2 : Hid (LeafL 4 rNode w3.heap.size w3 (some ⟨b0, o0, none⟩) 0 (l.drop n)) := by
          have h : l.drop n = [] := List.drop_of_length_le (by rw [HX.out]; omega)
          unfold Hid
          rw [h]
          exact ⟨Nat.zero_le _, by omega, fun j hj => by simp at hj⟩
        refine wp_region_held_drew (S := fun W => Below w3.heap.size w3 W) (by kernel_rfl) (Below.drew (Below.refl _ _)) (fun hHeld => ?_)
        refine tk 0 qb4a_9_4_0 (some 39) (v := ?v21) rfl rfl (by kernel_rfl) hHeld (by rfl) (fun _ _ _ x => x) (fun w h => ?y21) ?_; (case y21 => (try dsimp only at h); go_simp; try (with_reducible rfl)); try simp only [Act.put, sa, s0, s1]
        refine tk 1 qb4a_9_4_1 (some 40) (v := ?v22) rfl rfl (by kernel_rfl) hHeld (by rfl) (fun _ _ _ x => x) (fun w h => ?y22) ?_; (case y22 => (try dsimp only at h); go_simp; try (with_reducible rfl)); try simp only [Act.put, sa, s0, s1]
        refine tk 2 qb4a_9_4_2 (some 41) (v := ?v23) rfl rfl (by kernel_rfl) hHeld (by rfl) (fun _ _ _ x => x) (fun w h => ?y23) ?_; (case y23 => (try dsimp only at h); go_simp; try (with_reducible rfl)); try simp only [Act.put, sa, s0, s1]
        refine tk 3 qb4a_9_4_3 (some 42) (v := ?v24) rfl rfl (by kernel_rfl) hHeld (by rfl) (fun _ _ _ x => x) (fun w h => ?y24) ?_; (case y24 => (try dsimp only at h); go_simp; try (with_reducible rfl)); try simp only [Act.put, sa, s0, s1]
        refine tk 4 qb4a_9_4_4 (some 43) (v := ?v25) rfl rfl (by kernel_rfl) hHeld (by rfl) (fun _ _ _ x => x) (fun w h => ?y25) ?_; (case y25 => (try dsimp only at h); go_simp; try (with_reducible rfl)); try simp only [Act.put, sa, s0, s1]
        refine tk 5 qb4a_9_4_5 (some 44) (v := ?v26) rfl rfl (by kernel_rfl) hHeld (by rfl) (fun _ _ _ x => x) (fun w h => ?y26) ?_; (case y26 => (try dsimp only at h); go_simp; try (with_reducible rfl)); try simp only [Act.put, sa, s0, s1]
        refine tk 6 qb4a_9_4_6 (some 45) (v := ?v27) rfl rfl (by kernel_rfl) hHeld (by rfl) (fun _ _ _ x => x) (fun w h => ?y27) ?_; (case y27 => (try dsimp only at h); go_simp; try (with_reducible rfl)); try simp only [Act.put, sa, s0, s1]
        refine tk 7 qb4a_9_4_7 (some 46) (v := ?v28) rfl rfl (by kernel_rfl) hHeld (by rfl) (fun _ _ _ x => x) (fun w h => ?y28) ?_; (case y28 => (try dsimp only at h); go_simp; try (with_reducible rfl)); try simp only [Act.put, sa, s0, s1]
        refine tk 8 qb4a_9_4_8 (some 9) (v := ?v29) rfl rfl (by kernel_rfl) hHeld (by rfl) (fun _ _ _ x => x) (fun w h => ?y29) ?_; (case y29 => (try dsimp only at h); go_simp; try (with_reducible rfl)); try simp only [Act.put, sa, s0, s1]
        refine tk 9 qb4a_9_4_9 (some 10) (v := ?v30) rfl rfl (by kernel_rfl) hHeld (by rfl) (fun _ _ _ x => x) (fun w h => ?y30) ?_; (case y30 => (try dsimp only at h); go_simp; try (with_reducible rfl)); try simp only [Act.put, sa, s0, s1]
        refine wpAnyH_done (by kernel_rfl) ?_ _
        try go_wp2_with fail
        go_meet
        case rel => exact ⟨_, _, _, _, rfl, by simp, HL1, HL2, hHeld⟩
      · have HL2 : Hid (LeafL 4 rNode w3.heap.size w3 (some ⟨b0, o0 + k * 4, none⟩) (c - k) (l.drop k)) := by
          have h := LeafL.part HLc.out (f := k) (m := n - k) (c' := c - k) (by rw [HX.out]; omega) (by omega) (by omega)
          rw [List.take_of_length_le (by rw [List.length_drop, HX.out]; omega)] at h
          exact h
        have hcp2 : decide (c = k) = false := decide_eq_false hcp
        have hcp3 : (c == k) = false := beq_eq_false_iff_ne.2 hcp
        refine wp_region_held_drew (S := fun W => Below w3.heap.size w3 W) (by kernel_rfl) (Below.drew (Below.refl _ _)) (fun hHeld => ?_)
        refine tk 0 qb4a_9_4_0 (some 39) (v := ?v31) rfl rfl (by kernel_rfl) hHeld (by rfl) (fun _ _ _ x => x) (fun w h => ?y31) ?_; (case y31 => (try dsimp only at h); go_simp; try (with_reducible rfl)); try simp only [Act.put, sa, s0, s1]
        refine tk 1 qb4a_9_4_1 (some 40) (v := ?v32) rfl rfl (by kernel_rfl) hHeld (by rfl) (fun _ _ _ x => x) (fun w h => ?y32) ?_; (case y32 => (try dsimp only at h); go_simp; try (with_reducible rfl)); try simp only [Act.put, sa, s0, s1]
        refine tk 2 qb4a_9_4_2 (some 41) (v := ?v33) rfl rfl (by kernel_rfl) hHeld (by rfl) (fun _ _ _ x => x) (fun w h => ?y33) ?_; (case y33 => (try dsimp only at h); go_simp; try (with_reducible rfl)); try simp only [Act.put, sa, s0, s1]
        refine tk 3 qb4a_9_4_3 (some 42) (v := ?v34) rfl rfl (by kernel_rfl) hHeld (by rfl) (fun _ _ _ x => x) (fun w h => ?y34) ?_; (case y34 => (try dsimp only at h); go_simp; try (with_reducible rfl)); try simp only [Act.put, sa, s0, s1]
        refine tk 4 qb4a_9_4_4 (some 43) (v := ?v35) rfl rfl (by kernel_rfl) hHeld (by rfl) (fun _ _ _ x => x) (fun w h => ?y35) ?_; (case y35 => (try dsimp only at h); go_simp; try (with_reducible rfl)); try simp only [Act.put, sa, s0, s1]
        refine tk 5 qb4a_9_4_5 (some 44) (v := ?v36) rfl rfl (by kernel_rfl) hHeld (by rfl) (fun _ _ _ x => x) (fun w h => ?y36) ?_; (case y36 => (try dsimp only at h); go_simp; try (with_reducible rfl)); try simp only [Act.put, sa, s0, s1]
        refine tk 6 qb4a_9_4_6 (some 45) (v := ?v37) rfl rfl (by kernel_rfl) hHeld (by rfl) (fun _ _ _ x => x) (fun w h => ?y37) ?_; (case y37 => (try dsimp only at h); go_simp; try (with_reducible rfl)); try simp only [Act.put, sa, s0, s1]
        refine tk 7 qb4a_9_4_7 (some 46) (v := ?v38) rfl rfl (by kernel_rfl) hHeld (by rfl) (fun _ _ _ x => x) (fun w h => ?y38) ?_; (case y38 => (try dsimp only at h); go_simp; try (with_reducible rfl)); try simp only [Act.put, sa, s0, s1]
        refine tk 8 qb4a_9_4_8 (some 9) (v := ?v39) rfl rfl (by kernel_rfl) hHeld (by rfl) (fun _ _ _ x => x) (fun w h => ?y39) ?_; (case y39 => (try dsimp only at h); go_simp; try (with_reducible rfl)); try simp only [Act.put, sa, s0, s1]
        refine tk 9 qb4a_9_4_9 (some 10) (v := ?v40) rfl rfl (by kernel_rfl) hHeld (by rfl) (fun _ _ _ x => x) (fun w h => ?y40) ?_; (case y40 => (try dsimp only at h); go_simp; try (with_reducible rfl)); try simp only [Act.put, sa, s0, s1]
        refine wpAnyH_done (by kernel_rfl) ?_ _
        try go_wp2_with fail
        go_meet
        case rel => exact ⟨_, _, _, _, rfl, rfl, HL1, HL2, hHeld⟩
  case rest =>
    obtain ⟨a1, a2, c1, c2, rfl, rfl, HL1, HL2, hx4⟩ := hcut
    generalize wc = w4 at *
    have hb4 := bthen hb3 hx4
    have hb04 := bthen hb03 hx4
    obtain ⟨hm4, hq4, hr4⟩ := HBX.out _ hb04
    have HLA : Hid (∀ W, Below w4.heap.size w4 W → LeafL 4 rNode W.heap.size W a1 c1 (l.take k)) := fun W h => LeafL.mono rNode_good (HL1.out.below rNode_good (bthen hx4 h)) (bthen hx4 h).size
    have HLB : Hid (∀ W, Below w4.heap.size w4 W → LeafL 4 rNode W.heap.size W a2 c2 (l.drop k)) := fun W h => LeafL.mono rNode_good (HL2.out.below rNode_good (bthen hx4 h)) (bthen hx4 h).size
    have u0 : ∀ W, Below w4.heap.size w4 W → W.cell? ⟨w.heap.size + 1, 0, none⟩ = some (.string p.fKey) := fun W h => (hq4.under h).2 0 _ rfl
    clear HL1 HL2 hx4 m0 hm1 hq1 hr1 HLc
    go_wp2_with fail
    go_cut [59] (fun bv wx => ∃ B : Bool, bv = .bool B ∧ Hid (IsAt l k p B) ∧ Below w4.heap.size w4 wx)
    case first =>
      by_cases hkn2 : k < n
      · have hkl : k < l.length := by rw [HX.out]; exact hkn2
        have hdl : 0 < (l.drop k).length := by rw [H2.out]; omega
        obtain ⟨b1, o1, ha2, hB1, cs, hcl, hcell, hrn⟩ := (HLB.out w4 (Below.refl _ _)).2.2 0 hdl
        have he0 : (l.drop k)[0] = l[k] := by simp
        rw [he0] at hrn
        obtain ⟨rfl, _⟩ := hrn
        subst ha2
        have k0 := hcell 0 _ rfl
        simp only [Nat.zero_mul, Nat.add_zero] at k0
        have f0 : ∀ W, Below w4.heap.size w4 W → W.cell? ⟨b1, o1, none⟩ = some (.string l[k].fP.fKey) := fun W h => (h.cell (p := ⟨b1, o1, none⟩) hB1).trans k0
        have hnk1 : (0 : Int) < ((n - k : Nat) : Int) := by omega
        have hnk2 : decide ((0 : Int) < ((n - k : Nat) : Int)) = true := decide_eq_true hnk1
        have hnk3 : 0 < n - k := by omega
        clear hcell hcl k0 he0 hdl
        by_cases he : l[k].fP.fKey = p.fKey
        · have HBB : Hid (IsAt l k p true) := ⟨fun _ => ⟨hkl, he⟩, fun _ => rfl⟩
          rw [he] at f0
          have hkq : (p.fKey.toList == p.fKey.toList) = true := k_same rfl
          clear he
          refine wp_region_held_drew (S := fun W => Below w4.heap.size w4 W) (by kernel_rfl) (Below.drew (Below.refl _ _)) (fun hHeld => ?_)
          refine tk 0 qb4a_9_5_0 (some 47) (v := ?v41) rfl rfl (by kernel_rfl) hHeld (by rfl) (fun _ _ _ x => x) (fun w h => ?y41) ?_; (case y41 => (try dsimp only at h); go_simp; try (with_reducible rfl)); try simp only [Act.put, sa, s0, s1]
          refine tk 1 qb4a_9_5_1 (some 48) (v := ?v42) rfl rfl (by kernel_rfl) hHeld (by rfl) (fun _ _ _ x => x) (fun w h => ?y42) ?_; (case y42 => (try dsimp only at h); go_simp; try (with_reducible rfl)); try simp only [Act.put, sa, s0, s1]
          refine tk 2 qb4a_9_5_2 (some 49) (v := ?v43) rfl rfl (by kernel_rfl) hHeld (by rfl) (fun _ _ _ x => x) (fun w h => ?y43) ?_; (case y43 => (try dsimp only at h); go_simp; try (with_reducible rfl)); try simp only [Act.put, sa, s0, s1]
          refine tk 3 qb4a_9_5_3 (some 50) (v := ?v44) rfl rfl (by kernel_rfl) hHeld (by rfl) (fun _ _ _ x => x) (fun w h => ?y44) ?_; (case y44 => (try dsimp only at h); go_simp; try (with_reducible rfl)); try simp only [Act.put, sa, s0, s1]
          refine tk 4 qb4a_9_5_4 (some 51) (v := ?v45) rfl rfl (by kernel_rfl) hHeld (by rfl) (fun _ _ _ x => x) (fun w h => ?y45) ?_; (case y45 => (try dsimp only at h); go_simp; try (with_reducible rfl)); try simp only [Act.put, sa, s0, s1]
          refine tk 5 qb4a_9_5_5 (some 52) (v := ?v46) rfl rfl (by kernel_rfl) hHeld (by rfl) (fun _ _ _ x => x) (fun w h => ?y46) ?_; (case y46 => (try dsimp only at h); go_simp; try (with_reducible rfl)); try simp only [Act.put, sa, s0, s1]
          refine tk 6 qb4a_9_5_6 (some 53) (v := ?v47) rfl rfl (by kernel_rfl) hHeld (by rfl) (fun _ _ _ x => x) (fun w h => ?y47) ?_; (case y47 => (try dsimp only at h); go_simp; try (with_reducible rfl)); try simp only [Act.put, sa, s0, s1]
          refine tk 7 qb4a_9_5_7 (some 54) (v := ?v48) rfl rfl (by kernel_rfl) hHeld (by rfl) (fun _ _ _ x => x) (fun w h => ?y48) ?_; (case y48 => (try dsimp only at h); go_simp; try (with_reducible rfl)); try simp only [Act.put, sa, s0, s1]
          refine tk 8 qb4a_9_5_8 (some 55) (v := ?v49) rfl rfl (by kernel_rfl) hHeld (by rfl) (fun _ _ _ x => x) (fun w h => ?y49) ?_; (case y49 => (try dsimp only at h); go_simp; try (with_reducible rfl)); try simp only [Act.put, sa, s0, s1]
          refine tk 9 qb4a_9_5_9 (some 56) (v := ?v50) rfl rfl (by kernel_rfl) hHeld (by rfl) (fun _ _ _ x => x) (fun w h => ?y50) ?_; (case y50 => (try dsimp only at h); go_simp; try (with_reducible rfl)); try simp only [Act.put, sa, s0, s1]
          refine tk 10 qb4a_9_5_10 (some 57) (v := ?v51) rfl rfl (by kernel_rfl) hHeld (by rfl) (fun _ _ _ x => x) (fun w h => ?y51) ?_; (case y51 => (try dsimp only at h); go_simp; try (with_reducible rfl)); try simp only [Act.put, sa, s0, s1]
          refine tk 11 qb4a_9_5_11 (some 58) (v := ?v52) rfl rfl (by kernel_rfl) hHeld (by rfl) (fun _ _ _ x => x) (fun w h => ?y52) ?_; (case y52 => (try dsimp only at h); go_simp; try (with_reducible rfl)); try simp only [Act.put, sa, s0, s1]
          refine tk 12 qb4a_9_5_12 (some 59) (v := ?v53) rfl rfl (by kernel_rfl) hHeld (by rfl) (fun _ _ _ x => x) (fun w h => ?y53) ?_; (case y53 => (try dsimp only at h); go_simp; try (with_reducible rfl)); try simp only [Act.put, sa, s0, s1]
          refine wpAnyH_done (by kernel_rfl) ?_ _
          try go_wp2_with fail
          go_meet
          case rel => exact ⟨true, rfl, HBB, hHeld⟩
        · have HBB : Hid (IsAt l k p false) := ⟨(fun h => by cases h), (fun ⟨_, h⟩ => absurd h he)⟩
          have hkq : (l[k].fP.fKey.toList == p.fKey.toList) = false := k_ne he
          generalize l[k].fP.fKey = ky at *
          clear he
          refine wp_region_held_drew (S := fun W => Below w4.heap.size w4 W) (by kernel_rfl) (Below.drew (Below.refl _ _)) (fun hHeld => ?_)
          refine tk 0 qb4a_9_5_0 (some 47) (v := ?v54) rfl rfl (by kernel_rfl) hHeld (by rfl) (fun _ _ _ x => x) (fun w h => ?y54) ?_; (case y54 => (try dsimp only at h); go_simp; try (with_reducible rfl)); try simp only [Act.put, sa, s0, s1]
          refine tk 1 qb4a_9_5_1 (some 48) (v := ?v55) rfl rfl (by kernel_rfl) hHeld (by rfl) (fun _ _ _ x => x) (fun w h => ?y55) ?_; (case y55 => (try dsimp only at h); go_simp; try (with_reducible rfl)); try simp only [Act.put, sa, s0, s1]
          refine tk 2 qb4a_9_5_2 (some 49) (v := ?v56) rfl rfl (by kernel_rfl) hHeld (by rfl) (fun _ _ _ x => x) (fun w h => ?y56) ?_; (case y56 => (try dsimp only at h); go_simp; try (with_reducible rfl)); try simp only [Act.put, sa, s0, s1]
          refine tk 3 qb4a_9_5_3 (some 50) (v := ?v57) rfl rfl (by kernel_rfl) hHeld (by rfl) (fun _ _ _ x => x) (fun w h => ?y57) ?_; (case y57 => (try dsimp only at h); go_simp; try (with_reducible rfl)); try simp only [Act.put, sa, s0, s1]
          refine tk 4 qb4a_9_5_4 (some 51) (v := ?v58) rfl rfl (by kernel_rfl) hHeld (by rfl) (fun _ _ _ x => x) (fun w h => ?y58) ?_; (case y58 => (try dsimp only at h); go_simp; try (with_reducible rfl)); try simp only [Act.put, sa, s0, s1]
          refine tk 5 qb4a_9_5_5 (some 52) (v := ?v59) rfl rfl (by kernel_rfl) hHeld (by rfl) (fun _ _ _ x => x) (fun w h => ?y59) ?_; (case y59 => (try dsimp only at h); go_simp; try (with_reducible rfl)); try simp only [Act.put, sa, s0, s1]
          refine tk 6 qb4a_9_5_6 (some 53) (v := ?v60) rfl rfl (by kernel_rfl) hHeld (by rfl) (fun _ _ _ x => x) (fun w h => ?y60) ?_; (case y60 => (try dsimp only at h); go_simp; try (with_reducible rfl)); try simp only [Act.put, sa, s0, s1]
          refine tk 7 qb4a_9_5_7 (some 54) (v := ?v61) rfl rfl (by kernel_rfl) hHeld (by rfl) (fun _ _ _ x => x) (fun w h => ?y61) ?_; (case y61 => (try dsimp only at h); go_simp; try (with_reducible rfl)); try simp only [Act.put, sa, s0, s1]
          refine tk 8 qb4a_9_5_8 (some 55) (v := ?v62) rfl rfl (by kernel_rfl) hHeld (by rfl) (fun _ _ _ x => x) (fun w h => ?y62) ?_; (case y62 => (try dsimp only at h); go_simp; try (with_reducible rfl)); try simp only [Act.put, sa, s0, s1]
          refine tk 9 qb4a_9_5_9 (some 56) (v := ?v63) rfl rfl (by kernel_rfl) hHeld (by rfl) (fun _ _ _ x => x) (fun w h => ?y63) ?_; (case y63 => (try dsimp only at h); go_simp; try (with_reducible rfl)); try simp only [Act.put, sa, s0, s1]
          refine tk 10 qb4a_9_5_10 (some 57) (v := ?v64) rfl rfl (by kernel_rfl) hHeld (by rfl) (fun _ _ _ x => x) (fun w h => ?y64) ?_; (case y64 => (try dsimp only at h); go_simp; try (with_reducible rfl)); try simp only [Act.put, sa, s0, s1]
          refine tk 11 qb4a_9_5_11 (some 58) (v := ?v65) rfl rfl (by kernel_rfl) hHeld (by rfl) (fun _ _ _ x => x) (fun w h => ?y65) ?_; (case y65 => (try dsimp only at h); go_simp; try (with_reducible rfl)); try simp only [Act.put, sa, s0, s1]
          refine tk 12 qb4a_9_5_12 (some 59) (v := ?v66) rfl rfl (by kernel_rfl) hHeld (by rfl) (fun _ _ _ x => x) (fun w h => ?y66) ?_; (case y66 => (try dsimp only at h); go_simp; try (with_reducible rfl)); try simp only [Act.put, sa, s0, s1]
          refine wpAnyH_done (by kernel_rfl) ?_ _
          try go_wp2_with fail
          go_meet
          case rel => exact ⟨false, rfl, HBB, hHeld⟩
      · have HBB : Hid (IsAt l k p false) := ⟨(fun h => by cases h), (fun ⟨h, _⟩ => absurd h (by rw [HX.out]; omega))⟩
        have hv1 : decide ((0 : Int) < ((n - k : Nat) : Int)) = false := decide_eq_false (by omega)
        have hv2 : decide (0 < n - k) = false := decide_eq_false (by omega)
        have hv3 : decide (k < n) = false := decide_eq_false (by omega)
        have hv4 : ¬ (0 : Int) < ((n - k : Nat) : Int) := by omega
        have hv5 : ¬ 0 < n - k := by omega
        refine wp_region_held_drew (S := fun W => Below w4.heap.size w4 W) (by kernel_rfl) (Below.drew (Below.refl _ _)) (fun hHeld => ?_)
        refine tk 0 qb4a_9_5_0 (some 47) (v := ?v67) rfl rfl (by kernel_rfl) hHeld (by rfl) (fun _ _ _ x => x) (fun w h => ?y67) ?_; (case y67 => (try dsimp only at h); go_simp; try (with_reducible rfl)); try simp only [Act.put, sa, s0, s1]
        refine tk 1 qb4a_9_5_1 (some 48) (v := ?v68) rfl rfl (by kernel_rfl) hHeld (by rfl) (fun _ _ _ x => x) (fun w h => ?y68) ?_; (case y68 => (try dsimp only at h); go_simp; try (with_reducible rfl)); try simp only [Act.put, sa, s0, s1]
        refine tk 2 qb4a_9_5_2 (some 49) (v := ?v69) rfl rfl (by kernel_rfl) hHeld (by rfl) (fun _ _ _ x => x) (fun w h => ?y69) ?_; (case y69 => (try dsimp only at h); go_simp; try (with_reducible rfl)); try simp only [Act.put, sa, s0, s1]
        refine tk 3 qb4a_9_5_3 (some 50) (v := ?v70) rfl rfl (by kernel_rfl) hHeld (by rfl) (fun _ _ _ x => x) (fun w h => ?y70) ?_; (case y70 => (try dsimp only at h); go_simp; try (with_reducible rfl)); try simp only [Act.put, sa, s0, s1]
        refine tn 4 qb4a_9_5_4 (some 51) rfl rfl (by kernel_rfl) hHeld (by rfl) (fun _ _ _ x => x) ?_; try simp only [Act.put, sa, s0, s1]
        refine tn 5 qb4a_9_5_5 (some 52) rfl rfl (by kernel_rfl) hHeld (by rfl) (fun _ _ _ x => x) ?_; try simp only [Act.put, sa, s0, s1]
        refine tn 6 qb4a_9_5_6 (some 53) rfl rfl (by kernel_rfl) hHeld (by rfl) (fun _ _ _ x => x) ?_; try simp only [Act.put, sa, s0, s1]
        refine tn 7 qb4a_9_5_7 (some 54) rfl rfl (by kernel_rfl) hHeld (by rfl) (fun _ _ _ x => x) ?_; try simp only [Act.put, sa, s0, s1]
        refine tn 8 qb4a_9_5_8 (some 55) rfl rfl (by kernel_rfl) hHeld (by rfl) (fun _ _ _ x => x) ?_; try simp only [Act.put, sa, s0, s1]
        refine tn 9 qb4a_9_5_9 (some 56) rfl rfl (by kernel_rfl) hHeld (by rfl) (fun _ _ _ x => x) ?_; try simp only [Act.put, sa, s0, s1]
        refine tn 10 qb4a_9_5_10 (some 57) rfl rfl (by kernel_rfl) hHeld (by rfl) (fun _ _ _ x => x) ?_; try simp only [Act.put, sa, s0, s1]
        refine tn 11 qb4a_9_5_11 (some 58) rfl rfl (by kernel_rfl) hHeld (by rfl) (fun _ _ _ x => x) ?_; try simp only [Act.put, sa, s0, s1]
        refine tk 12 qb4a_9_5_12 (some 59) (v := ?v79) rfl rfl (by kernel_rfl) hHeld (by rfl) (fun _ _ _ x => x) (fun w h => ?y79) ?_; (case y79 => (try dsimp only at h); go_simp; try (with_reducible rfl)); try simp only [Act.put, sa, s0, s1]
        refine wpAnyH_done (by kernel_rfl) ?_ _
        try go_wp2_with fail
        go_meet
        case rel => exact ⟨false, rfl, HBB, hHeld⟩
    case rest =>
     obtain ⟨B, rfl, HBB, hxB⟩ := hcut
     generalize wc = wB at *
     clear u0
     go_upto_if 59 with fail
     go_cut [2, 10] (fun tv bv wx => ∃ (tw2 : Int) (a5 : Option Addr) (c5 : Nat) (l2 : List MNode), tv = .int .i64 tw2 ∧ bv = .slice a5 l2.length c5 ∧ Hid ((Lit.int .i64 tw2).wf = true) ∧ Hid (LeafL 4 rNode w4.heap.size w4 a5 c5 l2 ∧ l2.length ≤ n) ∧ Hid (putN l p tw = l.take k ++ ⟨p, tw2⟩ :: l2) ∧ Below w4.heap.size w4 wx)
     case first =>
      cases B with
      | true =>
        obtain ⟨hkl, he⟩ := HBB.out.1 rfl
        have hkn2 : k < n := by rw [← HX.out]; exact hkl
        have hdl : 0 < (l.drop k).length := by rw [H2.out]; omega
        have hL2 := HLB.out w4 (Below.refl _ _)
        obtain ⟨b1, o1, ha2, hB1, cs, hcl, hcell, hrn⟩ := hL2.2.2 0 hdl
        have he0 : (l.drop k)[0] = l[k] := by simp
        rw [he0] at hrn
        obtain ⟨rfl, _⟩ := hrn
        subst ha2
        have k3 := hcell 3 _ rfl
        simp only [Nat.zero_mul, Nat.add_zero] at k3
        have f9 : wB.cell? ⟨b1, o1 + 3, none⟩ = some (.int .i64 l[k].fTower) := (hxB.cell (p := ⟨b1, o1 + 3, none⟩) hB1).trans k3
        have hB9 : b1 < wB.heap.size := Nat.lt_of_lt_of_le hB1 hxB.size
        have hc21 : n - k ≤ c2 := by have h := hL2.1; rw [H2.out] at h; exact h
        have hc22 : c2 ≤ 9223372036854775807 := hL2.2.1
        have HTW := Hid.mk (HTWS.out _ (List.getElem_mem hkl))
        have HPN := Hid.mk (HPN1.out hkl he)
        have hdd : (l.drop k).drop 1 = l.drop (k + 1) := by rw [List.drop_drop]
        have hdl1 : (l.drop (k + 1)).length = n - k - 1 := by rw [List.length_drop, HX.out]; omega
        have HDL1 := Hid.mk hdl1
        have hs1 : (1 : Int) ≤ ((n - k : Nat) : Int) := by omega
        have hs2 : ((n - k : Nat) : Int) ≤ (c2 : Int) := by omega
        have hs3 : (1 : Int) ≤ (c2 : Int) := by omega
        have hs4 : 1 ≤ n - k := by omega
        have hs5 : 1 ≤ c2 := by omega
        have hs6 : (0 : Int) < ((n - k : Nat) : Int) := by omega
        have hs7 : 0 < n - k := by omega
        by_cases hc1 : c2 = 1
        · have HLN : Hid (LeafL 4 rNode w4.heap.size w4 (some ⟨b1, o1, none⟩) 0 (l.drop (k + 1)) ∧ (l.drop (k + 1)).length ≤ n) := by
            refine ⟨?_, by rw [hdl1]; omega⟩
            have h : l.drop (k + 1) = [] := List.eq_nil_of_length_eq_zero (by rw [hdl1]; omega)
            rw [h]
            exact ⟨Nat.zero_le _, by omega, fun j hj => by simp at hj⟩
          subst hc1
          clear hdd hdl1 he hL2 he0 hdl hcell hcl k3 HBB
          generalize l[k].fTower = t9 at *
          go_wp2_with fail
          go_meet
          case rel => exact ⟨t9, _, _, l.drop (k + 1), rfl, by rw [HDL1.out] <;> first | rfl | (congr 1; omega) | (simp; omega), HTW, HLN, HPN, hxB⟩
        · have HLN : Hid (LeafL 4 rNode w4.heap.size w4 (some ⟨b1, o1 + 4, none⟩) (c2 - 1) (l.drop (k + 1)) ∧ (l.drop (k + 1)).length ≤ n) := by
            refine ⟨?_, by rw [hdl1]; omega⟩
            have h := LeafL.part hL2 (f := 1) (m := n - k - 1) (c' := c2 - 1) (by rw [H2.out]; omega) (by omega) (by omega)
            rw [hdd, List.take_of_length_le (by rw [hdl1]; omega)] at h
            exact h
          have hcp2 : decide (c2 = 1) = false := decide_eq_false hc1
          have hcp3 : (c2 == 1) = false := beq_eq_false_iff_ne.2 hc1
          clear hdd hdl1 he hL2 he0 hdl hcell hcl k3 HBB
          generalize l[k].fTower = t9 at *
          go_wp2_with fail
          go_meet
          case rel => exact ⟨t9, _, _, l.drop (k + 1), rfl, by rw [HDL1.out] <;> first | rfl | (congr 1; omega) | (simp; omega), HTW, HLN, HPN, hxB⟩
      | false =>
        have HPN := Hid.mk (HPN2.out (fun hk e => absurd (HBB.out.2 ⟨hk, e⟩) (by decide)))
        have HLN : Hid (LeafL 4 rNode w4.heap.size w4 a2 c2 (l.drop k) ∧ (l.drop k).length ≤ n) := ⟨HLB.out w4 (Below.refl _ _), by rw [H2.out]; omega⟩
        go_wp2_with fail
        go_meet
        case rel => exact ⟨tw, _, _, l.drop k, rfl, by rw [H2.out], htw, HLN, HPN, hxB⟩
     case rest =>
      obtain ⟨tw2, a5, c5, l2, rfl, rfl, HWT, HL5, HPN, hx5⟩ := hcut
      generalize wc = w5 at *
      have hb5 := bthen hb4 hx5
      have hb05 := bthen hb04 hx5
      obtain ⟨hm5, hq5, hr5⟩ := HBX.out _ hb05
      have q0 := hq5.2 0 _ rfl
      have q1 := hq5.2 1 _ rfl
      have q2 := hq5.2 2 _ rfl
      have q3 := hq5.1
      have hl2 : l2.length ≤ 60 := by have := HL5.out.2; omega
      obtain ⟨w6, hw6⟩ : ∃ z, z = (w5.alloc (.cells #[.string p.fKey, .string p.fVal, .bool p.fGone, .int .i64 tw2] 36)).alloc (.cells #[.slice a1 k c1, .slice (some ⟨w5.heap.size, 0, none⟩) 1 1, .slice a5 l2.length c5] 24) := ⟨_, rfl⟩
      have hx6 : Below w5.heap.size w5 w6 := by rw [hw6]; exact ((Below.refl _ _).alloc (Nat.le_refl _) _).alloc (by simp) _
      have hbn : Bx w6 w5.heap.size [.string p.fKey, .string p.fVal, .bool p.fGone, .int .i64 tw2] := by rw [hw6]; exact (Bx.new _ _ _).alloc _
      have hbs : Bx w6 (w5.heap.size + 1) [.slice a1 k c1, .slice (some ⟨w5.heap.size, 0, none⟩) 1 1, .slice a5 l2.length c5] := by
        rw [hw6]
        have h := Bx.new (w5.alloc (.cells #[.string p.fKey, .string p.fVal, .bool p.fGone, .int .i64 tw2] 36)) [.slice a1 k c1, .slice (some ⟨w5.heap.size, 0, none⟩) 1 1, .slice a5 l2.length c5] 24
        simpa using h
      have HLm : Hid (LeafL 4 rNode w6.heap.size w6 (some ⟨w5.heap.size, 0, none⟩) 1 [⟨p, tw2⟩]) := leaf_node (B := 0) hbn ⟨rfl, Nat.le_trans hp1 (by omega), Nat.le_trans hp2 (by omega), trivial, HWT.out, trivial⟩ (Nat.zero_le _)
      have HLa := Hid.mk (HLA.out w6 (bthen hx5 hx6))
      have HLb : Hid (LeafL 4 rNode w6.heap.size w6 a5 c5 l2) := LeafL.mono rNode_good (HL5.out.1.below rNode_good (bthen hx5 hx6)) (bthen hx5 hx6).size
      have hb6 := bthen hb5 hx6
      have hr6 := hr5.under hx6
      have hCC := concatNode_any (w5.heap.size + 1) 3 [(a1, c1, l.take k), (some ⟨w5.heap.size, 0, none⟩, 1, [⟨p, tw2⟩]), (a5, c5, l2)] w6 rfl (by omega) hbs.1 (cat3N hbs H1.out rfl) (leaf3N HLa.out HLm.out HLb.out) (sum3N H1.out rfl (by omega))
      rw [cat_put, ← HPN.out] at hCC
      go_wp2_with fail
      rw [← hw6]
      clear hw6 hbn hbs
      refine hCC.mono ?_
      rintro e w8 ⟨v8, rfl, hrow, hx8⟩
      have hr8 := hr6.under hx8
      have t0 := hr8.cell 0 _ rfl
      have t1 := hr8.free 0
      have t2 := hr8.lt
      obtain ⟨a8, c8, rfl, _⟩ := id (RowR.leaf rNode_good hrow hx8.size)
      have h3z : w.heap.size + 1 + 1 < w6.heap.size := hr6.lt
      have HFI : Hid (PutI w l p tw (.returned (.tuple #[.agg #[.slice a8 (putN l p tw).length c8], .bool true])) (w8.setCell ⟨w.heap.size + 1 + 1, 0, none⟩ (.slice a8 (putN l p tw).length c8))) := by
        refine ⟨a8, c8, putN l p tw, (by rw [HOT.out]), (fun h => by rw [HOT.out] at h; cases h), (fun _ => ⟨rfl, ?_⟩), (bthen hb6 hx8).setCell (by show w.heap.size ≤ w.heap.size + 1 + 1; omega) _⟩
        obtain ⟨css, j1, j2, j3, j4⟩ := hrow
        have hrow2 : RowR 4 36 rNode w6.heap.size (w8.setCell ⟨w.heap.size + 1 + 1, 0, none⟩ (.slice a8 (putN l p tw).length c8)) w6.heap.size (.slice a8 (putN l p tw).length c8) (putN l p tw) := ⟨css, j1, j2, fun j hj hj2 => j3 j hj hj2, own_of_block j4 (fun b hb => heap_setCell_other w8 ⟨w.heap.size + 1 + 1, 0, none⟩ b _ (by have h := (j4.lt b hb).1; show b ≠ w.heap.size + 1 + 1; omega))⟩
        obtain ⟨a9, c9, e9, hL9⟩ := RowR.leaf rNode_good hrow2 (by have := hx8.size; simpa [World.setCell] using this)
        simp only [Value.slice.injEq, true_and] at e9
        obtain ⟨rfl, rfl⟩ := e9
        exact hL9
      clear hrow hCC
      generalize (putN l p tw).length = LN at *
      go_wp2_with fail
      exact bodyPost_ret (v := .tuple #[.agg #[.slice a8 LN c8], .bool true]) (by simp [results, Tryd.results9, go_sem, *]) rfl HFI.out

end Go.Proofs.YtadadkookbkkoaaDoor
