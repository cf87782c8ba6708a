/-
  The draw of a table, a pair and a tower: a full table has none of the keys that are drawn.
-/
import Derived.Test.YtadadkookbkkoaaDoorRegK
import Derived.Test.YtadadkookbkkoaaDoorDrMQ
import Derived.Test.YtadadkookbkkoaaDoorDrawZ
import Derived.Laws.BytesArg
import Derived.Deep.DeepCutAuto
import Derived.Deep.Cut
namespace Go.Proofs.YtadadkookbkkoaaDoor
open Go.RowKit Go.Maps
set_option linter.unusedVariables false
set_option linter.unusedSimpArgs false
set_option maxRecDepth 10000
abbrev q12e_8_9_0 : Oper := ⟨some 42, .load 26 (.tmp 6), 26, "l04_mem.go:193", #[], none⟩
abbrev q12e_8_9_1 : Oper := ⟨some 43, .move (.tmp 5), 54, "l04_mem.go:193", #[], none⟩
abbrev q12e_8_9_3 : Oper := ⟨some 45, .move (.tmp 5), 54, "l04_mem.go:193", #[], none⟩
abbrev q12e_8_9_4 : Oper := ⟨some 46, .buildSlice 41 6 #[(0, .const (.int .i64 1)), (1, .const (.int .i64 2)), (2, .const (.int .i64 4)), (3, .const (.int .i64 4)), (4, .const (.int .i64 0)), (5, .const (.int .i64 5))], 41, "l04_mem.go:193", #[], none⟩
abbrev q12e_8_9_2 : Oper := ⟨some 44, .call { callee := .value (.func 30), args := #[.tmp 43], argTypes := #[54] }, 28, "l04_mem.go:193", #[⟨1, .data⟩], none⟩
abbrev q12e_8_9_5 : Oper := ⟨some 47, .call { callee := .value (.func 31), args := #[.tmp 45, .tmp 46], argTypes := #[54, 41] }, 3, "l04_mem.go:193", #[⟨3, .data⟩, ⟨4, .data⟩, ⟨2, .chain⟩], none⟩
abbrev q12e_8_9_6 : Oper := ⟨none, .store 26 (.tmp 2) (.tmp 42), 0, "l04_mem.go:193", #[⟨0, .data⟩, ⟨5, .chain⟩, ⟨0, .phase⟩, { on := 1, ground := Ground.textOnly Departure.lateStores }, { on := 2, ground := Ground.textOnly Departure.lateStoresUnsure }, { on := 3, ground := Ground.textOnly Departure.lateStores }, { on := 4, ground := Ground.textOnly Departure.lateStores }, { on := 5, ground := Ground.textOnly Departure.lateStoresUnsure }], none⟩
abbrev q12e_8_9_7 : Oper := ⟨none, .store 28 (.tmp 3) (.tmp 44), 0, "l04_mem.go:193", #[⟨2, .data⟩, ⟨6, .chain⟩, ⟨0, .phase⟩, ⟨1, .phase⟩, ⟨2, .phase⟩, { on := 3, ground := Ground.textOnly Departure.lateStores }, { on := 4, ground := Ground.textOnly Departure.lateStores }, { on := 5, ground := Ground.textOnly Departure.lateStoresUnsure }, ⟨6, .phase⟩], none⟩
abbrev q12e_8_9_8 : Oper := ⟨some 4, .assign (.tmp 47), 3, "l04_mem.go:193", #[⟨5, .data⟩, ⟨7, .chain⟩, ⟨0, .phase⟩, ⟨1, .phase⟩, ⟨2, .phase⟩, ⟨3, .phase⟩, ⟨4, .phase⟩, ⟨5, .phase⟩, ⟨6, .phase⟩, ⟨7, .phase⟩], none⟩

def SizeQ (w : World) (q : Int) (e : Ending) (w' : World) : Prop := ∃ x : Int, (e = .returned (.int .i64 x) ∧ x ≤ q) ∧ w' = w
set_option maxHeartbeats 400000 in
theorem l1SizeQ_ok (a : Option Addr) (n cap : Nat) (q : Int) (w : World) (hn : n ≤ 1048576) (hq : 0 ≤ q) (hq2 : q ≤ 100) :
    Calls Tryd.prog 27 #[.slice a n cap, .int .i64 q] w fun e w' => SizeQ w q e w' := by
  have e1 : ((n : Int)).tdiv 12 = (n : Int) / 12 := Int.tdiv_eq_ediv_of_nonneg (by omega)
  have e2 : IntKind.i64.wrap ((n : Int) / 12) = (n : Int) / 12 := by rw [IntKind.wrap_i64]; omega
  go_enter Tryd.func27, Tryd.ntmps27
  by_cases h : q < 3 + (n : Int) / 12
  · go_wp2_with fail
    go_ret
    exact (show SizeQ w q _ _ from ⟨q, ⟨rfl, Int.le_refl _⟩, rfl⟩)
  · go_wp2_with fail
    go_ret
    exact (show SizeQ w q _ _ from ⟨3 + (n : Int) / 12, ⟨rfl, by omega⟩, rfl⟩)
set_option maxHeartbeats 400000 in
theorem l1IntM_ok {g : Nat} {w : World} (la : Option Addr) (m cap : Nat) (ns : List Int) (hc : CurOk w g) (hm : ns.length = m) (h0 : 0 < m) (hm2 : m ≤ 1000000) (B : Nat) (hr : Rd .i64 B w la ns) (hne : ∀ b o, la = some ⟨b, o, none⟩ → b ≠ g) :
    Calls Tryd.prog 31 #[.pointer (some ⟨g, 0, none⟩), .slice la m cap] w fun e w' => ∃ j : Nat, (j < m ∧ e = .returned (.int .i64 (ns.getD j 0))) ∧ CurOk w' g ∧ w.grownBy w' (some g) := by
  have HM : Hid (ns.length = m) := hm
  clear hm
  go_enter Tryd.func31, Tryd.ntmps31
  go_wp2_with fail
  refine (l1Below_ok _ hc).mono ?_
  rintro e w1 ⟨x, rfl, hx, hc1, hg1⟩
  obtain ⟨x, rfl⟩ := Int.eq_ofNat_of_zero_le hx.1
  have hxm : x < m := by omega
  obtain ⟨b1, o1, rfl, hB, hcell⟩ := hr x (by rw [HM.out]; exact hxm)
  have hcell1 : w1.cell? ⟨b1, o1 + x, none⟩ = some (.int .i64 (ns.getD x 0)) := hg1.cell hcell (by have := hne b1 o1 rfl; simpa using this)
  generalize hv : ns.getD x 0 = v at hcell1
  have HV := Hid.mk hv
  clear hv hcell hr hne hx
  go_wp2_with fail
  go_ret
  exact ⟨x, ⟨hxm, by rw [HV.out]; rfl⟩, hc1, hg1⟩

/-- Of three bytes, a k ahead. -/
def KeyK (s : ByteArray) : Prop := s.data.size = 3 ∧ s.data.toList.head? = some 107
theorem key_apart {s t : ByteArray} (hs : KeyK s) (ht : KeyN t) : s ≠ t := by
  intro e
  subst e
  rcases ht with h | h
  · exact h hs.1
  · rw [hs.2] at h; simp at h
theorem keyK_made (x y : Int) : KeyK ((⟨#[107]⟩ : ByteArray) ++ strOfNums [x, y]) := by
  have h : (strOfNums [x, y]).data.size = 2 := by simp [strOfNums]
  constructor
  · simp [ByteArray.data_append, h]
  · simp [ByteArray.data_append]

/-- While it is drawn: the cursor, the table's box at bm, its row behind all that was. -/
structure MpSt (w1 : World) (g bm : Nat) (v : Value) (l : List MNode) (most : Nat) (W : World) : Prop where
  c : CurOk W g
  k : w1.grownBy W (some g)
  x : Bw W bm 26 [v]
  d : MemDrawn W w1.heap.size v l most
  ne : v.ownBlock ≠ some bm
  lt : g < w1.heap.size
  lb : w1.heap.size ≤ bm
theorem MpSt.step {w1 W W' : World} {g bm most : Nat} {v : Value} {l : List MNode} (h : MpSt w1 g bm v l most W) (hc : CurOk W' g) (hs : W.grownBy W' (some g)) : MpSt w1 g bm v l most W' :=
  have h1 := h.lt
  have h2 := h.lb
  ⟨hc, grown_trans h.k hs, h.x.grown hs (by simp; omega), h.d.grown hs h.lt, h.ne, h.lt, h.lb⟩
theorem MpSt.below {w1 W W' : World} {g bm most : Nat} {v : Value} {l : List MNode} (h : MpSt w1 g bm v l most W) (hb : Below W.heap.size W W') : MpSt w1 g bm v l most W' :=
  ⟨h.c.below hb, grown_below h.k hb, h.x.under hb, h.d.under hb, h.ne, h.lt, h.lb⟩
theorem MpSt.app {w1 W W' : World} {g bm most m2 : Nat} {v v' : Value} {l l' : List MNode} (h : MpSt w1 g bm v l most W) (hgr : W.grownBy W' v.ownBlock) (hat : v'.ownBlock = v.ownBlock ∨ v'.ownBlock = some W.heap.size)
    (ho : W'.ownsRow w1.heap.size 36 4 v' l'.length (flatN l')) (hs : ∀ y, y ∈ l' → ShN y) (hm : l'.length ≤ m2) : MpSt w1 g bm v' l' m2 (W'.setCell ⟨bm, 0, none⟩ v') ∧ Bw W' bm 26 [v] := by
  have hge : ∀ k, v.ownBlock = some k → w1.heap.size ≤ k := fun k hk => (h.d.1.lt k hk).1
  have hbl := h.x.lt
  have h1 := h.lt
  have h2 := h.lb
  have hx : Bw W' bm 26 [v] := h.x.grown hgr h.ne
  have hne : v'.ownBlock ≠ some bm := by
    rcases hat with e | e
    · rw [e]; exact h.ne
    · rw [e]; simp; omega
  refine ⟨⟨(h.c.grown hgr (fun k hk => by have := hge k hk; omega)).setCell (p := ⟨bm, 0, none⟩) (by show g < bm; omega) _, grown_setCell (grown_own h.k hgr hge) (p := ⟨bm, 0, none⟩) (by show w1.heap.size ≤ bm; omega) _, hx.put 0 v', ⟨own_of_block ho (fun k hk => heap_setCell_other W' ⟨bm, 0, none⟩ k v' (fun e => hne (by rw [hk]; exact congrArg some e))), hs, hm⟩, hne, h.lt, h.lb⟩, hx⟩
theorem MpSt.nil {w1 W : World} {g bm most : Nat} {v : Value} {l : List MNode} (h : MpSt w1 g bm v l most W) : MpSt w1 g bm (.slice none 0 0) [] 0 (W.setCell ⟨bm, 0, none⟩ (.slice none 0 0)) :=
  have h1 := h.lt
  have h2 := h.lb
  ⟨h.c.setCell (p := ⟨bm, 0, none⟩) (by show g < bm; omega) _, grown_setCell h.k (p := ⟨bm, 0, none⟩) (by show w1.heap.size ≤ bm; omega) _, h.x.put 0 _, MemDrawn.nil, by simp [Value.ownBlock], h.lt, h.lb⟩

/-- A drawn table, pair and tower: short, or with none of the pair's key. -/
def PutDraw (w : World) (e : Ending) (w' : World) : Prop :=
  ∃ (a : Option Addr) (c : Nat) (l : List MNode) (p : MPair) (tw : Int), e = .returned (.tuple #[.agg #[.slice a l.length c], .agg #[.string p.fKey, .string p.fVal, .bool p.fGone], .int .i64 tw]) ∧ LeafL 4 rNode w'.heap.size w' a c l ∧ (∀ x, x ∈ l → ShN x) ∧ l.length ≤ 60 ∧ (p.fKey.size ≤ 21 ∧ p.fVal.size ≤ 21 ∧ (Lit.int .i64 tw).wf = true) ∧ (l.length ≤ 59 ∨ ∀ x, x ∈ l → x.fP.fKey ≠ p.fKey) ∧ Below w.heap.size w w'

theorem rd_lits {w : World} {b : Nat} {t : TypeId} (ns : List Int) (h : Bw w b t (ns.map (Value.int .i64))) : Rd .i64 w.heap.size w (some ⟨b, 0, none⟩) ns := fun x hx => ⟨b, 0, rfl, h.lt, by
  rw [Nat.zero_add]
  refine h.cell x _ ?_
  simp [List.getD, List.getElem?_eq_getElem hx]⟩
theorem tow_wf : ∀ j, j < 6 → (Lit.int .i64 (([1, 2, 4, 4, 0, 5] : List Int).getD j 0)).wf = true := by decide
/-- As it is given: both results' boxes written. -/
structure MpEnd (w : World) (bm B : Nat) (v vr : Value) (p : List Value) (l : List MNode) (W : World) : Prop where
  x : Bw W bm 26 [v]
  r : Bw W w.heap.size 26 [vr]
  q : Bw W (w.heap.size + 1) 28 p
  d : MemDrawn W B v l 60
  u : Below w.heap.size w W

set_option maxHeartbeats 8000000 in
theorem drawMemPut_ok (a : Option Addr) (n cap : Nat) (zs : List Int) (w : World) (hx : zs.length = n) (hlen : n ≤ 1048576) (hr : Rd .u8 w.heap.size w a zs) :
    Calls Tryd.prog 8 #[.slice a n cap] w fun e w' => PutDraw w e w' := by
  obtain ⟨iN, hiN, hzN0, hzN1, hzN2⟩ := info_parts Tryd.infoNode
  have HI : Hid (_ ∧ _ ∧ _ ∧ _) := ⟨hiN, hzN0, hzN1, hzN2⟩
  clear hiN hzN0 hzN1 hzN2
  obtain ⟨w0, hw0⟩ : ∃ x, x = (w.alloc (.cells #[.slice none 0 0] 26)).alloc (.cells #[.string ⟨#[]⟩, .string ⟨#[]⟩, .bool false] 28) := ⟨_, rfl⟩
  have hbr : Bw w0 w.heap.size 26 [.slice none 0 0] := by rw [hw0]; exact (Bw.new _ _ _).alloc _
  have hbd : Bw w0 (w.heap.size + 1) 28 [.string ⟨#[]⟩, .string ⟨#[]⟩, .bool false] := by rw [hw0]; exact Bw.new' _ _ _ (by simp)
  have hb0 : Below w.heap.size w w0 := by rw [hw0]; exact ((Below.refl _ _).alloc (Nat.le_refl _) _).alloc (by simp) _
  have hz0 := hbd.lt
  go_enter Tryd.func8, Tryd.ntmps8
  go_wp2_with (rw [← hw0])
  try rw [← hw0]
  clear hw0
  refine (l1New_any a n cap zs w0 hx (by omega) ((hr.below hb0).mono hb0.size)).mono ?_
  rintro e w1 ⟨rfl, hc1, hb1⟩
  obtain ⟨g, hg⟩ : ∃ g, g = w0.heap.size := ⟨_, rfl⟩
  rw [← hg] at hc1
  have hbr1 := hbr.under hb1
  have hbd1 := hbd.under hb1
  have hgl := hc1.lt
  have hb01 := bthen hb0 hb1
  go_wp2_with (rw [← hg])
  try rw [← hg]
  refine (l1SizeQ_ok a n cap 14 w1 hlen (by omega) (by omega)).mono ?_
  rintro e w1' ⟨x, ⟨rfl, hx14⟩, hw1'⟩
  subst hw1'
  go_wp2_with (rw [← hg])
  try rw [← hg]
  refine (l4DrawAnyM_ok x 14 hc1 hx14 (by omega)).mono ?_
  rintro e w2 ⟨v, l, rfl, hd2, hc2, hg2⟩
  obtain ⟨am, cm, rfl, _⟩ := ownN_leaf hd2.1 (fun y hy => (hd2.2.1 y hy).ok)
  obtain ⟨bm, hbme⟩ : ∃ b, b = w2.heap.size := ⟨_, rfl⟩
  obtain ⟨w3, hw3⟩ : ∃ z, z = w2.alloc (.cells #[.slice am l.length cm] 26) := ⟨_, rfl⟩
  have hx3 : Below w2.heap.size w2 w3 := by rw [hw3]; exact (Below.refl _ _).alloc (Nat.le_refl _) _
  have HS3 : Hid (MpSt w1' g bm (.slice am l.length cm) l 15 w3) := by
    refine ⟨hc2.below hx3, grown_below hg2 hx3, by rw [hw3]; exact Bw.new' _ _ _ hbme, hd2.under hx3, fun e => ?_, hgl, by rw [hbme]; exact hg2.size⟩
    have := (hd2.1.lt _ e).2
    omega
  go_wp2_with (rw [← hw3, ← hbme, ← hg])
  try rw [← hw3]
  try rw [← hbme]
  try rw [← hg]
  refine (l1Once_ok _ HS3.out.c).mono ?_
  rintro e w4 ⟨bo, rfl, hc4, hg4⟩
  have HS4 := Hid.mk (HS3.out.step hc4 hg4)
  clear hw3 hx3 HS3 hbme hd2 hc2 hg2 hc4 hg4 hx14
  have HR0 : Hid (∀ W, w1'.grownBy W (some g) → Bw W w.heap.size 26 [.slice none 0 0] ∧ Bw W (w.heap.size + 1) 28 [.string ⟨#[]⟩, .string ⟨#[]⟩, .bool false] ∧ Below w.heap.size w W) := fun W h => ⟨hbr1.grown h (by simp; omega), hbd1.grown h (by simp; omega), hb01.grown h hb01.size (fun k hk => by simp at hk; omega)⟩
  have hz1 : w.heap.size + 1 < w1'.heap.size := hbd1.lt
  have hgz : w.heap.size + 2 ≤ g := by omega
  clear hbr hbd hb0 hb1 hbr1 hbd1 hb01 hg hz0
  go_upto_if 15 with fail
  go_cut [7] (fun iv wx => ∃ (am : Option Addr) (cm : Nat) (l : List MNode), Hid (MpSt w1' g bm (.slice am l.length cm) l 60 wx) ∧ Hid (l.length ≤ 59 ∨ ∀ x, x ∈ l → KeyK x.fP.fKey))
  case first =>
    cases bo with
    | false =>
      have HSF : Hid (MpSt w1' g bm (.slice am l.length cm) l 60 w4) := ⟨HS4.out.c, HS4.out.k, HS4.out.x, HS4.out.d.more (by omega), HS4.out.ne, HS4.out.lt, HS4.out.lb⟩
      have HLF : Hid (l.length ≤ 59 ∨ ∀ x, x ∈ l → KeyK x.fP.fKey) := .inl (by have := HS4.out.d.2.2; omega)
      go_wp2_with fail
      go_meet
      case rel => exact ⟨am, cm, l, HSF, HLF⟩
    | true =>
      have q0 := HS4.out.x.cell 0 _ rfl
      have q1 := HS4.out.x.free 0
      have q2 := HS4.out.x.lt
      obtain ⟨w5, hw5⟩ : ∃ z, z = w4.setCell ⟨bm, 0, none⟩ (.slice none 0 0) := ⟨_, rfl⟩
      have HS5 : Hid (MpSt w1' g bm (.slice none ([] : List MNode).length 0) [] 0 w5) := by unfold Hid; rw [hw5]; exact HS4.out.nil
      go_wp2_with fail
      rw [← hw5]
      clear hw5 q0 q1 q2 HS4
      go_loopw [7] (fun iv wr => ∃ (i : Nat) (am : Option Addr) (cm : Nat) (l : List MNode), iv = .int .i64 i ∧ (i ≤ 60 ∧ l.length = i) ∧ Hid (MpSt w1' g bm (.slice am l.length cm) l i wr) ∧ Hid (∀ x, x ∈ l → KeyK x.fP.fKey)) (fun iv _ => 61 - (intOf iv).toNat)
      case atStart => exact ⟨0, none, 0, [], rfl, ⟨by omega, rfl⟩, HS5, Hid.mk (fun x hx => by cases hx)⟩
      case round =>
        clear HS5
        obtain ⟨i, am, cm, l, rfl, hil, HS, HKY⟩ := hrel
        have hi60 := hil.1
        go_wp2_with fail
        refine (l1Below_ok 2 HS.out.c).mono ?_
        rintro e w6 ⟨y, rfl, hy, hc6, hg6⟩
        have HS6 := Hid.mk (HS.out.step hc6 hg6)
        have hy0 : 0 ≤ y := hy.1
        have hy1 : y < 2 := hy.2.2.1 (by omega)
        clear hy hc6 hg6 HS
        by_cases hlt : (i : Int) < 60 - y
        rotate_left
        · have hld : decide ((i : Int) < 60 - y) = false := decide_eq_false hlt
          have HSF : Hid (MpSt w1' g bm (.slice am l.length cm) l 60 w6) := ⟨HS6.out.c, HS6.out.k, HS6.out.x, HS6.out.d.more (by omega), HS6.out.ne, HS6.out.lt, HS6.out.lb⟩
          go_wp2_with fail
          go_meet
          case rel => exact ⟨am, cm, l, HSF, Hid.mk (.inr HKY.out)⟩
        have hld : decide ((i : Int) < 60 - y) = true := decide_eq_true hlt
        have hi59 : i ≤ 59 := by omega
        have HLI := Hid.mk hil.2
        have q0 := HS6.out.x.cell 0 _ rfl
        obtain ⟨wb, hwb⟩ : ∃ z, z = w6.alloc (.cells #[.int .u8 (48 + (i : Int) / 10), .int .u8 (48 + (i : Int) % 10)] 5) := ⟨_, rfl⟩
        have hxb : Below w6.heap.size w6 wb := by rw [hwb]; exact (Below.refl _ _).alloc (Nat.le_refl _) _
        have hbb : Bx wb w6.heap.size [.int .u8 (48 + (i : Int) / 10), .int .u8 (48 + (i : Int) % 10)] := by rw [hwb]; exact Bx.new _ _ _
        have hconv := run_convert_bytes_arg (P := Tryd.prog) wb 22 5 Tryd.underlying22 Tryd.underlying5 w6.heap.size 0 2 2 [48 + (i : Int) / 10, 48 + (i : Int) % 10] rfl (fun j hj => by
          have h9 : j = 0 ∨ j = 1 := by omega
          rcases h9 with rfl | rfl
          · exact hbb.2 0 _ rfl
          · exact hbb.2 1 _ rfl) 9 Tryd.underlying9
        rw [hwb] at hconv
        obtain ⟨sn, hsn⟩ : ∃ k, k = strOfNums [48 + (i : Int) / 10, 48 + (i : Int) % 10] := ⟨_, rfl⟩
        have HKK : Hid (KeyK ((⟨#[107]⟩ : ByteArray) ++ sn)) := by unfold Hid; rw [hsn]; exact keyK_made _ _
        have hsz : sn.size = 2 := by rw [hsn]; rfl
        have hsl : ¬ 9223372036854775807 < 1 + sn.size := by omega
        clear hsz
        rw [← hsn] at hconv
        clear hsn
        obtain ⟨w7, hw7⟩ : ∃ z, z = wb.alloc (.cells #[.string ((⟨#[107]⟩ : ByteArray) ++ sn), .string ⟨#[]⟩, .bool false, .int .i64 1] 36) := ⟨_, rfl⟩
        have hx7 : Below wb.heap.size wb w7 := by rw [hw7]; exact (Below.refl _ _).alloc (Nat.le_refl _) _
        have hbn : Bx w7 (w6.heap.size + 1) [.string ((⟨#[107]⟩ : ByteArray) ++ sn), .string ⟨#[]⟩, .bool false, .int .i64 1] := by
          rw [hw7]
          have h := Bx.new wb [.string ((⟨#[107]⟩ : ByteArray) ++ sn), .string ⟨#[]⟩, .bool false, .int .i64 1] 36
          rw [show wb.heap.size = w6.heap.size + 1 by rw [hwb]; simp] at h
          exact h
        have HS7 := Hid.mk ((HS6.out.below hxb).below hx7)
        obtain ⟨nd, hnd⟩ : ∃ z : MNode, z = ⟨⟨(⟨#[107]⟩ : ByteArray) ++ sn, ⟨#[]⟩, false⟩, 1⟩ := ⟨_, rfl⟩
        have hnc : ndC nd = [.string ((⟨#[107]⟩ : ByteArray) ++ sn), .string ⟨#[]⟩, .bool false, .int .i64 1] := by rw [hnd]; rfl
        have HNS : Hid (ShN nd ∧ KeyK nd.fP.fKey) := by
          unfold Hid
          rw [hnd]
          refine ⟨⟨?_, by show (0 : Nat) ≤ 21; omega, rfl⟩, HKK.out⟩
          have h := HKK.out.1
          show ((⟨#[107]⟩ : ByteArray) ++ sn).size ≤ 21
          have h2 : ((⟨#[107]⟩ : ByteArray) ++ sn).size = ((⟨#[107]⟩ : ByteArray) ++ sn).data.size := rfl
          omega
        have hown : w7.ownsRow w1'.heap.size 36 4 (.slice am i cm) i (flatN l) := by have h := HS7.out.d.1; rw [HLI.out] at h; exact h
        have hz7 : w1'.heap.size ≤ w7.heap.size := by have := HS7.out.k.size; exact this
        have HAP : Hid (∀ (w8 : World) (v8 : Value), w8.ownsRow w1'.heap.size 36 4 v8 (i + 1) (flatN l ++ ndC nd) → w7.grownBy w8 (Value.slice am i cm).ownBlock → (v8.ownBlock = (Value.slice am i cm).ownBlock ∨ v8.ownBlock = some w7.heap.size) → ∃ (a8 : Option Addr) (c8 : Nat) (l9 : List MNode), v8 = .slice a8 l9.length c8 ∧ l9.length = i + 1 ∧ MpSt w1' g bm (.slice a8 l9.length c8) l9 (i + 1) (w8.setCell ⟨bm, 0, none⟩ (.slice a8 l9.length c8)) ∧ Bw w8 bm 26 [.slice am l.length cm] ∧ ∀ x, x ∈ l9 → KeyK x.fP.fKey) := by
          intro w8 v8 ho8 hgr8 hat8
          have hl9 : (l ++ [nd]).length = i + 1 := by simp [HLI.out]
          have ho9 : w8.ownsRow w1'.heap.size 36 4 v8 (l ++ [nd]).length (flatN (l ++ [nd])) := own_congr ho8 hl9.symm (by rw [flatN_app]; simp [flatN])
          have hsh : ∀ y, y ∈ l ++ [nd] → ShN y := fun y hy => (List.mem_append.1 hy).elim (HS7.out.d.2.1 y) (fun h => by rw [List.mem_singleton.1 h]; exact HNS.out.1)
          obtain ⟨a8, c8, rfl, _⟩ := ownN_leaf ho9 (fun x hx => (hsh x hx).ok)
          obtain ⟨h1, h2⟩ := HS7.out.app (m2 := i + 1) (by rw [HLI.out]; exact hgr8) (by rw [HLI.out]; exact hat8) ho9 hsh (by rw [hl9]; exact Nat.le_refl _)
          exact ⟨a8, c8, l ++ [nd], rfl, hl9, h1, h2, fun x hx => (List.mem_append.1 hx).elim (HKY.out x) (fun h => by rw [List.mem_singleton.1 h]; exact HNS.out.2)⟩
        clear hnd HNS HKK HS7
        rw [hnc] at HAP
        clear hnc
        go_wp2_with (at_builtin; rw [← hwb, ← hw7]; refine wpList_app rfl _ _ 24 24 rfl w1'.heap.size 36 iN (.agg #[.string ⟨#[]⟩, .string ⟨#[]⟩, .bool false, .int .i64 0]) 4 48 Tryd.underlying24 HI.out.1 HI.out.2.1 HI.out.2.2.1 HI.out.2.2.2 rfl _ _ _ rfl hown _ rfl 1 _ (Src.ofSlice w7 Tryd.underlying24 ⟨w6.heap.size + 1, 0, none⟩ 1 1 _ rfl (bx_news hbn) (by intro u hu; simp at hu; rcases hu with rfl | rfl | rfl | rfl <;> rfl)) (by unfold maxLen; omega) (by omega) hz7 ?_; intro v8 w8 ho8 hgr8 hat8; obtain ⟨a8, c8, l9, hv8, hl9, hS9, hb9, hk9⟩ := HAP.out w8 v8 ho8 hgr8 hat8; subst hv8; have HS9 := Hid.mk hS9; have HK9 := Hid.mk hk9; have HL9 := Hid.mk hl9; have t0 := hb9.cell 0 _ rfl; have t1 := hb9.free 0; have t2 := hb9.lt; clear hS9 hk9 hl9 hb9 HAP ho8 hgr8 hat8 hown)
        case roundEnd => exact ⟨⟨i + 1, a8, c8, l9, by go_num, ⟨by omega, HL9.out⟩, HS9, HK9⟩, by simp [intOf]; omega⟩
  case rest =>
    obtain ⟨am, cm, l, HS5, HLK⟩ := hcut
    generalize wc = w5 at *
    go_wp2_with fail
    refine wp_region_held_drew (S := fun W => W.cell? ⟨bm, 0, none⟩ = some (.slice am l.length cm)) (by kernel_rfl) (HS5.out.x.drew.cell 0 _ rfl) (fun hHeld => ?_)
    obtain ⟨wS, hwS⟩ : ∃ wS, wS = w5.drew := ⟨_, rfl⟩
    have HDwS : Hid (MpSt w1' g bm (.slice am l.length cm) l 60 wS) := by rw [hwS]; exact HS5.out.below (Below.drew (Below.refl _ _))
    rw [← hwS]
    clear hwS
    replace hHeld := HDwS.out.x.cell 0 _ rfl
    refine tk 0 q12e_8_9_0 (some 42) (v := ?v1) rfl rfl (by kernel_rfl) hHeld (by rfl) (fun _ _ _ x => x) (fun w h => ?y1) ?_; (case y1 => (try dsimp only at h); go_simp; try (with_reducible rfl)); try simp only [Act.put, sa, s0, s1]
    refine tk 1 q12e_8_9_1 (some 43) (v := ?v2) rfl rfl (by kernel_rfl) hHeld (by rfl) (fun _ _ _ x => x) (fun w h => ?y2) ?_; (case y2 => (try dsimp only at h); go_simp; try (with_reducible rfl)); try simp only [Act.put, sa, s0, s1]
    refine tk 3 q12e_8_9_3 (some 45) (v := ?v3) rfl rfl (by kernel_rfl) hHeld (by rfl) (fun _ _ _ x => x) (fun w h => ?y3) ?_; (case y3 => (try dsimp only at h); go_simp; try (with_reducible rfl)); try simp only [Act.put, sa, s0, s1]
    refine wpAnyH_ready (rs := [2, 4]) (by kernel_rfl) (by simp) ?_
    refine (AllReadyH.cons (o := q12e_8_9_2) rfl (fun K hK => ?_) (AllReadyH.cons (o := q12e_8_9_4) rfl (fun K hK => ?_) AllReadyH.nil))
    · go_simp
      refine Calls.mono (l4PairAnyK_ok HDwS.out.c) ?_
      rintro e wE2 ⟨pr, ⟨rfl, hp1, hp2, hpn⟩, hc5, hg5⟩
      have HDwE2 := Hid.mk (HDwS.out.step hc5 hg5)
      try have HL4 := Hid.mk (HL4.out.grown hg5 (by simp; omega))
      clear hc5 hg5
      go_wp2_with fail
      refine hK.out _ _ (HDwE2.out.x.cell 0 _ rfl) (fun hHeld => ?_)
      clear hK K
      try simp only [Act.put, sa, s0, s1]
      refine wpAnyH_ready (rs := [4]) (by kernel_rfl) (by simp) ?_
      refine (AllReadyH.cons (o := q12e_8_9_4) rfl (fun K hK => ?_) AllReadyH.nil)
      · go_simp
        obtain ⟨wE4, hq4⟩ : ∃ q, q = wE2.alloc (.cells #[.int .i64 1, .int .i64 2, .int .i64 4, .int .i64 4, .int .i64 0, .int .i64 5] 3) := ⟨_, rfl⟩
        have hop4 : Below wE2.heap.size wE2 wE4 := by rw [hq4]; exact (Below.refl _ _).alloc (Nat.le_refl _) _
        have HDwE4 := Hid.mk (HDwE2.out.below hop4)
        obtain ⟨g4, HG4⟩ : ∃ z, Hid (z = wE2.heap.size) := ⟨_, Hid.mk rfl⟩
        have HL4 : Hid (Bw wE4 g4 3 (([1, 2, 4, 4, 0, 5] : List Int).map (Value.int .i64))) := by unfold Hid; rw [HG4.out, hq4]; exact Bw.new _ _ _
        have hgb4 : g < g4 := by rw [HG4.out]; exact HDwE2.out.c.lt
        rw [← HG4.out]
        rw [← hq4]
        clear hq4 hop4
        refine hK.out _ _ (HDwE4.out.x.cell 0 _ rfl) (fun hHeld => ?_)
        clear hK K
        try simp only [Act.put, sa, s0, s1]
        refine wpAnyH_ready (rs := [5]) (by kernel_rfl) (by simp) ?_
        refine (AllReadyH.cons (o := q12e_8_9_5) rfl (fun K hK => ?_) AllReadyH.nil)
        · go_simp
          refine Calls.mono (l1IntM_ok (some ⟨g4, 0, none⟩) 6 6 [1, 2, 4, 4, 0, 5] HDwE4.out.c rfl (by omega) (by omega) _ (rd_lits _ HL4.out) (fun b o e => by simp at e; omega)) ?_
          rintro e wE5 ⟨j5, ⟨hj5, rfl⟩, hc6, hg6⟩
          have HDwE5 := Hid.mk (HDwE4.out.step hc6 hg6)
          have hT5 := tow_wf j5 hj5
          generalize ([1, 2, 4, 4, 0, 5] : List Int).getD j5 0 = tw at hT5 ⊢
          have HT5 := Hid.mk hT5
          clear hc6 hg6 hT5 hj5
          go_wp2_with fail
          refine hK.out _ _ (HDwE5.out.x.cell 0 _ rfl) (fun hHeld => ?_)
          clear hK K
          try simp only [Act.put, sa, s0, s1]
          refine wpAnyH_ready (rs := [6]) (by kernel_rfl) (by simp) ?_
          refine (AllReadyH.cons (o := q12e_8_9_6) rfl (fun K hK => ?_) AllReadyH.nil)
          · skip
            have hR := HR0.out _ HDwE5.out.k
            have q0 := hR.1.cell 0 _ rfl
            have q1 := hR.1.free 0
            have q2 := hR.1.lt
            obtain ⟨wE6, hq6⟩ : ∃ q, q = wE5.setCell ⟨w.heap.size, 0, none⟩ (.slice am l.length cm) := ⟨_, rfl⟩
            have HF6 : Hid (MpEnd w bm w1'.heap.size (.slice am l.length cm) (.slice am l.length cm) [.string ⟨#[]⟩, .string ⟨#[]⟩, .bool false] l wE6) := by unfold Hid; rw [hq6]; have e1 := HDwE5.out.lb; exact ⟨HDwE5.out.x.other' (by omega), hR.1.put 0 _, hR.2.1.other' (by omega), HDwE5.out.d.other (by omega), hR.2.2.setCell (Nat.le_refl _) _⟩
            clear hR
            go_simp
            rw [← hq6]
            clear hq6 q0 q1 q2
            refine hK.out _ _ (HF6.out.x.cell 0 _ rfl) (fun hHeld => ?_)
            clear hK K
            try simp only [Act.put, sa, s0, s1]
            refine wpAnyH_ready (rs := [7]) (by kernel_rfl) (by simp) ?_
            refine (AllReadyH.cons (o := q12e_8_9_7) rfl (fun K hK => ?_) AllReadyH.nil)
            · skip
              have q0 := HF6.out.q.cell 0 _ rfl
              have q1 := HF6.out.q.free 0
              have q2 := HF6.out.q.lt
              obtain ⟨wE7, hq7⟩ : ∃ q, q = ((wE6.setCell ⟨w.heap.size + 1, 0, none⟩ (.string pr.fKey)).setCell ⟨w.heap.size + 1, 1, none⟩ (.string pr.fVal)).setCell ⟨w.heap.size + 1, 2, none⟩ (.bool pr.fGone) := ⟨_, rfl⟩
              have HF7 : Hid (MpEnd w bm w1'.heap.size (.slice am l.length cm) (.slice am l.length cm) [.string pr.fKey, .string pr.fVal, .bool pr.fGone] l wE7) := by unfold Hid; rw [hq7]; have e1 := HS5.out.lb; exact ⟨((HF6.out.x.other' (by omega)).other' (by omega)).other' (by omega), ((HF6.out.r.other' (by omega)).other' (by omega)).other' (by omega), ((HF6.out.q.put 0 _).put 1 _).put 2 _, ((HF6.out.d.other (by omega)).other (by omega)).other (by omega), ((HF6.out.u.setCell (by simp) _).setCell (by simp) _).setCell (by simp) _⟩
              have q3 := HF6.out.q.cell 1 _ rfl
              have q4 := HF6.out.q.cell 2 _ rfl
              have q5 := HF6.out.q.free 1
              have q6 := HF6.out.q.free 2
              go_simp
              rw [← hq7]
              clear hq7 q0 q1 q2 q3 q4 q5 q6
              refine hK.out _ _ (HF7.out.x.cell 0 _ rfl) (fun hHeld => ?_)
              clear hK K
              try simp only [Act.put, sa, s0, s1]
              refine tk 8 q12e_8_9_8 (some 4) (v := ?v4) rfl rfl (by kernel_rfl) hHeld (by rfl) (fun _ _ _ x => x) (fun w h => ?y4) ?_; (case y4 => (try dsimp only at h); go_simp; try (with_reducible rfl)); try simp only [Act.put, sa, s0, s1]
              refine wpAnyH_done (by kernel_rfl) ?_ _
              have k0 := HF7.out.r.cell 0 _ rfl
              have k1 := HF7.out.q.cell 0 _ rfl
              have k2 := HF7.out.q.cell 1 _ rfl
              have k3 := HF7.out.q.cell 2 _ rfl
              have k4 := HF7.out.r.lt
              have k5 := HF7.out.q.lt
              go_wp2_with fail
              exact bodyPost_ret (v := .tuple #[.agg #[.slice am l.length cm], .agg #[.string pr.fKey, .string pr.fVal, .bool pr.fGone], .int .i64 tw]) (by simp [results, Tryd.results8, go_sem, *]) rfl (show PutDraw w _ _ from ⟨am, cm, l, pr, tw, rfl, ownN_leaf' HF7.out.d.1 (fun y hy => (HF7.out.d.2.1 y hy).ok), HF7.out.d.2.1, HF7.out.d.2.2, ⟨hp1, hp2, HT5.out⟩, HLK.out.elim .inl (fun h => .inr (fun x hx => key_apart (h x hx) hpn.out)), HF7.out.u⟩)
    · go_simp
      obtain ⟨wE4, hq4⟩ : ∃ q, q = wS.alloc (.cells #[.int .i64 1, .int .i64 2, .int .i64 4, .int .i64 4, .int .i64 0, .int .i64 5] 3) := ⟨_, rfl⟩
      have hop4 : Below wS.heap.size wS wE4 := by rw [hq4]; exact (Below.refl _ _).alloc (Nat.le_refl _) _
      have HDwE4 := Hid.mk (HDwS.out.below hop4)
      obtain ⟨g4, HG4⟩ : ∃ z, Hid (z = wS.heap.size) := ⟨_, Hid.mk rfl⟩
      have HL4 : Hid (Bw wE4 g4 3 (([1, 2, 4, 4, 0, 5] : List Int).map (Value.int .i64))) := by unfold Hid; rw [HG4.out, hq4]; exact Bw.new _ _ _
      have hgb4 : g < g4 := by rw [HG4.out]; exact HDwS.out.c.lt
      rw [← HG4.out]
      rw [← hq4]
      clear hq4 hop4
      refine hK.out _ _ (HDwE4.out.x.cell 0 _ rfl) (fun hHeld => ?_)
      clear hK K
      try simp only [Act.put, sa, s0, s1]
      refine wpAnyH_ready (rs := [2]) (by kernel_rfl) (by simp) ?_
      refine (AllReadyH.cons (o := q12e_8_9_2) rfl (fun K hK => ?_) AllReadyH.nil)
      · go_simp
        refine Calls.mono (l4PairAnyK_ok HDwE4.out.c) ?_
        rintro e wE2 ⟨pr, ⟨rfl, hp1, hp2, hpn⟩, hc5, hg5⟩
        have HDwE2 := Hid.mk (HDwE4.out.step hc5 hg5)
        try have HL4 := Hid.mk (HL4.out.grown hg5 (by simp; omega))
        clear hc5 hg5
        go_wp2_with fail
        refine hK.out _ _ (HDwE2.out.x.cell 0 _ rfl) (fun hHeld => ?_)
        clear hK K
        try simp only [Act.put, sa, s0, s1]
        refine wpAnyH_ready (rs := [5]) (by kernel_rfl) (by simp) ?_
        refine (AllReadyH.cons (o := q12e_8_9_5) rfl (fun K hK => ?_) AllReadyH.nil)
        · go_simp
          refine Calls.mono (l1IntM_ok (some ⟨g4, 0, none⟩) 6 6 [1, 2, 4, 4, 0, 5] HDwE2.out.c rfl (by omega) (by omega) _ (rd_lits _ HL4.out) (fun b o e => by simp at e; omega)) ?_
          rintro e wE5 ⟨j5, ⟨hj5, rfl⟩, hc6, hg6⟩
          have HDwE5 := Hid.mk (HDwE2.out.step hc6 hg6)
          have hT5 := tow_wf j5 hj5
          generalize ([1, 2, 4, 4, 0, 5] : List Int).getD j5 0 = tw at hT5 ⊢
          have HT5 := Hid.mk hT5
          clear hc6 hg6 hT5 hj5
          go_wp2_with fail
          refine hK.out _ _ (HDwE5.out.x.cell 0 _ rfl) (fun hHeld => ?_)
          clear hK K
          try simp only [Act.put, sa, s0, s1]
          refine wpAnyH_ready (rs := [6]) (by kernel_rfl) (by simp) ?_
          refine (AllReadyH.cons (o := q12e_8_9_6) rfl (fun K hK => ?_) AllReadyH.nil)
          · skip
            have hR := HR0.out _ HDwE5.out.k
            have q0 := hR.1.cell 0 _ rfl
            have q1 := hR.1.free 0
            have q2 := hR.1.lt
            obtain ⟨wE6, hq6⟩ : ∃ q, q = wE5.setCell ⟨w.heap.size, 0, none⟩ (.slice am l.length cm) := ⟨_, rfl⟩
            have HF6 : Hid (MpEnd w bm w1'.heap.size (.slice am l.length cm) (.slice am l.length cm) [.string ⟨#[]⟩, .string ⟨#[]⟩, .bool false] l wE6) := by unfold Hid; rw [hq6]; have e1 := HDwE5.out.lb; exact ⟨HDwE5.out.x.other' (by omega), hR.1.put 0 _, hR.2.1.other' (by omega), HDwE5.out.d.other (by omega), hR.2.2.setCell (Nat.le_refl _) _⟩
            clear hR
            go_simp
            rw [← hq6]
            clear hq6 q0 q1 q2
            refine hK.out _ _ (HF6.out.x.cell 0 _ rfl) (fun hHeld => ?_)
            clear hK K
            try simp only [Act.put, sa, s0, s1]
            refine wpAnyH_ready (rs := [7]) (by kernel_rfl) (by simp) ?_
            refine (AllReadyH.cons (o := q12e_8_9_7) rfl (fun K hK => ?_) AllReadyH.nil)
            · skip
              have q0 := HF6.out.q.cell 0 _ rfl
              have q1 := HF6.out.q.free 0
              have q2 := HF6.out.q.lt
              obtain ⟨wE7, hq7⟩ : ∃ q, q = ((wE6.setCell ⟨w.heap.size + 1, 0, none⟩ (.string pr.fKey)).setCell ⟨w.heap.size + 1, 1, none⟩ (.string pr.fVal)).setCell ⟨w.heap.size + 1, 2, none⟩ (.bool pr.fGone) := ⟨_, rfl⟩
              have HF7 : Hid (MpEnd w bm w1'.heap.size (.slice am l.length cm) (.slice am l.length cm) [.string pr.fKey, .string pr.fVal, .bool pr.fGone] l wE7) := by unfold Hid; rw [hq7]; have e1 := HS5.out.lb; exact ⟨((HF6.out.x.other' (by omega)).other' (by omega)).other' (by omega), ((HF6.out.r.other' (by omega)).other' (by omega)).other' (by omega), ((HF6.out.q.put 0 _).put 1 _).put 2 _, ((HF6.out.d.other (by omega)).other (by omega)).other (by omega), ((HF6.out.u.setCell (by simp) _).setCell (by simp) _).setCell (by simp) _⟩
              have q3 := HF6.out.q.cell 1 _ rfl
              have q4 := HF6.out.q.cell 2 _ rfl
              have q5 := HF6.out.q.free 1
              have q6 := HF6.out.q.free 2
              go_simp
              rw [← hq7]
              clear hq7 q0 q1 q2 q3 q4 q5 q6
              refine hK.out _ _ (HF7.out.x.cell 0 _ rfl) (fun hHeld => ?_)
              clear hK K
              try simp only [Act.put, sa, s0, s1]
              refine tk 8 q12e_8_9_8 (some 4) (v := ?v5) rfl rfl (by kernel_rfl) hHeld (by rfl) (fun _ _ _ x => x) (fun w h => ?y5) ?_; (case y5 => (try dsimp only at h); go_simp; try (with_reducible rfl)); try simp only [Act.put, sa, s0, s1]
              refine wpAnyH_done (by kernel_rfl) ?_ _
              have k0 := HF7.out.r.cell 0 _ rfl
              have k1 := HF7.out.q.cell 0 _ rfl
              have k2 := HF7.out.q.cell 1 _ rfl
              have k3 := HF7.out.q.cell 2 _ rfl
              have k4 := HF7.out.r.lt
              have k5 := HF7.out.q.lt
              go_wp2_with fail
              exact bodyPost_ret (v := .tuple #[.agg #[.slice am l.length cm], .agg #[.string pr.fKey, .string pr.fVal, .bool pr.fGone], .int .i64 tw]) (by simp [results, Tryd.results8, go_sem, *]) rfl (show PutDraw w _ _ from ⟨am, cm, l, pr, tw, rfl, ownN_leaf' HF7.out.d.1 (fun y hy => (HF7.out.d.2.1 y hy).ok), HF7.out.d.2.1, HF7.out.d.2.2, ⟨hp1, hp2, HT5.out⟩, HLK.out.elim .inl (fun h => .inr (fun x hx => key_apart (h x hx) hpn.out)), HF7.out.u⟩)

end Go.Proofs.YtadadkookbkkoaaDoor
