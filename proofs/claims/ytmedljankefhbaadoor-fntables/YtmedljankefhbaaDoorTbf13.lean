/-
  Part 14 of the texts that the proof leans on.
-/
import Derived.Test.YtmedljankefhbaaDoorTbf12
import Derived.Test.YtmedljankefhbaaDoorTbf2
import Derived.Test.YtmedljankefhbaaDoorTbf3
import Derived.Test.YtmedljankefhbaaDoorTbf0
set_option linter.unusedVariables false
set_option linter.unusedSimpArgs false
set_option maxRecDepth 10000

namespace Go.Proofs.YtmedljankefhbaaDoor
open Go.RowKit

def ndC (x : MNode) : List Value := [.string x.fP.fKey, .string x.fP.fVal, .bool x.fP.fGone, .int .i64 x.fTower]
def flatN (l : List MNode) : List Value := l.flatMap ndC
def NdOk (x : MNode) : Prop := x.fP.fKey.size ≤ 9223372036854775807 ∧ x.fP.fVal.size ≤ 9223372036854775807 ∧ (Lit.int .i64 x.fTower).wf = true
theorem flatN_len (l : List MNode) : (flatN l).length = l.length * 4 := by
  induction l with
  | nil => rfl
  | cons x r ih => unfold flatN at ih ⊢; rw [List.flatMap_cons, List.length_append, ih]; simp [ndC]; omega
theorem flatN_app (a b : List MNode) : flatN (a ++ b) = flatN a ++ flatN b := by unfold flatN; rw [List.flatMap_append]
theorem flatN_take : ∀ (l : List MNode) (k : Nat), (flatN l).take (k * 4) = flatN (l.take k)
  | [], k => by simp [flatN]
  | x :: r, 0 => by simp [flatN]
  | x :: r, k + 1 => by
    have ih := flatN_take r k
    unfold flatN at ih ⊢
    rw [List.flatMap_cons, List.take_succ_cons, List.flatMap_cons, ← ih]
    rw [show (k + 1) * 4 = (ndC x).length + k * 4 by simp [ndC]; omega, List.take_length_add_append]
theorem flatN_drop : ∀ (l : List MNode) (k : Nat), (flatN l).drop (k * 4) = flatN (l.drop k)
  | [], k => by simp [flatN]
  | x :: r, 0 => by simp [flatN]
  | x :: r, k + 1 => by
    have ih := flatN_drop r k
    unfold flatN at ih ⊢
    rw [List.flatMap_cons, List.drop_succ_cons, ← ih]
    rw [show (k + 1) * 4 = (ndC x).length + k * 4 by simp [ndC]; omega, List.drop_length_add_append]
theorem flatN_at {l : List MNode} {k : Nat} (h : k < l.length) : ((flatN l).drop (k * 4)).take 4 = ndC l[k] := by
  rw [flatN_drop, List.drop_eq_getElem_cons h]
  unfold flatN
  rw [List.flatMap_cons]
  exact List.take_left' rfl
/-- The pair of one node is written over. -/
theorem flatN_set {l : List MNode} {k : Nat} (h : k < l.length) (p : MPair) : (flatN l).take (k * 4) ++ [.string p.fKey, .string p.fVal, .bool p.fGone] ++ (flatN l).drop (k * 4 + 3) = flatN (l.set k ⟨p, l[k].fTower⟩) := by
  have hl : l.set k ⟨p, l[k].fTower⟩ = l.take k ++ ⟨p, l[k].fTower⟩ :: l.drop (k + 1) := by rw [List.set_eq_take_append_cons_drop, if_pos h]
  rw [hl, flatN_app, flatN_take, List.append_assoc]
  congr 1
  rw [← List.drop_drop, flatN_drop, List.drop_eq_getElem_cons h]
  unfold flatN
  rw [List.flatMap_cons, List.flatMap_cons]
  rfl

theorem ownN_ownS {w : World} {base : Nat} {v : Value} {l : List MNode} (h : w.ownsRow base 73 4 v l.length (flatN l)) (hok : ∀ x, x ∈ l → NdOk x) : ownS 4 73 oNode w v l v.ownBlock.toList := by
  rcases h.2 with ⟨rfl, h0⟩ | ⟨g, cap, cur, rfl, hb, hg, hnc, hm, hs, ht⟩
  · exact .inl ⟨rfl, List.eq_nil_of_length_eq_zero h0, rfl⟩
  · refine .inr ⟨g, cap, cur, List.replicate l.length [], rfl, hg, hnc, hm, hs, by simp, fun j hj => ?_, ?_⟩
    · have e1 : (cur.toList.drop (j * 4)).take 4 = ndC l[j] := by
        rw [← flatN_at hj, ← ht, List.drop_take, List.take_take, Nat.min_eq_left (by omega)]
      have hx := hok l[j] (List.getElem_mem hj)
      refine ⟨e1, hx.1, hx.2.1, trivial, hx.2.2, ?_⟩
      rw [List.getD_eq_getElem?_getD, List.getElem?_replicate]
      split <;> rfl
    · have : (List.replicate l.length ([] : List Nat)).flatten = [] := by
        induction l.length with
        | zero => rfl
        | succ n ih => rw [List.replicate_succ, List.flatten_cons, ih]; rfl
      rw [this]
      rfl
theorem ownN_leaf {w : World} {base : Nat} {v : Value} {l : List MNode} (h : w.ownsRow base 73 4 v l.length (flatN l)) (hok : ∀ x, x ∈ l → NdOk x) : ∃ a c, v = .slice a l.length c ∧ LeafL 4 rNode w.heap.size w a c l := by
  obtain ⟨a, c, h1, h2, h3, h4⟩ := ownS.read oNode_good (ownN_ownS h hok)
  exact ⟨a, c, h1, h2, h3, h4⟩

theorem Src.nds {P : Program} {w : World} {B : Nat} {a : Option Addr} {l : List MNode} {tx e' : TypeId} {n c : Nat} (hk : P.underlying tx = some (.slice e')) (hn : l.length = n) (hr : RdS 4 rNode B w a l) : Src P 4 tx (.slice a n c) n (flatN l) w := by
  cases a with
  | none =>
    have hz : l = [] := by
      cases l with
      | nil => rfl
      | cons z r =>
        obtain ⟨_, _, h, _⟩ := hr 0 (by simp)
        cases h
    subst hz
    simp only [List.length_nil] at hn
    subst hn
    exact Src.ofNil w hk c
  | some ad =>
    by_cases h0 : n = 0
    · subst h0
      have hz : l = [] := List.eq_nil_of_length_eq_zero hn
      subst hz
      exact Src.ofSlice w hk ad 0 c [] (by simp) (fun j u hu => by simp at hu) (fun u hu => by cases hu)
    · obtain ⟨b, off, e, _⟩ := hr 0 (by omega)
      simp only [Option.some.injEq] at e
      subst e
      obtain ⟨css, c1, c2, c3, c4⟩ := hr.cells l.length (Nat.le_refl _)
      have hcf : css.flatten = flatN l := by
        have : css = l.map ndC := by
          apply List.ext_getElem (by simpa using c1)
          intro j h1 h2
          rw [List.getElem_map]
          exact (c3 j (by simpa using h2) h1).1
        rw [this]; unfold flatN; rw [List.flatMap_def]
      rw [← hcf]
      refine Src.ofSlice w hk ⟨b, off, none⟩ n c css.flatten (by rw [hcf, flatN_len, hn]) (fun j u hu => by rw [Addr.add_lit]; exact c4 j u hu) ?_
      intro v hv
      rw [hcf] at hv
      unfold flatN at hv
      obtain ⟨x, _, hx⟩ := List.mem_flatMap.1 hv
      simp only [ndC, List.mem_cons, List.not_mem_nil, or_false] at hx
      rcases hx with rfl | rfl | rfl | rfl <;> rfl

/-- Some cells of a row of one's own are written over. -/
theorem own_setCells {w : World} {base e size g n cap o : Nat} {xs news : List Value} (h : w.ownsRow base e size (.slice (some ⟨g, 0, none⟩) n cap) n xs) (ho : o + news.length ≤ n * size) :
    (w.setCells g o news).ownsRow base e size (.slice (some ⟨g, 0, none⟩) n cap) n (xs.take o ++ news ++ xs.drop (o + news.length)) := by
  rcases h.2 with ⟨h0, _⟩ | ⟨g', cap', cur, h0, hb, hg, hnc, hm, hs, ht⟩
  · cases h0
  · simp only [Value.slice.injEq, Option.some.injEq, Addr.mk.injEq, and_true, true_and] at h0
    obtain ⟨rfl, rfl⟩ := h0
    have hmul : n * size ≤ cap * size := Nat.mul_le_mul_right _ hnc
    obtain ⟨cur', c1, c2, c3⟩ := setCells_row' g e news o w cur hg (by omega)
    have hx := h.1
    refine ⟨by simp; omega, .inr ⟨g, cap, cur', rfl, hb, c1, hnc, hm, by rw [c2, hs], ?_⟩⟩
    have h1 : (cur.toList.take o).length = o := by simp; omega
    have h2 : (cur.toList.take o ++ news).length = o + news.length := by rw [List.length_append, h1]
    rw [c3, ← ht, List.take_append (l₁ := cur.toList.take o ++ news), List.take_of_length_le (l := cur.toList.take o ++ news) (by rw [h2]; exact ho), h2, List.take_take, Nat.min_eq_left (by omega), List.drop_take]


def towersP (l : List MNode) : Bool := l.all fun n => inR n.fTower 1 4
def memOkP (m : MMem) : Bool := decide (m.fNodes.length ≤ 60) && pairsOkP (m.fNodes.map MNode.fP) && towersP m.fNodes

def hasKey (l : List MNode) (s : ByteArray) : Bool := l.any fun n => decide (n.fP.fKey = s)
end Go.Proofs.YtmedljankefhbaaDoor

namespace Go.Proofs.YtmedljankefhbaaDoor
open Go.RowKit Go.Maps

theorem towers_take {l : List MNode} {k : Nat} (h : k < l.length) : towersP (l.take (k + 1)) = (towersP (l.take k) && inR l[k].fTower 1 4) := by
  unfold towersP
  rw [List.take_succ_eq_append_getElem h, List.all_append]
  simp
theorem towers_bad {l : List MNode} {k : Nat} (h : k < l.length) (hb : inR l[k].fTower 1 4 = false) : towersP l = false := by
  unfold towersP
  rw [List.all_eq_false]
  exact ⟨l[k], List.getElem_mem h, by rw [hb]; decide⟩
abbrev qc06_58_5_0 : Oper := ⟨some 17, .fieldAddr 73 (.tmp 4) 0, 0, "l04_mem.go:12", #[], none⟩
abbrev qc06_58_5_1 : Oper := ⟨some 18, .load 32 (.tmp 17), 32, "l04_mem.go:12", #[⟨0, .data⟩], none⟩
abbrev qc06_58_5_2 : Oper := ⟨some 19, .call { callee := .value (.func 59), args := #[.tmp 18], argTypes := #[32] }, 4, "l04_mem.go:12", #[⟨1, .data⟩], none⟩
abbrev qc06_58_5_3 : Oper := ⟨some 20, .unOp .not 4 (.tmp 19), 4, "l04_mem.go:12", #[⟨2, .data⟩], none⟩
abbrev qc06_58_5_4 : Oper := ⟨some 21, .move (.tmp 20), 4, "l04_mem.go:12", #[⟨3, .data⟩, ⟨2, .chain⟩], none⟩
abbrev qc06_58_5_5 : Oper := ⟨some 22, .fieldAddr 73 (.tmp 4) 1, 0, "l04_mem.go:12", #[⟨4, .guard⟩], some (4, false)⟩
abbrev qc06_58_5_6 : Oper := ⟨some 23, .load 3 (.tmp 22), 3, "l04_mem.go:12", #[⟨5, .data⟩, ⟨4, .guard⟩], some (4, false)⟩
abbrev qc06_58_5_7 : Oper := ⟨some 24, .call { callee := .value (.func 60), args := #[.tmp 23, .const (.int .i64 1), .const (.int .i64 4)], argTypes := #[3, 3, 3] }, 4, "l04_mem.go:12", #[⟨6, .data⟩, ⟨4, .chain⟩, ⟨4, .guard⟩], some (4, false)⟩
abbrev qc06_58_5_8 : Oper := ⟨some 25, .unOp .not 4 (.tmp 24), 4, "l04_mem.go:12", #[⟨7, .data⟩, ⟨4, .guard⟩], some (4, false)⟩
abbrev qc06_58_5_9 : Oper := ⟨some 26, .pick (.tmp 21) (.const (.bool true)) (.tmp 25), 4, "l04_mem.go:12", #[⟨4, .data⟩, ⟨8, .data⟩], none⟩
abbrev qc06_58_5_10 : Oper := ⟨some 27, .move (.tmp 26), 4, "l04_mem.go:12", #[⟨9, .data⟩, ⟨7, .chain⟩], none⟩
abbrev qc06_58_5_11 : Oper := ⟨some 28, .move (.tmp 3), 3, "l04_mem.go:12", #[⟨10, .guard⟩], some (10, false)⟩
abbrev qc06_58_5_12 : Oper := ⟨some 29, .binOp .gtr 3 (.tmp 28) (.const (.int .i64 0)) 3, 4, "l04_mem.go:12", #[⟨11, .data⟩, ⟨10, .guard⟩], some (10, false)⟩
abbrev qc06_58_5_13 : Oper := ⟨some 30, .move (.tmp 29), 4, "l04_mem.go:12", #[⟨12, .data⟩, ⟨10, .chain⟩, ⟨10, .guard⟩], some (10, false)⟩
abbrev qc06_58_5_14 : Oper := ⟨some 31, .fieldAddr 70 (.tmp 1) 0, 0, "l04_mem.go:12", #[⟨13, .guard⟩], some (13, true)⟩
abbrev qc06_58_5_15 : Oper := ⟨some 32, .load 68 (.tmp 31), 68, "l04_mem.go:12", #[⟨14, .data⟩, ⟨13, .guard⟩], some (13, true)⟩
abbrev qc06_58_5_16 : Oper := ⟨some 33, .move (.tmp 3), 3, "l04_mem.go:12", #[⟨13, .guard⟩], some (13, true)⟩
abbrev qc06_58_5_17 : Oper := ⟨some 34, .binOp .sub 3 (.tmp 33) (.const (.int .i64 1)) 3, 3, "l04_mem.go:12", #[⟨16, .data⟩, ⟨13, .guard⟩], some (13, true)⟩
abbrev qc06_58_5_18 : Oper := ⟨some 35, .indexAddr 68 (.tmp 32) (.tmp 34), 0, "l04_mem.go:12", #[⟨15, .data⟩, ⟨17, .data⟩, ⟨13, .guard⟩], some (13, true)⟩
abbrev qc06_58_5_19 : Oper := ⟨some 36, .fieldAddr 73 (.tmp 35) 0, 0, "l04_mem.go:12", #[⟨18, .data⟩, ⟨13, .guard⟩], some (13, true)⟩
abbrev qc06_58_5_20 : Oper := ⟨some 37, .fieldAddr 32 (.tmp 36) 0, 0, "l04_mem.go:12", #[⟨19, .data⟩, ⟨13, .guard⟩], some (13, true)⟩
abbrev qc06_58_5_21 : Oper := ⟨some 38, .load 9 (.tmp 37), 9, "l04_mem.go:12", #[⟨20, .data⟩, ⟨13, .guard⟩], some (13, true)⟩
abbrev qc06_58_5_22 : Oper := ⟨some 39, .fieldAddr 73 (.tmp 4) 0, 0, "l04_mem.go:12", #[⟨13, .guard⟩], some (13, true)⟩
abbrev qc06_58_5_23 : Oper := ⟨some 40, .fieldAddr 32 (.tmp 39) 0, 0, "l04_mem.go:12", #[⟨22, .data⟩, ⟨13, .guard⟩], some (13, true)⟩
abbrev qc06_58_5_24 : Oper := ⟨some 41, .load 9 (.tmp 40), 9, "l04_mem.go:12", #[⟨23, .data⟩, ⟨13, .guard⟩], some (13, true)⟩
abbrev qc06_58_5_25 : Oper := ⟨some 42, .binOp .geq 9 (.tmp 38) (.tmp 41) 9, 4, "l04_mem.go:12", #[⟨21, .data⟩, ⟨24, .data⟩, ⟨13, .guard⟩], some (13, true)⟩
abbrev qc06_58_5_26 : Oper := ⟨some 43, .pick (.tmp 30) (.tmp 42) (.const (.bool false)), 4, "l04_mem.go:12", #[⟨13, .data⟩, ⟨25, .data⟩, ⟨10, .guard⟩], some (10, false)⟩
abbrev qc06_58_5_27 : Oper := ⟨some 44, .pick (.tmp 27) (.const (.bool true)) (.tmp 43), 4, "l04_mem.go:12", #[⟨10, .data⟩, ⟨26, .data⟩], none⟩

set_option maxHeartbeats 4000000 in
theorem specMemOk_c (cs : List Value) (m : MMem) (w : World) (hr : rMem w.heap.size w cs m) (hw : wMem m ≤ 1048576) :
    Calls Tryd.prog 58 #[.agg cs.toArray] w fun e w' => e = .returned (.bool (memOkP m)) ∧ Below w.heap.size w w' := by
  have HR := Hid.mk hr
  obtain ⟨a0, c0, rfl, hL, _⟩ := hr
  have HL := Hid.mk hL
  have hw2 : m.fNodes.length + sumW wNode m.fNodes ≤ 1048576 := hw
  obtain ⟨n, hx⟩ : ∃ n, n = m.fNodes.length := ⟨_, rfl⟩
  rw [← hx] at hw2
  have hn : n ≤ 1048576 := by omega
  have HV : Hid (memOkP m = (decide (n ≤ 60) && pairsOkP (m.fNodes.map MNode.fP) && towersP m.fNodes)) := by show _ = _; rw [hx]; rfl
  rw [← hx]
  obtain ⟨l, hl⟩ : ∃ l, l = m.fNodes := ⟨_, rfl⟩
  rw [← hl] at HL hx HV
  obtain ⟨ps, hps⟩ : ∃ ps, ps = l.map MNode.fP := ⟨_, rfl⟩
  rw [← hps] at HV
  have HPS := Hid.mk hps
  have HX := Hid.mk hx
  have HSW : Hid (sumW wNode l ≤ 1048576) := by show _ ≤ _; rw [hl]; omega
  clear hL hw hx hl hw2 hps
  go_enter Tryd.func58, Tryd.ntmps58
  go_wp2_with fail
  go_loopw [3] (fun i wr => ∃ k : Nat, k ≤ n ∧ i = .int .i64 k ∧ Hid (pairsOkP ps = upFrom (prevK ps k) (ps.drop k)) ∧ Hid (towersP (l.take k) = true) ∧ Below w.heap.size w wr ∧ Bx wr w.heap.size [.slice a0 n c0]) (fun i _ => n - (intOf i).toNat)
  case atStart => exact ⟨0, Nat.zero_le _, rfl, rfl, rfl, (Below.refl _ _).alloc (Nat.le_refl _) _, Bx.new _ _ _⟩
  case round =>
    obtain ⟨k, hk, rfl, HI, HTI, hbk, hbm⟩ := hrel
    have hbz := hbk.size
    have hlm := hbm.1
    have y0 := hbm.2 0 _ rfl
    by_cases hlt : k < n
    · have hkl : k < l.length := by rw [← HX.out]; exact hlt
      have hkp : k < ps.length := by rw [HPS.out]; simpa using hkl
      have hpk : ps[k] = l[k].fP := by simp [HPS.out]
      obtain ⟨b1, o1, rfl, hB, cs, hcl, hcell, rfl, g0, g1, _, g3, _⟩ := (HL.out.2.2.below rNode_good hbk) k hkl
      have hB' : b1 < wr.heap.size := by omega
      have k0 := hcell 0 _ rfl
      have k1 := hcell 1 _ rfl
      have k2 := hcell 2 _ rfl
      have k3 := hcell 3 _ rfl
      rw [Nat.add_zero] at k0
      have hwk : wPair l[k].fP ≤ 1048576 := Nat.le_trans (sumW_le (f := wNode) hkl) HSW.out
      have HB1 : Hid (pairOkP l[k].fP = false → memOkP m = false) := fun h => by rw [HV.out, HI.out, upFrom_bad1 hkp (by rw [hpk]; exact h), Bool.and_false, Bool.false_and]
      have HB2 : Hid (okPrev (prevK ps k) l[k].fP.fKey = false → memOkP m = false) := fun h => by rw [HV.out, HI.out, upFrom_bad2 hkp (by rw [hpk]; exact h), Bool.and_false, Bool.false_and]
      have HB3 : Hid (inR l[k].fTower 1 4 = false → memOkP m = false) := fun h => by rw [HV.out, towers_bad hkl h, Bool.and_false]
      have HG : Hid (pairOkP l[k].fP = true → okPrev (prevK ps k) l[k].fP.fKey = true → pairsOkP ps = upFrom (prevK ps (k + 1)) (ps.drop (k + 1))) := fun h1 h2 => by rw [HI.out]; exact upFrom_good hkp (by rw [hpk]; exact h1) (by rw [hpk]; exact h2)
      have HGT : Hid (inR l[k].fTower 1 4 = true → towersP (l.take (k + 1)) = true) := fun h => by rw [towers_take hkl, HTI.out, h]; rfl
      clear hcell hcl hpk
      obtain ⟨wp, hwp⟩ : ∃ wp, wp = wr.alloc (.cells #[.string l[k].fP.fKey, .string l[k].fP.fVal, .bool l[k].fP.fGone, .int .i64 l[k].fTower] 73) := ⟨_, rfl⟩
      have hbp : Below wr.heap.size wr wp := by rw [hwp]; exact (Below.refl _ _).alloc (Nat.le_refl _) _
      have hbx : Bx wp wr.heap.size [.string l[k].fP.fKey, .string l[k].fP.fVal, .bool l[k].fP.fGone, .int .i64 l[k].fTower] := by rw [hwp]; exact Bx.new _ _ _
      have hbwp := bthen hbk hbp
      have p0 : ∀ W, Below wp.heap.size wp W → W.cell? ⟨wr.heap.size, 0, none⟩ = some (.string l[k].fP.fKey) := fun W hb => (hbx.under hb).2 0 _ rfl
      have p1 : ∀ W, Below wp.heap.size wp W → W.cell? ⟨wr.heap.size, 1, none⟩ = some (.string l[k].fP.fVal) := fun W hb => (hbx.under hb).2 1 _ rfl
      have p2 : ∀ W, Below wp.heap.size wp W → W.cell? ⟨wr.heap.size, 2, none⟩ = some (.bool l[k].fP.fGone) := fun W hb => (hbx.under hb).2 2 _ rfl
      have p3 : ∀ W, Below wp.heap.size wp W → W.cell? ⟨wr.heap.size, 3, none⟩ = some (.int .i64 l[k].fTower) := fun W hb => (hbx.under hb).2 3 _ rfl
      have pm : ∀ W, Below wp.heap.size wp W → W.cell? ⟨w.heap.size, 0, none⟩ = some (.slice (some ⟨b1, o1, none⟩) n c0) := fun W hb => (hbm.under (bthen hbp hb)).2 0 _ rfl
      have hCp := fun W (hb : Below wp.heap.size wp W) => specPairOk_c [.string l[k].fP.fKey, .string l[k].fP.fVal, .bool l[k].fP.fGone] l[k].fP W ⟨rfl, g0, g1, trivial, trivial⟩ hwk
      have hCi := fun W => inR_any l[k].fTower 1 4 W
      by_cases hP : pairOkP l[k].fP = true
      · simp only [hP] at hCp
        by_cases hI : inR l[k].fTower 1 4 = true
        · simp only [hI] at hCi
          have HTW : Hid (towersP (l.take (k + 1)) = true) := HGT.out hI
          by_cases h0 : k = 0
          · subst h0
            simp only [Nat.zero_mul, Nat.add_zero] at k0 k1 k2 k3
            have HD : Hid (pairsOkP ps = upFrom (prevK ps (0 + 1)) (ps.drop (0 + 1))) := HG.out hP rfl
            clear HB1 HB2 HB3 HG HGT HI HTI
            generalize l[0] = x at *
            go_wp2_with fail
            rw [← hwp]
            clear hwp
            refine wp_region_held_drew (S := fun W => Below wp.heap.size wp W) (by kernel_rfl) (Below.drew (Below.refl _ _)) (fun hHeld => ?_)
            refine tk 0 qc06_58_5_0 (some 17) (v := ?v1) rfl rfl (by kernel_rfl) hHeld (by rfl) (fun _ _ _ x => x) (fun w h => ?y1) ?_; (case y1 => (try dsimp only at h); go_simp; try (with_reducible rfl)); try simp only [Act.put, sa, s0, s1]
            refine tk 1 qc06_58_5_1 (some 18) (v := ?v2) rfl rfl (by kernel_rfl) hHeld (by rfl) (fun _ _ _ x => x) (fun w h => ?y2) ?_; (case y2 => (try dsimp only at h); go_simp; try (with_reducible rfl)); try simp only [Act.put, sa, s0, s1]
            refine wpAnyH_ready (rs := [2]) (by kernel_rfl) (by simp) ?_
            refine AllReadyH.cons (o := qc06_58_5_2) rfl (fun K hK => ?_) AllReadyH.nil
            go_simp
            refine Calls.mono (hCp _ hHeld) ?_
            rintro e w1 ⟨rfl, hx1⟩
            go_wp2_with fail
            refine hK.out _ _ (bthen hHeld hx1) (fun hHeld => ?_)
            clear hK K
            try simp only [Act.put, sa, s0, s1]
            refine tk 3 qc06_58_5_3 (some 20) (v := ?v3) rfl rfl (by kernel_rfl) hHeld (by rfl) (fun _ _ _ x => x) (fun w h => ?y3) ?_; (case y3 => (try dsimp only at h); go_simp; try (with_reducible rfl)); try simp only [Act.put, sa, s0, s1]
            refine tk 4 qc06_58_5_4 (some 21) (v := ?v4) rfl rfl (by kernel_rfl) hHeld (by rfl) (fun _ _ _ x => x) (fun w h => ?y4) ?_; (case y4 => (try dsimp only at h); go_simp; try (with_reducible rfl)); try simp only [Act.put, sa, s0, s1]
            refine tk 5 qc06_58_5_5 (some 22) (v := ?v5) rfl rfl (by kernel_rfl) hHeld (by rfl) (fun _ _ _ x => x) (fun w h => ?y5) ?_; (case y5 => (try dsimp only at h); go_simp; try (with_reducible rfl)); try simp only [Act.put, sa, s0, s1]
            refine tk 6 qc06_58_5_6 (some 23) (v := ?v6) rfl rfl (by kernel_rfl) hHeld (by rfl) (fun _ _ _ x => x) (fun w h => ?y6) ?_; (case y6 => (try dsimp only at h); go_simp; try (with_reducible rfl)); try simp only [Act.put, sa, s0, s1]
            refine wpAnyH_ready (rs := [7]) (by kernel_rfl) (by simp) ?_
            refine AllReadyH.cons (o := qc06_58_5_7) rfl (fun K hK => ?_) AllReadyH.nil
            go_simp
            refine Calls.mono (hCi _) ?_
            rintro e w2 ⟨rfl, hw2⟩
            have hx2 := below_same hw2
            clear hw2
            go_wp2_with fail
            refine hK.out _ _ (bthen hHeld hx2) (fun hHeld => ?_)
            clear hK K
            try simp only [Act.put, sa, s0, s1]
            refine tk 8 qc06_58_5_8 (some 25) (v := ?v7) rfl rfl (by kernel_rfl) hHeld (by rfl) (fun _ _ _ x => x) (fun w h => ?y7) ?_; (case y7 => (try dsimp only at h); go_simp; try (with_reducible rfl)); try simp only [Act.put, sa, s0, s1]
            refine tk 9 qc06_58_5_9 (some 26) (v := ?v8) rfl rfl (by kernel_rfl) hHeld (by rfl) (fun _ _ _ x => x) (fun w h => ?y8) ?_; (case y8 => (try dsimp only at h); go_simp; try (with_reducible rfl)); try simp only [Act.put, sa, s0, s1]
            refine tk 10 qc06_58_5_10 (some 27) (v := ?v9) rfl rfl (by kernel_rfl) hHeld (by rfl) (fun _ _ _ x => x) (fun w h => ?y9) ?_; (case y9 => (try dsimp only at h); go_simp; try (with_reducible rfl)); try simp only [Act.put, sa, s0, s1]
            refine tk 11 qc06_58_5_11 (some 28) (v := ?v10) rfl rfl (by kernel_rfl) hHeld (by rfl) (fun _ _ _ x => x) (fun w h => ?y10) ?_; (case y10 => (try dsimp only at h); go_simp; try (with_reducible rfl)); try simp only [Act.put, sa, s0, s1]
            refine tk 12 qc06_58_5_12 (some 29) (v := ?v11) rfl rfl (by kernel_rfl) hHeld (by rfl) (fun _ _ _ x => x) (fun w h => ?y11) ?_; (case y11 => (try dsimp only at h); go_simp; try (with_reducible rfl)); try simp only [Act.put, sa, s0, s1]
            refine tk 13 qc06_58_5_13 (some 30) (v := ?v12) rfl rfl (by kernel_rfl) hHeld (by rfl) (fun _ _ _ x => x) (fun w h => ?y12) ?_; (case y12 => (try dsimp only at h); go_simp; try (with_reducible rfl)); try simp only [Act.put, sa, s0, s1]
            refine tn 14 qc06_58_5_14 (some 31) rfl rfl (by kernel_rfl) hHeld (by rfl) (fun _ _ _ x => x) ?_; try simp only [Act.put, sa, s0, s1]
            refine tn 15 qc06_58_5_15 (some 32) rfl rfl (by kernel_rfl) hHeld (by rfl) (fun _ _ _ x => x) ?_; try simp only [Act.put, sa, s0, s1]
            refine tn 16 qc06_58_5_16 (some 33) rfl rfl (by kernel_rfl) hHeld (by rfl) (fun _ _ _ x => x) ?_; try simp only [Act.put, sa, s0, s1]
            refine tn 17 qc06_58_5_17 (some 34) rfl rfl (by kernel_rfl) hHeld (by rfl) (fun _ _ _ x => x) ?_; try simp only [Act.put, sa, s0, s1]
            refine tn 18 qc06_58_5_18 (some 35) rfl rfl (by kernel_rfl) hHeld (by rfl) (fun _ _ _ x => x) ?_; try simp only [Act.put, sa, s0, s1]
            refine tn 19 qc06_58_5_19 (some 36) rfl rfl (by kernel_rfl) hHeld (by rfl) (fun _ _ _ x => x) ?_; try simp only [Act.put, sa, s0, s1]
            refine tn 20 qc06_58_5_20 (some 37) rfl rfl (by kernel_rfl) hHeld (by rfl) (fun _ _ _ x => x) ?_; try simp only [Act.put, sa, s0, s1]
            refine tn 21 qc06_58_5_21 (some 38) rfl rfl (by kernel_rfl) hHeld (by rfl) (fun _ _ _ x => x) ?_; try simp only [Act.put, sa, s0, s1]
            refine tn 22 qc06_58_5_22 (some 39) rfl rfl (by kernel_rfl) hHeld (by rfl) (fun _ _ _ x => x) ?_; try simp only [Act.put, sa, s0, s1]
            refine tn 23 qc06_58_5_23 (some 40) rfl rfl (by kernel_rfl) hHeld (by rfl) (fun _ _ _ x => x) ?_; try simp only [Act.put, sa, s0, s1]
            refine tn 24 qc06_58_5_24 (some 41) rfl rfl (by kernel_rfl) hHeld (by rfl) (fun _ _ _ x => x) ?_; try simp only [Act.put, sa, s0, s1]
            refine tn 25 qc06_58_5_25 (some 42) rfl rfl (by kernel_rfl) hHeld (by rfl) (fun _ _ _ x => x) ?_; try simp only [Act.put, sa, s0, s1]
            refine tk 26 qc06_58_5_26 (some 43) (v := ?v25) rfl rfl (by kernel_rfl) hHeld (by rfl) (fun _ _ _ x => x) (fun w h => ?y25) ?_; (case y25 => (try dsimp only at h); go_simp; try (with_reducible rfl)); try simp only [Act.put, sa, s0, s1]
            refine tk 27 qc06_58_5_27 (some 44) (v := ?v26) rfl rfl (by kernel_rfl) hHeld (by rfl) (fun _ _ _ x => x) (fun w h => ?y26) ?_; (case y26 => (try dsimp only at h); go_simp; try (with_reducible rfl)); try simp only [Act.put, sa, s0, s1]
            refine wpAnyH_done (by kernel_rfl) ?_ _
            go_wp2_with fail
            go_roundw
            case rel => exact ⟨1, by omega, by go_num, HD, HTW, bthen hbwp hHeld, hbm.under (bthen hbp hHeld)⟩
            case measure => simp [intOf]; omega
          · obtain ⟨j, rfl⟩ : ∃ j, k = j + 1 := ⟨k - 1, by omega⟩
            have hjl : j < l.length := by omega
            have hjp : j < ps.length := by omega
            have hpj : ps[j] = l[j].fP := by simp [HPS.out]
            obtain ⟨b1', o1', he1, _, cs', hcl', hcell', rfl, g0', g1', _, _⟩ := (HL.out.2.2.below rNode_good hbk) j hjl
            simp only [Option.some.injEq, Addr.mk.injEq, and_true] at he1
            obtain ⟨rfl, rfl⟩ := he1
            have j0 := hcell' 0 _ rfl
            rw [Nat.add_zero] at j0
            have q0 : ∀ W, Below wp.heap.size wp W → W.cell? ⟨b1, o1 + j * 4, none⟩ = some (.string l[j].fP.fKey) := fun W hb => ((bthen hbp hb).cell (p := ⟨b1, o1 + j * 4, none⟩) hB').trans j0
            have HPK : Hid (okPrev (prevK ps (j + 1)) l[j + 1].fP.fKey = kLt l[j].fP.fKey l[j + 1].fP.fKey) := by show _ = _; rw [prevK_succ hjp, hpj]; rfl
            have hj1 : (0 : Int) ≤ (j : Int) := by omega
            have hj2 : (j : Int) < (n : Int) := by omega
            have hwr : IntKind.i64.wrap (j : Int) = (j : Int) := by rw [IntKind.wrap_i64]; omega
            clear hcell' hcl' j0 hpj
            by_cases hK : kLt l[j].fP.fKey l[j + 1].fP.fKey = true
            · have HD : Hid (pairsOkP ps = upFrom (prevK ps (j + 1 + 1)) (ps.drop (j + 1 + 1))) := HG.out hP (by rw [HPK.out]; exact hK)
              obtain ⟨f1, f2, f3⟩ := kLt_facts hK
              clear HB1 HB2 HB3 HG HGT HI HPK HTI hK
              generalize l[j + 1] = x at *
              generalize l[j] = y at *
              go_wp2_with fail
              rw [← hwp]
              clear hwp
              refine wp_region_held_drew (S := fun W => Below wp.heap.size wp W) (by kernel_rfl) (Below.drew (Below.refl _ _)) (fun hHeld => ?_)
              refine tk 0 qc06_58_5_0 (some 17) (v := ?v27) rfl rfl (by kernel_rfl) hHeld (by rfl) (fun _ _ _ x => x) (fun w h => ?y27) ?_; (case y27 => (try dsimp only at h); go_simp; try (with_reducible rfl)); try simp only [Act.put, sa, s0, s1]
              refine tk 1 qc06_58_5_1 (some 18) (v := ?v28) rfl rfl (by kernel_rfl) hHeld (by rfl) (fun _ _ _ x => x) (fun w h => ?y28) ?_; (case y28 => (try dsimp only at h); go_simp; try (with_reducible rfl)); try simp only [Act.put, sa, s0, s1]
              refine wpAnyH_ready (rs := [2]) (by kernel_rfl) (by simp) ?_
              refine AllReadyH.cons (o := qc06_58_5_2) rfl (fun K hK => ?_) AllReadyH.nil
              go_simp
              refine Calls.mono (hCp _ hHeld) ?_
              rintro e w1 ⟨rfl, hx1⟩
              go_wp2_with fail
              refine hK.out _ _ (bthen hHeld hx1) (fun hHeld => ?_)
              clear hK K
              try simp only [Act.put, sa, s0, s1]
              refine tk 3 qc06_58_5_3 (some 20) (v := ?v29) rfl rfl (by kernel_rfl) hHeld (by rfl) (fun _ _ _ x => x) (fun w h => ?y29) ?_; (case y29 => (try dsimp only at h); go_simp; try (with_reducible rfl)); try simp only [Act.put, sa, s0, s1]
              refine tk 4 qc06_58_5_4 (some 21) (v := ?v30) rfl rfl (by kernel_rfl) hHeld (by rfl) (fun _ _ _ x => x) (fun w h => ?y30) ?_; (case y30 => (try dsimp only at h); go_simp; try (with_reducible rfl)); try simp only [Act.put, sa, s0, s1]
              refine tk 5 qc06_58_5_5 (some 22) (v := ?v31) rfl rfl (by kernel_rfl) hHeld (by rfl) (fun _ _ _ x => x) (fun w h => ?y31) ?_; (case y31 => (try dsimp only at h); go_simp; try (with_reducible rfl)); try simp only [Act.put, sa, s0, s1]
              refine tk 6 qc06_58_5_6 (some 23) (v := ?v32) rfl rfl (by kernel_rfl) hHeld (by rfl) (fun _ _ _ x => x) (fun w h => ?y32) ?_; (case y32 => (try dsimp only at h); go_simp; try (with_reducible rfl)); try simp only [Act.put, sa, s0, s1]
              refine wpAnyH_ready (rs := [7]) (by kernel_rfl) (by simp) ?_
              refine AllReadyH.cons (o := qc06_58_5_7) rfl (fun K hK => ?_) AllReadyH.nil
              go_simp
              refine Calls.mono (hCi _) ?_
              rintro e w2 ⟨rfl, hw2⟩
              have hx2 := below_same hw2
              clear hw2
              go_wp2_with fail
              refine hK.out _ _ (bthen hHeld hx2) (fun hHeld => ?_)
              clear hK K
              try simp only [Act.put, sa, s0, s1]
              refine tk 8 qc06_58_5_8 (some 25) (v := ?v33) rfl rfl (by kernel_rfl) hHeld (by rfl) (fun _ _ _ x => x) (fun w h => ?y33) ?_; (case y33 => (try dsimp only at h); go_simp; try (with_reducible rfl)); try simp only [Act.put, sa, s0, s1]
              refine tk 9 qc06_58_5_9 (some 26) (v := ?v34) rfl rfl (by kernel_rfl) hHeld (by rfl) (fun _ _ _ x => x) (fun w h => ?y34) ?_; (case y34 => (try dsimp only at h); go_simp; try (with_reducible rfl)); try simp only [Act.put, sa, s0, s1]
              refine tk 10 qc06_58_5_10 (some 27) (v := ?v35) rfl rfl (by kernel_rfl) hHeld (by rfl) (fun _ _ _ x => x) (fun w h => ?y35) ?_; (case y35 => (try dsimp only at h); go_simp; try (with_reducible rfl)); try simp only [Act.put, sa, s0, s1]
              refine tk 11 qc06_58_5_11 (some 28) (v := ?v36) rfl rfl (by kernel_rfl) hHeld (by rfl) (fun _ _ _ x => x) (fun w h => ?y36) ?_; (case y36 => (try dsimp only at h); go_simp; try (with_reducible rfl)); try simp only [Act.put, sa, s0, s1]
              refine tk 12 qc06_58_5_12 (some 29) (v := ?v37) rfl rfl (by kernel_rfl) hHeld (by rfl) (fun _ _ _ x => x) (fun w h => ?y37) ?_; (case y37 => (try dsimp only at h); go_simp; try (with_reducible rfl)); try simp only [Act.put, sa, s0, s1]
              refine tk 13 qc06_58_5_13 (some 30) (v := ?v38) rfl rfl (by kernel_rfl) hHeld (by rfl) (fun _ _ _ x => x) (fun w h => ?y38) ?_; (case y38 => (try dsimp only at h); go_simp; try (with_reducible rfl)); try simp only [Act.put, sa, s0, s1]
              refine tk 14 qc06_58_5_14 (some 31) (v := ?v39) rfl rfl (by kernel_rfl) hHeld (by rfl) (fun _ _ _ x => x) (fun w h => ?y39) ?_; (case y39 => (try dsimp only at h); go_simp; try (with_reducible rfl)); try simp only [Act.put, sa, s0, s1]
              refine tk 15 qc06_58_5_15 (some 32) (v := ?v40) rfl rfl (by kernel_rfl) hHeld (by rfl) (fun _ _ _ x => x) (fun w h => ?y40) ?_; (case y40 => (try dsimp only at h); go_simp; try (with_reducible rfl)); try simp only [Act.put, sa, s0, s1]
              refine tk 16 qc06_58_5_16 (some 33) (v := ?v41) rfl rfl (by kernel_rfl) hHeld (by rfl) (fun _ _ _ x => x) (fun w h => ?y41) ?_; (case y41 => (try dsimp only at h); go_simp; try (with_reducible rfl)); try simp only [Act.put, sa, s0, s1]
              refine tk 17 qc06_58_5_17 (some 34) (v := ?v42) rfl rfl (by kernel_rfl) hHeld (by rfl) (fun _ _ _ x => x) (fun w h => ?y42) ?_; (case y42 => (try dsimp only at h); go_simp; try (with_reducible rfl)); try simp only [Act.put, sa, s0, s1]
              refine tk 18 qc06_58_5_18 (some 35) (v := ?v43) rfl rfl (by kernel_rfl) hHeld (by rfl) (fun _ _ _ x => x) (fun w h => ?y43) ?_; (case y43 => (try dsimp only at h); go_simp; try (with_reducible rfl)); try simp only [Act.put, sa, s0, s1]
              refine tk 19 qc06_58_5_19 (some 36) (v := ?v44) rfl rfl (by kernel_rfl) hHeld (by rfl) (fun _ _ _ x => x) (fun w h => ?y44) ?_; (case y44 => (try dsimp only at h); go_simp; try (with_reducible rfl)); try simp only [Act.put, sa, s0, s1]
              refine tk 20 qc06_58_5_20 (some 37) (v := ?v45) rfl rfl (by kernel_rfl) hHeld (by rfl) (fun _ _ _ x => x) (fun w h => ?y45) ?_; (case y45 => (try dsimp only at h); go_simp; try (with_reducible rfl)); try simp only [Act.put, sa, s0, s1]
              refine tk 21 qc06_58_5_21 (some 38) (v := ?v46) rfl rfl (by kernel_rfl) hHeld (by rfl) (fun _ _ _ x => x) (fun w h => ?y46) ?_; (case y46 => (try dsimp only at h); go_simp; try (with_reducible rfl)); try simp only [Act.put, sa, s0, s1]
              refine tk 22 qc06_58_5_22 (some 39) (v := ?v47) rfl rfl (by kernel_rfl) hHeld (by rfl) (fun _ _ _ x => x) (fun w h => ?y47) ?_; (case y47 => (try dsimp only at h); go_simp; try (with_reducible rfl)); try simp only [Act.put, sa, s0, s1]
              refine tk 23 qc06_58_5_23 (some 40) (v := ?v48) rfl rfl (by kernel_rfl) hHeld (by rfl) (fun _ _ _ x => x) (fun w h => ?y48) ?_; (case y48 => (try dsimp only at h); go_simp; try (with_reducible rfl)); try simp only [Act.put, sa, s0, s1]
              refine tk 24 qc06_58_5_24 (some 41) (v := ?v49) rfl rfl (by kernel_rfl) hHeld (by rfl) (fun _ _ _ x => x) (fun w h => ?y49) ?_; (case y49 => (try dsimp only at h); go_simp; try (with_reducible rfl)); try simp only [Act.put, sa, s0, s1]
              refine tk 25 qc06_58_5_25 (some 42) (v := ?v50) rfl rfl (by kernel_rfl) hHeld (by rfl) (fun _ _ _ x => x) (fun w h => ?y50) ?_; (case y50 => (try dsimp only at h); go_simp; try (with_reducible rfl)); try simp only [Act.put, sa, s0, s1]
              refine tk 26 qc06_58_5_26 (some 43) (v := ?v51) rfl rfl (by kernel_rfl) hHeld (by rfl) (fun _ _ _ x => x) (fun w h => ?y51) ?_; (case y51 => (try dsimp only at h); go_simp; try (with_reducible rfl)); try simp only [Act.put, sa, s0, s1]
              refine tk 27 qc06_58_5_27 (some 44) (v := ?v52) rfl rfl (by kernel_rfl) hHeld (by rfl) (fun _ _ _ x => x) (fun w h => ?y52) ?_; (case y52 => (try dsimp only at h); go_simp; try (with_reducible rfl)); try simp only [Act.put, sa, s0, s1]
              refine wpAnyH_done (by kernel_rfl) ?_ _
              go_wp2_with fail
              go_roundw
              case rel => exact ⟨j + 1 + 1, by omega, by go_num, HD, HTW, bthen hbwp hHeld, hbm.under (bthen hbp hHeld)⟩
              case measure => simp [intOf]; omega
            · have hK2 : kLt l[j].fP.fKey l[j + 1].fP.fKey = false := Bool.eq_false_iff.2 hK
              have HD : Hid (memOkP m = false) := HB2.out (by rw [HPK.out]; exact hK2)
              have f1 : Op.bytesLess l[j].fP.fKey.toList l[j + 1].fP.fKey.toList = false := hK2
              clear HB1 HB2 HB3 HG HGT HI HPK HTI hK hK2
              generalize l[j + 1] = x at *
              generalize l[j] = y at *
              go_wp2_with fail
              rw [← hwp]
              clear hwp
              refine wp_region_held_drew (S := fun W => Below wp.heap.size wp W) (by kernel_rfl) (Below.drew (Below.refl _ _)) (fun hHeld => ?_)
              refine tk 0 qc06_58_5_0 (some 17) (v := ?v53) rfl rfl (by kernel_rfl) hHeld (by rfl) (fun _ _ _ x => x) (fun w h => ?y53) ?_; (case y53 => (try dsimp only at h); go_simp; try (with_reducible rfl)); try simp only [Act.put, sa, s0, s1]
              refine tk 1 qc06_58_5_1 (some 18) (v := ?v54) rfl rfl (by kernel_rfl) hHeld (by rfl) (fun _ _ _ x => x) (fun w h => ?y54) ?_; (case y54 => (try dsimp only at h); go_simp; try (with_reducible rfl)); try simp only [Act.put, sa, s0, s1]
              refine wpAnyH_ready (rs := [2]) (by kernel_rfl) (by simp) ?_
              refine AllReadyH.cons (o := qc06_58_5_2) rfl (fun K hK => ?_) AllReadyH.nil
              go_simp
              refine Calls.mono (hCp _ hHeld) ?_
              rintro e w1 ⟨rfl, hx1⟩
              go_wp2_with fail
              refine hK.out _ _ (bthen hHeld hx1) (fun hHeld => ?_)
              clear hK K
              try simp only [Act.put, sa, s0, s1]
              refine tk 3 qc06_58_5_3 (some 20) (v := ?v55) rfl rfl (by kernel_rfl) hHeld (by rfl) (fun _ _ _ x => x) (fun w h => ?y55) ?_; (case y55 => (try dsimp only at h); go_simp; try (with_reducible rfl)); try simp only [Act.put, sa, s0, s1]
              refine tk 4 qc06_58_5_4 (some 21) (v := ?v56) rfl rfl (by kernel_rfl) hHeld (by rfl) (fun _ _ _ x => x) (fun w h => ?y56) ?_; (case y56 => (try dsimp only at h); go_simp; try (with_reducible rfl)); try simp only [Act.put, sa, s0, s1]
              refine tk 5 qc06_58_5_5 (some 22) (v := ?v57) rfl rfl (by kernel_rfl) hHeld (by rfl) (fun _ _ _ x => x) (fun w h => ?y57) ?_; (case y57 => (try dsimp only at h); go_simp; try (with_reducible rfl)); try simp only [Act.put, sa, s0, s1]
              refine tk 6 qc06_58_5_6 (some 23) (v := ?v58) rfl rfl (by kernel_rfl) hHeld (by rfl) (fun _ _ _ x => x) (fun w h => ?y58) ?_; (case y58 => (try dsimp only at h); go_simp; try (with_reducible rfl)); try simp only [Act.put, sa, s0, s1]
              refine wpAnyH_ready (rs := [7]) (by kernel_rfl) (by simp) ?_
              refine AllReadyH.cons (o := qc06_58_5_7) rfl (fun K hK => ?_) AllReadyH.nil
              go_simp
              refine Calls.mono (hCi _) ?_
              rintro e w2 ⟨rfl, hw2⟩
              have hx2 := below_same hw2
              clear hw2
              go_wp2_with fail
              refine hK.out _ _ (bthen hHeld hx2) (fun hHeld => ?_)
              clear hK K
              try simp only [Act.put, sa, s0, s1]
              refine tk 8 qc06_58_5_8 (some 25) (v := ?v59) rfl rfl (by kernel_rfl) hHeld (by rfl) (fun _ _ _ x => x) (fun w h => ?y59) ?_; (case y59 => (try dsimp only at h); go_simp; try (with_reducible rfl)); try simp only [Act.put, sa, s0, s1]
              refine tk 9 qc06_58_5_9 (some 26) (v := ?v60) rfl rfl (by kernel_rfl) hHeld (by rfl) (fun _ _ _ x => x) (fun w h => ?y60) ?_; (case y60 => (try dsimp only at h); go_simp; try (with_reducible rfl)); try simp only [Act.put, sa, s0, s1]
              refine tk 10 qc06_58_5_10 (some 27) (v := ?v61) rfl rfl (by kernel_rfl) hHeld (by rfl) (fun _ _ _ x => x) (fun w h => ?y61) ?_; (case y61 => (try dsimp only at h); go_simp; try (with_reducible rfl)); try simp only [Act.put, sa, s0, s1]
              refine tk 11 qc06_58_5_11 (some 28) (v := ?v62) rfl rfl (by kernel_rfl) hHeld (by rfl) (fun _ _ _ x => x) (fun w h => ?y62) ?_; (case y62 => (try dsimp only at h); go_simp; try (with_reducible rfl)); try simp only [Act.put, sa, s0, s1]
              refine tk 12 qc06_58_5_12 (some 29) (v := ?v63) rfl rfl (by kernel_rfl) hHeld (by rfl) (fun _ _ _ x => x) (fun w h => ?y63) ?_; (case y63 => (try dsimp only at h); go_simp; try (with_reducible rfl)); try simp only [Act.put, sa, s0, s1]
              refine tk 13 qc06_58_5_13 (some 30) (v := ?v64) rfl rfl (by kernel_rfl) hHeld (by rfl) (fun _ _ _ x => x) (fun w h => ?y64) ?_; (case y64 => (try dsimp only at h); go_simp; try (with_reducible rfl)); try simp only [Act.put, sa, s0, s1]
              refine tk 14 qc06_58_5_14 (some 31) (v := ?v65) rfl rfl (by kernel_rfl) hHeld (by rfl) (fun _ _ _ x => x) (fun w h => ?y65) ?_; (case y65 => (try dsimp only at h); go_simp; try (with_reducible rfl)); try simp only [Act.put, sa, s0, s1]
              refine tk 15 qc06_58_5_15 (some 32) (v := ?v66) rfl rfl (by kernel_rfl) hHeld (by rfl) (fun _ _ _ x => x) (fun w h => ?y66) ?_; (case y66 => (try dsimp only at h); go_simp; try (with_reducible rfl)); try simp only [Act.put, sa, s0, s1]
              refine tk 16 qc06_58_5_16 (some 33) (v := ?v67) rfl rfl (by kernel_rfl) hHeld (by rfl) (fun _ _ _ x => x) (fun w h => ?y67) ?_; (case y67 => (try dsimp only at h); go_simp; try (with_reducible rfl)); try simp only [Act.put, sa, s0, s1]
              refine tk 17 qc06_58_5_17 (some 34) (v := ?v68) rfl rfl (by kernel_rfl) hHeld (by rfl) (fun _ _ _ x => x) (fun w h => ?y68) ?_; (case y68 => (try dsimp only at h); go_simp; try (with_reducible rfl)); try simp only [Act.put, sa, s0, s1]
              refine tk 18 qc06_58_5_18 (some 35) (v := ?v69) rfl rfl (by kernel_rfl) hHeld (by rfl) (fun _ _ _ x => x) (fun w h => ?y69) ?_; (case y69 => (try dsimp only at h); go_simp; try (with_reducible rfl)); try simp only [Act.put, sa, s0, s1]
              refine tk 19 qc06_58_5_19 (some 36) (v := ?v70) rfl rfl (by kernel_rfl) hHeld (by rfl) (fun _ _ _ x => x) (fun w h => ?y70) ?_; (case y70 => (try dsimp only at h); go_simp; try (with_reducible rfl)); try simp only [Act.put, sa, s0, s1]
              refine tk 20 qc06_58_5_20 (some 37) (v := ?v71) rfl rfl (by kernel_rfl) hHeld (by rfl) (fun _ _ _ x => x) (fun w h => ?y71) ?_; (case y71 => (try dsimp only at h); go_simp; try (with_reducible rfl)); try simp only [Act.put, sa, s0, s1]
              refine tk 21 qc06_58_5_21 (some 38) (v := ?v72) rfl rfl (by kernel_rfl) hHeld (by rfl) (fun _ _ _ x => x) (fun w h => ?y72) ?_; (case y72 => (try dsimp only at h); go_simp; try (with_reducible rfl)); try simp only [Act.put, sa, s0, s1]
              refine tk 22 qc06_58_5_22 (some 39) (v := ?v73) rfl rfl (by kernel_rfl) hHeld (by rfl) (fun _ _ _ x => x) (fun w h => ?y73) ?_; (case y73 => (try dsimp only at h); go_simp; try (with_reducible rfl)); try simp only [Act.put, sa, s0, s1]
              refine tk 23 qc06_58_5_23 (some 40) (v := ?v74) rfl rfl (by kernel_rfl) hHeld (by rfl) (fun _ _ _ x => x) (fun w h => ?y74) ?_; (case y74 => (try dsimp only at h); go_simp; try (with_reducible rfl)); try simp only [Act.put, sa, s0, s1]
              refine tk 24 qc06_58_5_24 (some 41) (v := ?v75) rfl rfl (by kernel_rfl) hHeld (by rfl) (fun _ _ _ x => x) (fun w h => ?y75) ?_; (case y75 => (try dsimp only at h); go_simp; try (with_reducible rfl)); try simp only [Act.put, sa, s0, s1]
              refine tk 25 qc06_58_5_25 (some 42) (v := ?v76) rfl rfl (by kernel_rfl) hHeld (by rfl) (fun _ _ _ x => x) (fun w h => ?y76) ?_; (case y76 => (try dsimp only at h); go_simp; try (with_reducible rfl)); try simp only [Act.put, sa, s0, s1]
              refine tk 26 qc06_58_5_26 (some 43) (v := ?v77) rfl rfl (by kernel_rfl) hHeld (by rfl) (fun _ _ _ x => x) (fun w h => ?y77) ?_; (case y77 => (try dsimp only at h); go_simp; try (with_reducible rfl)); try simp only [Act.put, sa, s0, s1]
              refine tk 27 qc06_58_5_27 (some 44) (v := ?v78) rfl rfl (by kernel_rfl) hHeld (by rfl) (fun _ _ _ x => x) (fun w h => ?y78) ?_; (case y78 => (try dsimp only at h); go_simp; try (with_reducible rfl)); try simp only [Act.put, sa, s0, s1]
              refine wpAnyH_done (by kernel_rfl) ?_ _
              go_wp2_with fail
              go_ret
              exact ⟨by rw [HD.out]; rfl, bthen hbwp hHeld⟩
        · have hI2 : inR l[k].fTower 1 4 = false := Bool.eq_false_iff.2 hI
          simp only [hI2] at hCi
          have HD : Hid (memOkP m = false) := HB3.out hI2
          clear HB1 HB2 HB3 HG HGT HI HTI
          generalize l[k] = x at *
          go_wp2_with fail
          rw [← hwp]
          clear hwp
          refine wp_region_held_drew (S := fun W => Below wp.heap.size wp W) (by kernel_rfl) (Below.drew (Below.refl _ _)) (fun hHeld => ?_)
          refine tk 0 qc06_58_5_0 (some 17) (v := ?v79) rfl rfl (by kernel_rfl) hHeld (by rfl) (fun _ _ _ x => x) (fun w h => ?y79) ?_; (case y79 => (try dsimp only at h); go_simp; try (with_reducible rfl)); try simp only [Act.put, sa, s0, s1]
          refine tk 1 qc06_58_5_1 (some 18) (v := ?v80) rfl rfl (by kernel_rfl) hHeld (by rfl) (fun _ _ _ x => x) (fun w h => ?y80) ?_; (case y80 => (try dsimp only at h); go_simp; try (with_reducible rfl)); try simp only [Act.put, sa, s0, s1]
          refine wpAnyH_ready (rs := [2]) (by kernel_rfl) (by simp) ?_
          refine AllReadyH.cons (o := qc06_58_5_2) rfl (fun K hK => ?_) AllReadyH.nil
          go_simp
          refine Calls.mono (hCp _ hHeld) ?_
          rintro e w1 ⟨rfl, hx1⟩
          go_wp2_with fail
          refine hK.out _ _ (bthen hHeld hx1) (fun hHeld => ?_)
          clear hK K
          try simp only [Act.put, sa, s0, s1]
          refine tk 3 qc06_58_5_3 (some 20) (v := ?v81) rfl rfl (by kernel_rfl) hHeld (by rfl) (fun _ _ _ x => x) (fun w h => ?y81) ?_; (case y81 => (try dsimp only at h); go_simp; try (with_reducible rfl)); try simp only [Act.put, sa, s0, s1]
          refine tk 4 qc06_58_5_4 (some 21) (v := ?v82) rfl rfl (by kernel_rfl) hHeld (by rfl) (fun _ _ _ x => x) (fun w h => ?y82) ?_; (case y82 => (try dsimp only at h); go_simp; try (with_reducible rfl)); try simp only [Act.put, sa, s0, s1]
          refine tk 5 qc06_58_5_5 (some 22) (v := ?v83) rfl rfl (by kernel_rfl) hHeld (by rfl) (fun _ _ _ x => x) (fun w h => ?y83) ?_; (case y83 => (try dsimp only at h); go_simp; try (with_reducible rfl)); try simp only [Act.put, sa, s0, s1]
          refine tk 6 qc06_58_5_6 (some 23) (v := ?v84) rfl rfl (by kernel_rfl) hHeld (by rfl) (fun _ _ _ x => x) (fun w h => ?y84) ?_; (case y84 => (try dsimp only at h); go_simp; try (with_reducible rfl)); try simp only [Act.put, sa, s0, s1]
          refine wpAnyH_ready (rs := [7]) (by kernel_rfl) (by simp) ?_
          refine AllReadyH.cons (o := qc06_58_5_7) rfl (fun K hK => ?_) AllReadyH.nil
          go_simp
          refine Calls.mono (hCi _) ?_
          rintro e w2 ⟨rfl, hw2⟩
          have hx2 := below_same hw2
          clear hw2
          go_wp2_with fail
          refine hK.out _ _ (bthen hHeld hx2) (fun hHeld => ?_)
          clear hK K
          try simp only [Act.put, sa, s0, s1]
          refine tk 8 qc06_58_5_8 (some 25) (v := ?v85) rfl rfl (by kernel_rfl) hHeld (by rfl) (fun _ _ _ x => x) (fun w h => ?y85) ?_; (case y85 => (try dsimp only at h); go_simp; try (with_reducible rfl)); try simp only [Act.put, sa, s0, s1]
          refine tk 9 qc06_58_5_9 (some 26) (v := ?v86) rfl rfl (by kernel_rfl) hHeld (by rfl) (fun _ _ _ x => x) (fun w h => ?y86) ?_; (case y86 => (try dsimp only at h); go_simp; try (with_reducible rfl)); try simp only [Act.put, sa, s0, s1]
          refine tk 10 qc06_58_5_10 (some 27) (v := ?v87) rfl rfl (by kernel_rfl) hHeld (by rfl) (fun _ _ _ x => x) (fun w h => ?y87) ?_; (case y87 => (try dsimp only at h); go_simp; try (with_reducible rfl)); try simp only [Act.put, sa, s0, s1]
          refine tn 11 qc06_58_5_11 (some 28) rfl rfl (by kernel_rfl) hHeld (by rfl) (fun _ _ _ x => x) ?_; try simp only [Act.put, sa, s0, s1]
          refine tn 12 qc06_58_5_12 (some 29) rfl rfl (by kernel_rfl) hHeld (by rfl) (fun _ _ _ x => x) ?_; try simp only [Act.put, sa, s0, s1]
          refine tn 13 qc06_58_5_13 (some 30) rfl rfl (by kernel_rfl) hHeld (by rfl) (fun _ _ _ x => x) ?_; try simp only [Act.put, sa, s0, s1]
          refine tn 14 qc06_58_5_14 (some 31) rfl rfl (by kernel_rfl) hHeld (by rfl) (fun _ _ _ x => x) ?_; try simp only [Act.put, sa, s0, s1]
          refine tn 15 qc06_58_5_15 (some 32) rfl rfl (by kernel_rfl) hHeld (by rfl) (fun _ _ _ x => x) ?_; try simp only [Act.put, sa, s0, s1]
          refine tn 16 qc06_58_5_16 (some 33) rfl rfl (by kernel_rfl) hHeld (by rfl) (fun _ _ _ x => x) ?_; try simp only [Act.put, sa, s0, s1]
          refine tn 17 qc06_58_5_17 (some 34) rfl rfl (by kernel_rfl) hHeld (by rfl) (fun _ _ _ x => x) ?_; try simp only [Act.put, sa, s0, s1]
          refine tn 18 qc06_58_5_18 (some 35) rfl rfl (by kernel_rfl) hHeld (by rfl) (fun _ _ _ x => x) ?_; try simp only [Act.put, sa, s0, s1]
          refine tn 19 qc06_58_5_19 (some 36) rfl rfl (by kernel_rfl) hHeld (by rfl) (fun _ _ _ x => x) ?_; try simp only [Act.put, sa, s0, s1]
          refine tn 20 qc06_58_5_20 (some 37) rfl rfl (by kernel_rfl) hHeld (by rfl) (fun _ _ _ x => x) ?_; try simp only [Act.put, sa, s0, s1]
          refine tn 21 qc06_58_5_21 (some 38) rfl rfl (by kernel_rfl) hHeld (by rfl) (fun _ _ _ x => x) ?_; try simp only [Act.put, sa, s0, s1]
          refine tn 22 qc06_58_5_22 (some 39) rfl rfl (by kernel_rfl) hHeld (by rfl) (fun _ _ _ x => x) ?_; try simp only [Act.put, sa, s0, s1]
          refine tn 23 qc06_58_5_23 (some 40) rfl rfl (by kernel_rfl) hHeld (by rfl) (fun _ _ _ x => x) ?_; try simp only [Act.put, sa, s0, s1]
          refine tn 24 qc06_58_5_24 (some 41) rfl rfl (by kernel_rfl) hHeld (by rfl) (fun _ _ _ x => x) ?_; try simp only [Act.put, sa, s0, s1]
          refine tn 25 qc06_58_5_25 (some 42) rfl rfl (by kernel_rfl) hHeld (by rfl) (fun _ _ _ x => x) ?_; try simp only [Act.put, sa, s0, s1]
          refine tn 26 qc06_58_5_26 (some 43) rfl rfl (by kernel_rfl) hHeld (by rfl) (fun _ _ _ x => x) ?_; try simp only [Act.put, sa, s0, s1]
          refine tk 27 qc06_58_5_27 (some 44) (v := ?v104) rfl rfl (by kernel_rfl) hHeld (by rfl) (fun _ _ _ x => x) (fun w h => ?y104) ?_; (case y104 => (try dsimp only at h); go_simp; try (with_reducible rfl)); try simp only [Act.put, sa, s0, s1]
          refine wpAnyH_done (by kernel_rfl) ?_ _
          go_wp2_with fail
          go_ret
          exact ⟨by rw [HD.out]; rfl, bthen hbwp hHeld⟩
      · have hP2 : pairOkP l[k].fP = false := Bool.eq_false_iff.2 hP
        simp only [hP2] at hCp
        have HD : Hid (memOkP m = false) := HB1.out hP2
        clear HB1 HB2 HB3 HG HGT HI HTI
        generalize l[k] = x at *
        go_wp2_with fail
        rw [← hwp]
        clear hwp
        refine wp_region_held_drew (S := fun W => Below wp.heap.size wp W) (by kernel_rfl) (Below.drew (Below.refl _ _)) (fun hHeld => ?_)
        refine tk 0 qc06_58_5_0 (some 17) (v := ?v105) rfl rfl (by kernel_rfl) hHeld (by rfl) (fun _ _ _ x => x) (fun w h => ?y105) ?_; (case y105 => (try dsimp only at h); go_simp; try (with_reducible rfl)); try simp only [Act.put, sa, s0, s1]
        refine tk 1 qc06_58_5_1 (some 18) (v := ?v106) rfl rfl (by kernel_rfl) hHeld (by rfl) (fun _ _ _ x => x) (fun w h => ?y106) ?_; (case y106 => (try dsimp only at h); go_simp; try (with_reducible rfl)); try simp only [Act.put, sa, s0, s1]
        refine wpAnyH_ready (rs := [2]) (by kernel_rfl) (by simp) ?_
        refine AllReadyH.cons (o := qc06_58_5_2) rfl (fun K hK => ?_) AllReadyH.nil
        go_simp
        refine Calls.mono (hCp _ hHeld) ?_
        rintro e w1 ⟨rfl, hx1⟩
        go_wp2_with fail
        refine hK.out _ _ (bthen hHeld hx1) (fun hHeld => ?_)
        clear hK K
        try simp only [Act.put, sa, s0, s1]
        refine tk 3 qc06_58_5_3 (some 20) (v := ?v107) rfl rfl (by kernel_rfl) hHeld (by rfl) (fun _ _ _ x => x) (fun w h => ?y107) ?_; (case y107 => (try dsimp only at h); go_simp; try (with_reducible rfl)); try simp only [Act.put, sa, s0, s1]
        refine tk 4 qc06_58_5_4 (some 21) (v := ?v108) rfl rfl (by kernel_rfl) hHeld (by rfl) (fun _ _ _ x => x) (fun w h => ?y108) ?_; (case y108 => (try dsimp only at h); go_simp; try (with_reducible rfl)); try simp only [Act.put, sa, s0, s1]
        refine tn 5 qc06_58_5_5 (some 22) rfl rfl (by kernel_rfl) hHeld (by rfl) (fun _ _ _ x => x) ?_; try simp only [Act.put, sa, s0, s1]
        refine tn 6 qc06_58_5_6 (some 23) rfl rfl (by kernel_rfl) hHeld (by rfl) (fun _ _ _ x => x) ?_; try simp only [Act.put, sa, s0, s1]
        refine tn 7 qc06_58_5_7 (some 24) rfl rfl (by kernel_rfl) hHeld (by rfl) (fun _ _ _ x => x) ?_; try simp only [Act.put, sa, s0, s1]
        refine tn 8 qc06_58_5_8 (some 25) rfl rfl (by kernel_rfl) hHeld (by rfl) (fun _ _ _ x => x) ?_; try simp only [Act.put, sa, s0, s1]
        refine tk 9 qc06_58_5_9 (some 26) (v := ?v113) rfl rfl (by kernel_rfl) hHeld (by rfl) (fun _ _ _ x => x) (fun w h => ?y113) ?_; (case y113 => (try dsimp only at h); go_simp; try (with_reducible rfl)); try simp only [Act.put, sa, s0, s1]
        refine tk 10 qc06_58_5_10 (some 27) (v := ?v114) rfl rfl (by kernel_rfl) hHeld (by rfl) (fun _ _ _ x => x) (fun w h => ?y114) ?_; (case y114 => (try dsimp only at h); go_simp; try (with_reducible rfl)); try simp only [Act.put, sa, s0, s1]
        refine tn 11 qc06_58_5_11 (some 28) rfl rfl (by kernel_rfl) hHeld (by rfl) (fun _ _ _ x => x) ?_; try simp only [Act.put, sa, s0, s1]
        refine tn 12 qc06_58_5_12 (some 29) rfl rfl (by kernel_rfl) hHeld (by rfl) (fun _ _ _ x => x) ?_; try simp only [Act.put, sa, s0, s1]
        refine tn 13 qc06_58_5_13 (some 30) rfl rfl (by kernel_rfl) hHeld (by rfl) (fun _ _ _ x => x) ?_; try simp only [Act.put, sa, s0, s1]
        refine tn 14 qc06_58_5_14 (some 31) rfl rfl (by kernel_rfl) hHeld (by rfl) (fun _ _ _ x => x) ?_; try simp only [Act.put, sa, s0, s1]
        refine tn 15 qc06_58_5_15 (some 32) rfl rfl (by kernel_rfl) hHeld (by rfl) (fun _ _ _ x => x) ?_; try simp only [Act.put, sa, s0, s1]
        refine tn 16 qc06_58_5_16 (some 33) rfl rfl (by kernel_rfl) hHeld (by rfl) (fun _ _ _ x => x) ?_; try simp only [Act.put, sa, s0, s1]
        refine tn 17 qc06_58_5_17 (some 34) rfl rfl (by kernel_rfl) hHeld (by rfl) (fun _ _ _ x => x) ?_; try simp only [Act.put, sa, s0, s1]
        refine tn 18 qc06_58_5_18 (some 35) rfl rfl (by kernel_rfl) hHeld (by rfl) (fun _ _ _ x => x) ?_; try simp only [Act.put, sa, s0, s1]
        refine tn 19 qc06_58_5_19 (some 36) rfl rfl (by kernel_rfl) hHeld (by rfl) (fun _ _ _ x => x) ?_; try simp only [Act.put, sa, s0, s1]
        refine tn 20 qc06_58_5_20 (some 37) rfl rfl (by kernel_rfl) hHeld (by rfl) (fun _ _ _ x => x) ?_; try simp only [Act.put, sa, s0, s1]
        refine tn 21 qc06_58_5_21 (some 38) rfl rfl (by kernel_rfl) hHeld (by rfl) (fun _ _ _ x => x) ?_; try simp only [Act.put, sa, s0, s1]
        refine tn 22 qc06_58_5_22 (some 39) rfl rfl (by kernel_rfl) hHeld (by rfl) (fun _ _ _ x => x) ?_; try simp only [Act.put, sa, s0, s1]
        refine tn 23 qc06_58_5_23 (some 40) rfl rfl (by kernel_rfl) hHeld (by rfl) (fun _ _ _ x => x) ?_; try simp only [Act.put, sa, s0, s1]
        refine tn 24 qc06_58_5_24 (some 41) rfl rfl (by kernel_rfl) hHeld (by rfl) (fun _ _ _ x => x) ?_; try simp only [Act.put, sa, s0, s1]
        refine tn 25 qc06_58_5_25 (some 42) rfl rfl (by kernel_rfl) hHeld (by rfl) (fun _ _ _ x => x) ?_; try simp only [Act.put, sa, s0, s1]
        refine tn 26 qc06_58_5_26 (some 43) rfl rfl (by kernel_rfl) hHeld (by rfl) (fun _ _ _ x => x) ?_; try simp only [Act.put, sa, s0, s1]
        refine tk 27 qc06_58_5_27 (some 44) (v := ?v131) rfl rfl (by kernel_rfl) hHeld (by rfl) (fun _ _ _ x => x) (fun w h => ?y131) ?_; (case y131 => (try dsimp only at h); go_simp; try (with_reducible rfl)); try simp only [Act.put, sa, s0, s1]
        refine wpAnyH_done (by kernel_rfl) ?_ _
        go_wp2_with fail
        go_ret
        exact ⟨by rw [HD.out]; rfl, bthen hbwp hHeld⟩
    · have hkn : k = n := by omega
      have HD : Hid (memOkP m = decide (n ≤ 60)) := by
        show _ = _
        rw [HV.out, HI.out, upFrom_end (by rw [HPS.out]; simp; rw [← HX.out]; omega)]
        have h := HTI.out
        rw [show k = l.length by rw [← HX.out]; exact hkn, List.take_length] at h
        rw [h, Bool.and_true, Bool.and_true]
      by_cases h60 : n ≤ 60
      · have HD2 : Hid (memOkP m = true) := by show _ = _; rw [HD.out]; exact decide_eq_true h60
        have h6 : (n : Int) ≤ 60 := by omega
        go_wp2_with fail
        go_ret
        exact ⟨by rw [HD2.out]; rfl, hbk⟩
      · have HD2 : Hid (memOkP m = false) := by show _ = _; rw [HD.out]; exact decide_eq_false h60
        have h6 : ¬ (n : Int) ≤ 60 := by omega
        go_wp2_with fail
        go_ret
        exact ⟨by rw [HD2.out]; rfl, hbk⟩

theorem wpList_app {P : Program} {w : World} {ops : Array Oper} {rest : List Oper} {o : Oper} {a : Act} {Q : Exit → Act → World → Prop} (hgd : o.guard = none) (s x : Operand) (t tx : TypeId)
    (ho : o.op = .call { callee := .builtin .append, args := #[s, x], argTypes := #[t, tx] })
    (base : Nat) (e : TypeId) (i : TypeInfo) (z : Value) (size bytes : Nat) (ht : P.underlying t = some (.slice e)) (hi : P.info? e = some i) (hz : i.zero = some z)
    (hsize : i.size = size) (hby : i.bytes = bytes) (hzs : z.cells.size = size)
    (v : Value) (n : Nat) (xs : List Value) (hs : a.eval s = v) (hown : w.ownsRow base e size v n xs)
    (y : Value) (hy : a.eval x = y) (m : Nat) (news : List Value) (hx : Src P size tx y m news w)
    (h63 : n + m ≤ maxLen) (hbytes : (n + m) * bytes ≤ 140737488355328) (hbase : base ≤ w.heap.size)
    (h : ∀ v' w', w'.ownsRow base e size v' (n + m) (xs ++ news) → w.grownBy w' v.ownBlock → (v'.ownBlock = v.ownBlock ∨ v'.ownBlock = some w.heap.size) → wpList P ops Q rest (a.put o.dst v') w') :
    wpList P ops Q (o :: rest) a w := by
  refine wpList_plain hgd fun K hK => ?_
  obtain ⟨v', w', hr, h2, h3, h4⟩ := run_append_src_at (P := P) w base t tx o.type e i z size bytes ht hi hz hsize hby hzs v n xs hown y m news hx h63 hbytes hbase
  unfold Oper.wp execOp
  simp only [ho, resolve, invoke, builtin, Sem.run_bind, Sem.run_pure, Result.andThen_ok, List.map_toArray, List.map_cons, List.map_nil, hs, hy, hr]
  exact hK _ _ (h v' w' h2 h3 h4)

theorem Tryd.infoNode : (Tryd.prog.info? 73).map (fun i => (i.zero, i.size, i.bytes)) = some (some (.agg #[.string ⟨#[]⟩, .string ⟨#[]⟩, .bool false, .int .i64 0]), 4, 48) := by kernel_rfl

theorem LeafL.fore {α : Type} {size : Nat} {R : Rep α} {B : Nat} {w : World} {a : Option Addr} {c : Nat} {l : List α} {k : Nat} (h : LeafL size R B w a c l) (hk : k ≤ l.length) : LeafL size R B w a c (l.take k) := by
  refine ⟨by have := h.1; simp; omega, h.2.1, fun j hj => ?_⟩
  have hj2 : j < l.length := by simp at hj; omega
  obtain ⟨b, off, e, hB, cs, h1, h2, h3⟩ := h.2.2 j hj2
  exact ⟨b, off, e, hB, cs, h1, h2, by simpa using h3⟩

theorem own_some {w : World} {base e size n c : Nat} {a : Option Addr} {xs : List Value} {g0 g1 : Nat} (h : w.ownsRow base e size (.slice a n c) n xs) (hat : (Value.slice a n c).ownBlock = some g0 ∨ (Value.slice a n c).ownBlock = some g1) : ∃ g, a = some ⟨g, 0, none⟩ ∧ base ≤ g ∧ g < w.heap.size := by
  rcases h.2 with ⟨h1, _⟩ | ⟨g, cap, cur, h1, hbb, hgg, _⟩
  · simp only [Value.slice.injEq] at h1
    rw [h1.1] at hat
    simp [Value.ownBlock] at hat
  · simp only [Value.slice.injEq] at h1
    exact ⟨g, h1.1, hbb, (Array.getElem?_eq_some_iff.1 hgg).1⟩

theorem ndC_one {x : MNode} : ∀ u ∈ ndC x, u.oneCell' = true := by
  intro u hu
  simp only [ndC, List.mem_cons, List.not_mem_nil, or_false] at hu
  rcases hu with rfl | rfl | rfl | rfl <;> rfl

/-- A node as draws make them. -/
def ShN (x : MNode) : Prop := x.fP.fKey.size ≤ 21 ∧ x.fP.fVal.size ≤ 21 ∧ (Lit.int .i64 x.fTower).wf = true
theorem ShN.ok {x : MNode} (h : ShN x) : NdOk x := ⟨Nat.le_trans h.1 (by omega), Nat.le_trans h.2.1 (by omega), h.2.2⟩
theorem sh_weight : ∀ {l : List MNode}, (∀ x, x ∈ l → ShN x) → sumW wNode l ≤ l.length * 42
  | [], _ => Nat.zero_le _
  | x :: r, h => by
    have h1 := sh_weight (l := r) (fun y hy => h y (List.mem_cons_of_mem _ hy))
    have h2 := h x (List.mem_cons_self ..)
    have h3 : wNode x ≤ 42 := by have a := h2.1; have b := h2.2.1; unfold wNode; omega
    have h4 : sumW wNode (x :: r) = wNode x + sumW wNode r := by simp [sumW]
    rw [h4, List.length_cons]
    omega
/-- What a table is that was drawn: its nodes in a row of one's own. -/
def MemDrawn (w' : World) (base : Nat) (v : Value) (l : List MNode) (most : Nat) : Prop :=
  w'.ownsRow base 73 4 v l.length (flatN l) ∧ (∀ x, x ∈ l → ShN x) ∧ l.length ≤ most

end Go.Proofs.YtmedljankefhbaaDoor
