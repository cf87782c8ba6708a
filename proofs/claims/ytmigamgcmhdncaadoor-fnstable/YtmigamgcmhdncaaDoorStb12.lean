/-
  Part 13 of the texts that the proof leans on.
-/
import Derived.Test.YtmigamgcmhdncaaDoorStb0
import Derived.Test.YtmigamgcmhdncaaDoorStb11
set_option linter.unusedVariables false
set_option linter.unusedSimpArgs false
set_option maxRecDepth 10000

namespace Go.Proofs.YtmigamgcmhdncaaDoor
open Go.RowKit
abbrev q31a_83_6_0 : Oper := ⟨some 17, .move (.tmp 7), 4, "l08_graph.go:56", #[], none⟩
abbrev q31a_83_6_1 : Oper := ⟨some 18, .unOp .not 4 (.tmp 17), 4, "l08_graph.go:56", #[⟨0, .data⟩], none⟩
abbrev q31a_83_6_2 : Oper := ⟨some 19, .move (.tmp 18), 4, "l08_graph.go:56", #[⟨1, .data⟩], none⟩
abbrev q31a_83_6_3 : Oper := ⟨some 20, .fieldAddr 52 (.tmp 3) 0, 0, "l08_graph.go:56", #[⟨2, .guard⟩], some (2, true)⟩
abbrev q31a_83_6_4 : Oper := ⟨some 21, .load 40 (.tmp 20), 40, "l08_graph.go:56", #[⟨3, .data⟩, ⟨2, .guard⟩], some (2, true)⟩
abbrev q31a_83_6_5 : Oper := ⟨some 22, .fieldAddr 30 (.tmp 2) 0, 0, "l08_graph.go:56", #[⟨2, .guard⟩], some (2, true)⟩
abbrev q31a_83_6_6 : Oper := ⟨some 23, .load 28 (.tmp 22), 28, "l08_graph.go:56", #[⟨5, .data⟩, ⟨2, .guard⟩], some (2, true)⟩
abbrev q31a_83_6_7 : Oper := ⟨some 24, .move (.tmp 8), 3, "l08_graph.go:56", #[⟨2, .guard⟩], some (2, true)⟩
abbrev q31a_83_6_8 : Oper := ⟨some 25, .indexAddr 28 (.tmp 23) (.tmp 24), 0, "l08_graph.go:56", #[⟨6, .data⟩, ⟨7, .data⟩, ⟨2, .guard⟩], some (2, true)⟩
abbrev q31a_83_6_9 : Oper := ⟨some 26, .fieldAddr 52 (.tmp 25) 0, 0, "l08_graph.go:56", #[⟨8, .data⟩, ⟨2, .guard⟩], some (2, true)⟩
abbrev q31a_83_6_10 : Oper := ⟨some 27, .load 40 (.tmp 26), 40, "l08_graph.go:56", #[⟨9, .data⟩, ⟨2, .guard⟩], some (2, true)⟩
abbrev q31a_83_6_11 : Oper := ⟨some 28, .call { callee := .value (.func 63), args := #[.tmp 21, .tmp 27], argTypes := #[40, 40] }, 4, "l08_graph.go:56", #[⟨4, .data⟩, ⟨10, .data⟩, ⟨2, .chain⟩, ⟨2, .guard⟩], some (2, true)⟩
abbrev q31a_83_6_12 : Oper := ⟨some 29, .pick (.tmp 19) (.tmp 28) (.const (.bool false)), 4, "l08_graph.go:56", #[⟨2, .data⟩, ⟨11, .data⟩], none⟩
abbrev q31a_83_9_0 : Oper := ⟨some 37, .fieldAddr 30 (.tmp 6) 0, 0, "l08_graph.go:60", #[], none⟩
abbrev q31a_83_9_2 : Oper := ⟨some 39, .fieldAddr 30 (.tmp 2) 0, 0, "l08_graph.go:60", #[], none⟩
abbrev q31a_83_9_3 : Oper := ⟨some 40, .load 28 (.tmp 39), 28, "l08_graph.go:60", #[⟨2, .data⟩], none⟩
abbrev q31a_83_9_4 : Oper := ⟨some 41, .move (.tmp 8), 3, "l08_graph.go:60", #[], none⟩
abbrev q31a_83_9_5 : Oper := ⟨some 42, .indexAddr 28 (.tmp 40) (.tmp 41), 0, "l08_graph.go:60", #[⟨3, .data⟩, ⟨4, .data⟩], none⟩
abbrev q31a_83_9_6 : Oper := ⟨some 43, .load 52 (.tmp 42), 52, "l08_graph.go:60", #[⟨5, .data⟩], none⟩
abbrev q31a_83_9_7 : Oper := ⟨some 44, .call { callee := .value (.func 105), args := #[.tmp 43], argTypes := #[52] }, 52, "l08_graph.go:60", #[⟨6, .data⟩], none⟩
abbrev q31a_83_9_1 : Oper := ⟨some 38, .load 28 (.tmp 37), 28, "l08_graph.go:60", #[⟨0, .data⟩], none⟩
abbrev q31a_83_9_8 : Oper := ⟨some 45, .buildSlice 28 1 #[(0, .tmp 44)], 28, "l08_graph.go:60", #[⟨7, .data⟩], none⟩
abbrev q31a_83_9_9 : Oper := ⟨some 46, .call { callee := .builtin .append, args := #[.tmp 38, .tmp 45], argTypes := #[28, 28] }, 28, "l08_graph.go:60", #[⟨1, .data⟩, ⟨8, .data⟩, ⟨7, .chain⟩], none⟩
abbrev q31a_83_9_10 : Oper := ⟨some 47, .fieldAddr 30 (.tmp 6) 0, 0, "l08_graph.go:60", #[⟨0, .phase⟩, ⟨1, .phase⟩, ⟨2, .phase⟩, ⟨3, .phase⟩, ⟨4, .phase⟩, ⟨5, .phase⟩, ⟨6, .phase⟩, ⟨7, .phase⟩, ⟨8, .phase⟩, ⟨9, .phase⟩], none⟩
abbrev q31a_83_9_11 : Oper := ⟨none, .store 28 (.tmp 47) (.tmp 46), 0, "l08_graph.go:60", #[⟨10, .data⟩, ⟨9, .data⟩, ⟨9, .chain⟩, ⟨0, .phase⟩, ⟨1, .phase⟩, ⟨2, .phase⟩, ⟨3, .phase⟩, ⟨4, .phase⟩, ⟨5, .phase⟩, ⟨6, .phase⟩, ⟨7, .phase⟩, ⟨8, .phase⟩, ⟨9, .phase⟩], none⟩
abbrev q31a_83_7_0 : Oper := ⟨some 30, .fieldAddr 30 (.tmp 6) 0, 0, "l08_graph.go:57", #[], none⟩
abbrev q31a_83_7_2 : Oper := ⟨some 32, .load 52 (.tmp 3), 52, "l08_graph.go:57", #[], none⟩
abbrev q31a_83_7_3 : Oper := ⟨some 33, .call { callee := .value (.func 105), args := #[.tmp 32], argTypes := #[52] }, 52, "l08_graph.go:57", #[⟨2, .data⟩], none⟩
abbrev q31a_83_7_1 : Oper := ⟨some 31, .load 28 (.tmp 30), 28, "l08_graph.go:57", #[⟨0, .data⟩], none⟩
abbrev q31a_83_7_4 : Oper := ⟨some 34, .buildSlice 28 1 #[(0, .tmp 33)], 28, "l08_graph.go:57", #[⟨3, .data⟩], none⟩
abbrev q31a_83_7_5 : Oper := ⟨some 35, .call { callee := .builtin .append, args := #[.tmp 31, .tmp 34], argTypes := #[28, 28] }, 28, "l08_graph.go:57", #[⟨1, .data⟩, ⟨4, .data⟩, ⟨3, .chain⟩], none⟩
abbrev q31a_83_7_6 : Oper := ⟨some 36, .fieldAddr 30 (.tmp 6) 0, 0, "l08_graph.go:57", #[⟨0, .phase⟩, ⟨1, .phase⟩, ⟨2, .phase⟩, ⟨3, .phase⟩, ⟨4, .phase⟩, ⟨5, .phase⟩], none⟩
abbrev q31a_83_7_7 : Oper := ⟨none, .store 28 (.tmp 36) (.tmp 35), 0, "l08_graph.go:57", #[⟨6, .data⟩, ⟨5, .data⟩, ⟨5, .chain⟩, ⟨0, .phase⟩, ⟨1, .phase⟩, ⟨2, .phase⟩, ⟨3, .phase⟩, ⟨4, .phase⟩, ⟨5, .phase⟩], none⟩
abbrev q31a_83_11_0 : Oper := ⟨some 50, .fieldAddr 30 (.tmp 6) 0, 0, "l08_graph.go:63", #[], none⟩
abbrev q31a_83_11_2 : Oper := ⟨some 52, .load 52 (.tmp 3), 52, "l08_graph.go:63", #[], none⟩
abbrev q31a_83_11_3 : Oper := ⟨some 53, .call { callee := .value (.func 105), args := #[.tmp 52], argTypes := #[52] }, 52, "l08_graph.go:63", #[⟨2, .data⟩], none⟩
abbrev q31a_83_11_1 : Oper := ⟨some 51, .load 28 (.tmp 50), 28, "l08_graph.go:63", #[⟨0, .data⟩], none⟩
abbrev q31a_83_11_4 : Oper := ⟨some 54, .buildSlice 28 1 #[(0, .tmp 53)], 28, "l08_graph.go:63", #[⟨3, .data⟩], none⟩
abbrev q31a_83_11_5 : Oper := ⟨some 55, .call { callee := .builtin .append, args := #[.tmp 51, .tmp 54], argTypes := #[28, 28] }, 28, "l08_graph.go:63", #[⟨1, .data⟩, ⟨4, .data⟩, ⟨3, .chain⟩], none⟩
abbrev q31a_83_11_6 : Oper := ⟨some 56, .fieldAddr 30 (.tmp 6) 0, 0, "l08_graph.go:63", #[⟨0, .phase⟩, ⟨1, .phase⟩, ⟨2, .phase⟩, ⟨3, .phase⟩, ⟨4, .phase⟩, ⟨5, .phase⟩], none⟩
abbrev q31a_83_11_7 : Oper := ⟨none, .store 28 (.tmp 56) (.tmp 55), 0, "l08_graph.go:63", #[⟨6, .data⟩, ⟨5, .data⟩, ⟨5, .chain⟩, ⟨0, .phase⟩, ⟨1, .phase⟩, ⟨2, .phase⟩, ⟨3, .phase⟩, ⟨4, .phase⟩, ⟨5, .phase⟩], none⟩

/-- A graph in blocks of its own, from B on. -/
def OutG (B : Nat) (w : World) (cs : List Value) (m : MGraph) : Prop := ∃ F, oGraph w cs m F ∧ F.Nodup ∧ (∀ b, b ∈ F → B ≤ b)
theorem OutG.mk' {B : Nat} {w : World} {v : Value} {m : MGraph} {F : List Nat} (h : ownS 3 52 oItem w v m.fItems F) (hN : F.Nodup) (hg : ∀ b, b ∈ F → B ≤ b) : OutG B w [v] m :=
  ⟨F, ⟨v, F, rfl, h, by simp⟩, hN, hg⟩
theorem OutG.read {B : Nat} {w : World} {cs : List Value} {m : MGraph} (h : OutG B w cs m) : rGraph w.heap.size w cs m := by obtain ⟨F, h, _, _⟩ := h; exact oGraph_good.read h
theorem OutG.shape {B : Nat} {w : World} {cs : List Value} {m : MGraph} (h : OutG B w cs m) : ∃ a c, cs = [.slice a m.fItems.length c] := by obtain ⟨a, c, rfl, _⟩ := h.read; exact ⟨a, c, rfl⟩
theorem OutG.mono {B B' : Nat} {w : World} {cs : List Value} {m : MGraph} (h : OutG B w cs m) (hb : B' ≤ B) : OutG B' w cs m := by obtain ⟨F, h, hN, hg⟩ := h; exact ⟨F, h, hN, fun b hb' => Nat.le_trans hb (hg b hb')⟩
theorem OutG.keep {B : Nat} {w w' : World} {cs : List Value} {m : MGraph} (h : OutG B w cs m) (hw : ∀ b, B ≤ b → b < w.heap.size → w'.heap[b]? = w.heap[b]?) : OutG B w' cs m := by
  obtain ⟨F, h, hN, hg⟩ := h; exact ⟨F, oGraph_good.frame h (fun b hb => hw b (hg b hb) (oGraph_good.lt h b hb)), hN, hg⟩
theorem OutG.under {B : Nat} {w w' : World} {cs : List Value} {m : MGraph} (h : OutG B w cs m) (hb : Below w.heap.size w w') : OutG B w' cs m := h.keep (fun b _ hl => hb.block b hl)
theorem OutG.cursor {B g : Nat} {w w' : World} {cs : List Value} {m : MGraph} (h : OutG B w cs m) (hw : w.grownBy w' (some g)) (hg : g < B) : OutG B w' cs m := h.keep (fun b hB hl => hw.block b hl (by simp; omega))

set_option maxHeartbeats 16000000 in
theorem specGraphPut_o (cs0 : List Value) (m : MGraph) (cs1 : List Value) (it : MItem) (w : World) (hr : rGraph w.heap.size w cs0 m) (hri : rItem w.heap.size w cs1 it) (hw : wGraph m ≤ 1048576) (hwi : wItem it ≤ 1048576) :
    Calls Tryd.prog 83 #[.agg cs0.toArray, .agg cs1.toArray] w fun e w' => ∃ cs' : List Value, e = .returned (.tuple #[.agg cs'.toArray, .bool (putOk m it)]) ∧ OutG w.heap.size w' cs' (putG m it) ∧ Below w.heap.size w w' := by
  obtain ⟨iT, hiT, hz0, hz1, hz2⟩ := info_parts Tryd.infoOfItem
  have HIT := Hid.mk (And.intro hiT (And.intro hz0 (And.intro hz1 hz2)))
  clear hiT hz0 hz1 hz2
  have HRG := Hid.mk hr
  have HRI := Hid.mk hri
  obtain ⟨a, c, rfl, hL, _⟩ := hr
  obtain ⟨ai, ci, rfl, i0, i1, i2, _⟩ := hri
  have hdi : it.fDeps.length ≤ 1048576 := by have h : it.fDeps.length + sumW wDot it.fDeps ≤ 1048576 := hwi; omega
  have HDm := Hid.mk (wGraph_deps hw)
  have HDM := Hid.mk (wGraph_deps hw)
  have HOK : Hid (putOk m it = (!hasI m.fItems it.fD && graphP ⟨insAt m.fItems (firstGt it.fD m.fItems) it⟩)) := rfl
  have HPT : Hid (putOk m it = true → putG m it = ⟨insAt m.fItems (firstGt it.fD m.fItems) it⟩) := fun h => by unfold putG; rw [h]; rfl
  have HPF : Hid (putOk m it = false → putG m it = m) := fun h => by unfold putG; rw [h]; rfl
  have hn0 : m.fItems.length + sumW wItem m.fItems ≤ 1048576 := hw
  have HWIT := Hid.mk hwi
  have HNM : Hid (m.fItems.length ≤ 1048576) := Hid.mk (by omega)
  obtain ⟨l, hl⟩ : ∃ l, l = m.fItems := ⟨_, rfl⟩
  rw [← hl] at hL HDm HOK HPT HRG hn0 ⊢
  have HLM := Hid.mk hl
  clear hw hwi hl i2
  obtain ⟨n, hx⟩ : ∃ n, n = l.length := ⟨_, rfl⟩
  rw [← hx] at hn0 HRG ⊢
  have HX := Hid.mk hx.symm
  have HL := Hid.mk hL
  have hn : n ≤ 1048576 := by omega
  clear hL hx
  generalize putOk m it = ok at *
  generalize putG m it = pg at *
  obtain ⟨q, hq⟩ : ∃ q, q = firstGt it.fD l := ⟨_, rfl⟩
  have HQL : Hid (∀ j, (hj : j < l.length) → j < q → dotLt it.fD l[j].fD = false) := by unfold Hid; rw [hq]; exact firstGt_lo
  have HQH : Hid (∀ h : q < l.length, dotLt it.fD l[q].fD = true) := by unfold Hid; intro h; subst hq; exact firstGt_hit h
  have hqn : q ≤ n := by rw [hq, ← HX.out]; exact firstGt_le _ _
  rw [← hq] at HOK HPT
  clear hq
  go_enter Tryd.func83, Tryd.ntmps83
  go_wp2_with fail
  obtain ⟨w0, hw0⟩ : ∃ wq, wq = (((w.alloc (.cells #[.slice a n c] 30)).alloc (.cells #[.int .i64 it.fD.fR, .int .i64 it.fD.fN, .slice ai it.fDeps.length ci] 52)).alloc (.cells #[.slice none 0 0] 30)).alloc (.cells #[.slice none 0 0] 30) := ⟨_, rfl⟩
  have hb0 : Below w.heap.size w w0 := by rw [hw0]; exact ((((Below.refl _ _).alloc (Nat.le_refl _) _).alloc (by simp) _).alloc (by simp; omega) _).alloc (by simp; omega) _
  have hs0 : w.heap.size + 1 + 1 + 1 + 1 ≤ w0.heap.size := by rw [hw0]; simp
  have hbg : Bx w0 w.heap.size [.slice a n c] := by rw [hw0]; exact (((Bx.new _ _ _).alloc _).alloc _).alloc _
  have hbi : Bx w0 (w.heap.size + 1) [.int .i64 it.fD.fR, .int .i64 it.fD.fN, .slice ai it.fDeps.length ci] := by rw [hw0]; have h := ((Bx.new (w.alloc (.cells #[.slice a n c] 30)) [.int .i64 it.fD.fR, .int .i64 it.fD.fN, .slice ai it.fDeps.length ci] 52).alloc (.cells #[.slice none 0 0] 30)).alloc (.cells #[.slice none 0 0] 30); simpa using h
  have hbr : Bw w0 (w.heap.size + 1 + 1) 30 [.slice none 0 0] := by rw [hw0]; exact (Bw.new' _ _ _ (by simp)).alloc _
  have HP0 : Hid (PutSt (w.heap.size + 1 + 1 + 1) w0 (.slice none (outP l q it 0).length 0) (outP l q it 0) [] w0) := ⟨by rw [hw0, show (outP l q it 0).length = 0 by rw [outP_no (by omega)]; rfl]; exact Bw.new' _ _ _ (by simp), .inl ⟨by rw [show (outP l q it 0).length = 0 by rw [outP_no (by omega)]; rfl], by rw [outP_no (by omega)]; rfl, rfl⟩, by simp, (fun b hb => by cases hb), Below.refl _ _, by omega⟩
  rw [← hw0]
  clear hw0
  go_loopw [7, 8] (fun pv i wr => ∃ (k : Nat) (va : Option Addr) (vc : Nat) (F : List Nat), k ≤ n ∧ i = .int .i64 k ∧ pv = .bool (decide (q < k)) ∧ Hid (PutSt (w.heap.size + 1 + 1 + 1) w0 (.slice va (outP l q it k).length vc) (outP l q it k) F wr)) (fun _ i _ => n - (intOf i).toNat)
  case atStart => exact ⟨0, none, 0, [], Nat.zero_le _, rfl, rfl, HP0⟩
  case round =>
    obtain ⟨k, va, vc, F, hk, rfl, rfl, HPk⟩ := hrel
    have hBk := HPk.out.2.2.2.2.1
    have hzk : (w.heap.size + 1 + 1 + 1) < wr.heap.size := HPk.out.1.lt
    have hbk : Below w.heap.size w wr := hb0.trans (hBk.mono (by omega))
    have hgk := hbg.below hBk (by omega)
    have hik := hbi.below hBk (by omega)
    have v0 := hgk.2 0 _ rfl
    have hlk : (outP l q it k).length ≤ 1048577 := by have h1 := outP_len l q it k; have h2 := HX.out; omega
    by_cases hlt : k < n
    · have hkl : k < l.length := by rw [HX.out]; exact hlt
      obtain ⟨b1, o1, rfl, hB, cs, hcl, hcell, hri⟩ := (HL.out.2.2.below rItem_good hbk) k hkl
      have HRi := Hid.mk hri
      obtain ⟨a2, c2, rfl, g0, g1, _⟩ := hri
      have k0 := hcell 0 _ rfl
      have k1 := hcell 1 _ rfl
      have k2 := hcell 2 _ rfl
      rw [Nat.add_zero] at k0
      have hdk := HDm.out k hkl
      have HLT : Hid (k < q → dotLt it.fD l[k].fD = false) := fun h => HQL.out k hkl h
      have HGT : Hid (q = k → dotLt it.fD l[k].fD = true) := fun h => by subst h; exact HQH.out hkl
      have HS1 : Hid (k < q → outP l q it (k + 1) = outP l q it k ++ [l[k]]) := fun h => outP_skip hkl h
      have HS2 : Hid (q = k → outP l q it (k + 1) = (outP l q it k ++ [it]) ++ [l[k]]) := fun h => outP_put hkl h
      have HS3 : Hid (q < k → outP l q it (k + 1) = outP l q it k ++ [l[k]]) := fun h => outP_after hkl h
      have hB' : b1 < wr.heap.size := Nat.lt_of_lt_of_le hB hbk.size
      have hk1 : (0 : Int) ≤ (k : Int) := by omega
      have hk2 : (k : Int) < (n : Int) := by omega
      clear hcell hcl
      generalize l[k] = x at *
      generalize outP l q it k = lk at *
      have x0 : ∀ W, Below wr.heap.size wr W → W.cell? ⟨w.heap.size, 0, none⟩ = some (.slice (some ⟨b1, o1, none⟩) n c) := fun W h => (hgk.under h).2 0 _ rfl
      have y0 : ∀ W, Below wr.heap.size wr W → W.cell? ⟨w.heap.size + 1, 0, none⟩ = some (.int .i64 it.fD.fR) := fun W h => (hik.under h).2 0 _ rfl
      have y1 : ∀ W, Below wr.heap.size wr W → W.cell? ⟨w.heap.size + 1, 1, none⟩ = some (.int .i64 it.fD.fN) := fun W h => (hik.under h).2 1 _ rfl
      have e0 : ∀ W, Below wr.heap.size wr W → W.cell? ⟨b1, o1 + k * 3, none⟩ = some (.int .i64 x.fD.fR) := fun W h => (h.cell (p := ⟨b1, o1 + k * 3, none⟩) hB').trans k0
      have e1 : ∀ W, Below wr.heap.size wr W → W.cell? ⟨b1, o1 + k * 3 + 1, none⟩ = some (.int .i64 x.fD.fN) := fun W h => (h.cell (p := ⟨b1, o1 + k * 3 + 1, none⟩) hB').trans k1
      have hCl := fun W (hb : Below wr.heap.size wr W) => specDotLess_any [.int .i64 it.fD.fR, .int .i64 it.fD.fN] [.int .i64 x.fD.fR, .int .i64 x.fD.fN] it.fD x.fD W ⟨rfl, i0, i1, trivial⟩ ⟨rfl, g0, g1, trivial⟩
      by_cases hqk : q < k
      · have hd1 : decide (q < k) = true := decide_eq_true hqk
        rw [hd1]
        have HSn := Hid.mk (HS3.out hqk)
        have HD9 : Hid (decide (q < k + 1) = true) := decide_eq_true (by omega)
        clear HS1 HS2 HS3 HLT HGT
        go_wp2_with fail
        refine wp_region_held_drew (S := fun W => Below wr.heap.size wr W) (by kernel_rfl) (Below.drew (Below.refl _ _)) (fun hHeld => ?_)
        refine tk 0 q31a_83_6_0 (some 17) (v := ?v1) rfl rfl (by kernel_rfl) hHeld (by rfl) (fun _ _ _ x => x) (fun w h => ?y1) ?_; (case y1 => (try dsimp only at h); go_simp; try (with_reducible rfl)); try simp only [Act.put, sa, s0, s1]
        refine tk 1 q31a_83_6_1 (some 18) (v := ?v2) rfl rfl (by kernel_rfl) hHeld (by rfl) (fun _ _ _ x => x) (fun w h => ?y2) ?_; (case y2 => (try dsimp only at h); go_simp; try (with_reducible rfl)); try simp only [Act.put, sa, s0, s1]
        refine tk 2 q31a_83_6_2 (some 19) (v := ?v3) rfl rfl (by kernel_rfl) hHeld (by rfl) (fun _ _ _ x => x) (fun w h => ?y3) ?_; (case y3 => (try dsimp only at h); go_simp; try (with_reducible rfl)); try simp only [Act.put, sa, s0, s1]
        refine tn 3 q31a_83_6_3 (some 20) rfl rfl (by kernel_rfl) hHeld (by rfl) (fun _ _ _ x => x) ?_; try simp only [Act.put, sa, s0, s1]
        refine tn 4 q31a_83_6_4 (some 21) rfl rfl (by kernel_rfl) hHeld (by rfl) (fun _ _ _ x => x) ?_; try simp only [Act.put, sa, s0, s1]
        refine tn 5 q31a_83_6_5 (some 22) rfl rfl (by kernel_rfl) hHeld (by rfl) (fun _ _ _ x => x) ?_; try simp only [Act.put, sa, s0, s1]
        refine tn 6 q31a_83_6_6 (some 23) rfl rfl (by kernel_rfl) hHeld (by rfl) (fun _ _ _ x => x) ?_; try simp only [Act.put, sa, s0, s1]
        refine tn 7 q31a_83_6_7 (some 24) rfl rfl (by kernel_rfl) hHeld (by rfl) (fun _ _ _ x => x) ?_; try simp only [Act.put, sa, s0, s1]
        refine tn 8 q31a_83_6_8 (some 25) rfl rfl (by kernel_rfl) hHeld (by rfl) (fun _ _ _ x => x) ?_; try simp only [Act.put, sa, s0, s1]
        refine tn 9 q31a_83_6_9 (some 26) rfl rfl (by kernel_rfl) hHeld (by rfl) (fun _ _ _ x => x) ?_; try simp only [Act.put, sa, s0, s1]
        refine tn 10 q31a_83_6_10 (some 27) rfl rfl (by kernel_rfl) hHeld (by rfl) (fun _ _ _ x => x) ?_; try simp only [Act.put, sa, s0, s1]
        refine tn 11 q31a_83_6_11 (some 28) rfl rfl (by kernel_rfl) hHeld (by rfl) (fun _ _ _ x => x) ?_; try simp only [Act.put, sa, s0, s1]
        refine tk 12 q31a_83_6_12 (some 29) (v := ?v13) rfl rfl (by kernel_rfl) hHeld (by rfl) (fun _ _ _ x => x) (fun w h => ?y13) ?_; (case y13 => (try dsimp only at h); go_simp; try (with_reducible rfl)); try simp only [Act.put, sa, s0, s1]
        refine wpAnyH_done (by kernel_rfl) ?_ _
        go_wp2_with fail
        obtain ⟨wA, hwA⟩ : ∃ x, x = wr.drew := ⟨_, rfl⟩
        rw [← hwA] at hHeld ⊢
        clear hwA x0 y0 y1 e0 e1 hCl
        have HPA := Hid.mk (HPk.out.under hHeld)
        have hgA := hgk.under hHeld
        have hiA := hik.under hHeld
        have hzA0 : (w.heap.size + 1 + 1 + 1) < wA.heap.size := HPA.out.1.lt
        have hsA := hHeld.size
        have HRx := Hid.mk (rItem_good.below HRi.out (hHeld.mono hbk.size))
        have HRt := Hid.mk (rItem_good.below HRI.out (hbk.trans (hHeld.mono hbk.size)))
        have x0 : ∀ W, Below (w.heap.size + 1 + 1 + 1) wA W → W.cell? ⟨w.heap.size, 0, none⟩ = some (.slice (some ⟨b1, o1, none⟩) n c) := fun W h => (hgA.below h (by omega)).2 0 _ rfl
        have y0 : ∀ W, Below (w.heap.size + 1 + 1 + 1) wA W → W.cell? ⟨w.heap.size + 1, 0, none⟩ = some (.int .i64 it.fD.fR) := fun W h => (hiA.below h (by omega)).2 0 _ rfl
        have y1 : ∀ W, Below (w.heap.size + 1 + 1 + 1) wA W → W.cell? ⟨w.heap.size + 1, 1, none⟩ = some (.int .i64 it.fD.fN) := fun W h => (hiA.below h (by omega)).2 1 _ rfl
        have y2 : ∀ W, Below (w.heap.size + 1 + 1 + 1) wA W → W.cell? ⟨w.heap.size + 1, 2, none⟩ = some (.slice ai it.fDeps.length ci) := fun W h => (hiA.below h (by omega)).2 2 _ rfl
        have e0 : ∀ W, Below (w.heap.size + 1 + 1 + 1) wA W → W.cell? ⟨b1, o1 + k * 3, none⟩ = some (.int .i64 x.fD.fR) := fun W h => (h.cell (p := ⟨b1, o1 + k * 3, none⟩) (show b1 < _ by omega)).trans ((hHeld.cell (p := ⟨b1, o1 + k * 3, none⟩) hB').trans k0)
        have e1 : ∀ W, Below (w.heap.size + 1 + 1 + 1) wA W → W.cell? ⟨b1, o1 + k * 3 + 1, none⟩ = some (.int .i64 x.fD.fN) := fun W h => (h.cell (p := ⟨b1, o1 + k * 3 + 1, none⟩) (show b1 < _ by omega)).trans ((hHeld.cell (p := ⟨b1, o1 + k * 3 + 1, none⟩) hB').trans k1)
        have e2 : ∀ W, Below (w.heap.size + 1 + 1 + 1) wA W → W.cell? ⟨b1, o1 + k * 3 + 2, none⟩ = some (.slice a2 x.fDeps.length c2) := fun W h => (h.cell (p := ⟨b1, o1 + k * 3 + 2, none⟩) (show b1 < _ by omega)).trans ((hHeld.cell (p := ⟨b1, o1 + k * 3 + 2, none⟩) hB').trans k2)
        clear hHeld
        refine wp_region_held_drew (S := fun W => Below (w.heap.size + 1 + 1 + 1) wA W) (by kernel_rfl) (Below.drew (Below.refl _ _)) (fun hHeld => ?_)
        obtain ⟨wS, hwS⟩ : ∃ wS, wS = wA.drew := ⟨_, rfl⟩
        have hSwS : Below (w.heap.size + 1 + 1 + 1) wA wS := by rw [hwS]; exact Below.drew (Below.refl _ _)
        have HPwS : Hid (PutSt (w.heap.size + 1 + 1 + 1) w0 (.slice va lk.length vc) lk F wS) := by rw [hwS]; exact HPA.out.under (Below.drew (Below.refl _ _))
        have hzA : wA.heap.size ≤ wS.heap.size := by rw [hwS]; exact Nat.le_refl _
        rw [← hwS] at hHeld ⊢
        clear hwS
        refine tk 0 q31a_83_9_0 (some 37) (v := ?v38) rfl rfl (by kernel_rfl) hHeld (by rfl) (fun _ _ _ x => x) (fun w h => ?y38) ?_; (case y38 => (try dsimp only at h); go_simp; try (with_reducible rfl)); try simp only [Act.put, sa, s0, s1]
        refine tk 2 q31a_83_9_2 (some 39) (v := ?v39) rfl rfl (by kernel_rfl) hHeld (by rfl) (fun _ _ _ x => x) (fun w h => ?y39) ?_; (case y39 => (try dsimp only at h); go_simp; try (with_reducible rfl)); try simp only [Act.put, sa, s0, s1]
        refine tk 3 q31a_83_9_3 (some 40) (v := ?v40) rfl rfl (by kernel_rfl) hHeld (by rfl) (fun _ _ _ x => x) (fun w h => ?y40) ?_; (case y40 => (try dsimp only at h); go_simp; try (with_reducible rfl)); try simp only [Act.put, sa, s0, s1]
        refine tk 4 q31a_83_9_4 (some 41) (v := ?v41) rfl rfl (by kernel_rfl) hHeld (by rfl) (fun _ _ _ x => x) (fun w h => ?y41) ?_; (case y41 => (try dsimp only at h); go_simp; try (with_reducible rfl)); try simp only [Act.put, sa, s0, s1]
        refine tk 5 q31a_83_9_5 (some 42) (v := ?v42) rfl rfl (by kernel_rfl) hHeld (by rfl) (fun _ _ _ x => x) (fun w h => ?y42) ?_; (case y42 => (try dsimp only at h); go_simp; try (with_reducible rfl)); try simp only [Act.put, sa, s0, s1]
        refine tk 6 q31a_83_9_6 (some 43) (v := ?v43) rfl rfl (by kernel_rfl) hHeld (by rfl) (fun _ _ _ x => x) (fun w h => ?y43) ?_; (case y43 => (try dsimp only at h); go_simp; try (with_reducible rfl)); try simp only [Act.put, sa, s0, s1]
        refine wpAnyH_ready (rs := [1, 7]) (by kernel_rfl) (by simp) ?_
        refine (AllReadyH.cons (o := q31a_83_9_1) rfl (fun K hK => ?_) (AllReadyH.cons (o := q31a_83_9_7) rfl (fun K hK => ?_) AllReadyH.nil))
        · skip
          have yq := HPwS.out.1.cell 0 _ rfl
          go_simp
          obtain ⟨wE1, hq1⟩ : ∃ q, q = wS := ⟨_, rfl⟩
          have HPwE1 : Hid (PutSt (w.heap.size + 1 + 1 + 1) w0 (.slice va lk.length vc) lk F wE1) := by rw [hq1]; exact HPwS
          have hSwE1 : Below (w.heap.size + 1 + 1 + 1) wA wE1 := by rw [hq1]; exact hSwS
          have hop1 : Below wS.heap.size wS wE1 := by rw [hq1]; exact Below.refl _ _
          rw [← hq1]
          clear hq1 yq
          refine hK.out _ _ (hSwE1) (fun hHeld => ?_)
          clear hK K
          try simp only [Act.put, sa, s0, s1]
          refine wpAnyH_ready (rs := [7]) (by kernel_rfl) (by simp) ?_
          refine (AllReadyH.cons (o := q31a_83_9_7) rfl (fun K hK => ?_) AllReadyH.nil)
          · go_simp
            have hpz := HPwE1.out.1.lt
            have hpF := fun b hb => ownS.lt oItem_good HPwE1.out.2.1 b hb
            have hpS := hSwE1
            have hfl := Below.size (show Below wS.heap.size wS wE1 from bthen (Below.refl _ _) hop1)
            refine Calls.mono (l8CopyItem_any _ x wE1 (rItem_good.mono (rItem_good.below HRx.out (hpS.mono (by omega))) (by omega)) hdk) ?_
            rintro e wE7 ⟨cs3, F3, rfl, ho3, hN3, hge3, hop7⟩
            have HPwE7 := Hid.mk (HPwE1.out.under hop7)
            have hSwE7 : Below (w.heap.size + 1 + 1 + 1) wA wE7 := hpS.trans (hop7.mono (by omega))
            have HC3 := Hid.mk ho3
            have HN3 := Hid.mk hN3
            have HG3 : Hid (∀ b, b ∈ F3 → (w.heap.size + 1 + 1 + 1) + 1 ≤ b) := fun b hb => (by have h := hge3 b hb; omega)
            have HDJ : Hid (∀ b, b ∈ F3 → b ∉ F) := fun b hb hbF => (by have h1 := hge3 b hb; have h2 := hpF b hbF; omega)
            obtain ⟨v1, F0, rfl, _, _, hv1, _⟩ := ho3
            obtain ⟨a1, ez1, rfl, _⟩ := ownS.read oDot_good hv1
            clear hv1 hN3 hge3 hpF hpS hfl
            go_wp2_with fail
            refine hK.out _ _ (hSwE7) (fun hHeld => ?_)
            clear hK K
            try simp only [Act.put, sa, s0, s1]
            refine wpAnyH_ready (rs := [8]) (by kernel_rfl) (by simp) ?_
            refine (AllReadyH.cons (o := q31a_83_9_8) rfl (fun K hK => ?_) AllReadyH.nil)
            · go_simp
              have hpz4 := HPwE7.out.1.lt
              obtain ⟨wE8, hq8⟩ : ∃ q, q = wE7.alloc (.cells #[.int .i64 x.fD.fR, .int .i64 x.fD.fN, .slice a1 x.fDeps.length ez1] 52) := ⟨_, rfl⟩
              have hop8 : Below wE7.heap.size wE7 wE8 := by rw [hq8]; exact (Below.refl _ _).alloc (Nat.le_refl _) _
              have HPwE8 := Hid.mk (HPwE7.out.under hop8)
              have hSwE8 : Below (w.heap.size + 1 + 1 + 1) wA wE8 := (hSwE7).trans (hop8.mono (by omega))
              obtain ⟨g4, HG4⟩ : ∃ z, Hid (z = wE7.heap.size) := ⟨_, Hid.mk rfl⟩
              have HB4 : Hid (Bx wE8 g4 [.int .i64 x.fD.fR, .int .i64 x.fD.fN, .slice a1 x.fDeps.length ez1]) := by unfold Hid; rw [HG4.out, hq8]; exact Bx.new _ _ _
              rw [← HG4.out]
              rw [← hq8]
              clear hq8
              refine hK.out _ _ (hSwE8) (fun hHeld => ?_)
              clear hK K
              try simp only [Act.put, sa, s0, s1]
              refine wpAnyH_ready (rs := [9]) (by kernel_rfl) (by simp) ?_
              refine (AllReadyH.cons (o := q31a_83_9_9) rfl (fun K hK => ?_) AllReadyH.nil)
              · skip
                have HX5 := HB4.out.under (show Below wE8.heap.size wE8 wE8 from Below.refl _ _)
                have hf3 := (show Below wE7.heap.size wE7 wE8 from bthen (Below.refl _ _) hop8)
                have hc3 := oItem_good.frame HC3.out (fun b hb => hf3.block b (oItem_good.lt HC3.out b hb))
                obtain ⟨rs, hox, hnext⟩ := HPwE8.out.app
                refine step_append_src wE8 rfl _ _ 28 28 rfl 0 52 iT (.agg #[.int .i64 0, .int .i64 0, .slice none 0 0]) 3 40 Tryd.underlying28 HIT.out.1 HIT.out.2.1 HIT.out.2.2.1 HIT.out.2.2.2 rfl (.slice va lk.length vc) (lk).length rs rfl hox (.slice (some ⟨g4, 0, none⟩) 1 1) rfl 1 _ (Src.item Tryd.underlying28 HX5) (by unfold maxLen; omega) (by omega) (Nat.zero_le _) ?_
                intro v5 wE9 ho5 hgr5 hat5
                obtain ⟨ln, HLn⟩ : ∃ z : List MItem, Hid (z = lk ++ [x]) := ⟨_, Hid.mk rfl⟩
                obtain ⟨Fn, an, cn, rfl, hn5, hb5, hl5⟩ := hnext wE9 v5 _ x F3 ho5 hgr5 hat5 hc3 HN3.out HDJ.out HG3.out ln HLn.out
                have HNn := Hid.mk hn5
                have hSwE9 : Below (w.heap.size + 1 + 1 + 1) wA wE9 := (by have hpS := hSwE8; have hpz5 := HPwE8.out.1.lt; exact hpS.grown hgr5 (by omega) (fun k hk => by have := HPwE8.out.2.2.2.1 k (ownS.blk HPwE8.out.2.1 k hk); omega))
                have q1 := hb5.cell 0 _ rfl
                have qf := hb5.free 0
                have ql := hb5.lt
                clear ho5 hgr5 hat5 hc3 hn5 hb5 hl5 hox hnext
                refine hK.out _ _ (hSwE9) (fun hHeld => ?_)
                clear hK K
                try simp only [Act.put, sa, s0, s1]
                refine tk 10 q31a_83_9_10 (some 47) (v := ?v44) rfl rfl (by kernel_rfl) hHeld (by rfl) (fun _ _ _ x => x) (fun w h => ?y44) ?_; (case y44 => (try dsimp only at h); go_simp; try (with_reducible rfl)); try simp only [Act.put, sa, s0, s1]
                refine wpAnyH_ready (rs := [11]) (by kernel_rfl) (by simp) ?_
                refine (AllReadyH.cons (o := q31a_83_9_11) rfl (fun K hK => ?_) AllReadyH.nil)
                · go_simp
                  obtain ⟨wE11, hq11⟩ : ∃ q, q = wE9.setCell ⟨w.heap.size + 1 + 1 + 1, 0, none⟩ (.slice an ln.length cn) := ⟨_, rfl⟩
                  rw [← hq11] at HNn
                  have hSwE11 : Below (w.heap.size + 1 + 1 + 1) wA wE11 := by rw [hq11]; exact hSwE9.setCell (Nat.le_refl _) _
                  obtain ⟨wn, hwn⟩ : ∃ q, q = wE11 := ⟨_, rfl⟩
                  rw [← hq11]
                  clear hq11 q1 qf ql
                  refine hK.out _ _ (hSwE11) (fun hHeld => ?_)
                  clear hK K
                  try simp only [Act.put, sa, s0, s1]
                  refine wpAnyH_done (by kernel_rfl) ?_ _
                  rw [← hwn] at HNn ⊢
                  clear hwn
                  go_wp2_with fail
                  go_roundw
                  case rel => exact ⟨k + 1, an, cn, Fn, by omega, by go_num, by rw [HD9.out], by rw [HSn.out, ← HLn.out]; exact HNn⟩
                  case measure => simp [intOf]; omega
        · go_simp
          have hpz := HPwS.out.1.lt
          have hpF := fun b hb => ownS.lt oItem_good HPwS.out.2.1 b hb
          have hpS := hSwS
          have hfl := Below.size (show Below wS.heap.size wS wS from Below.refl _ _)
          refine Calls.mono (l8CopyItem_any _ x wS (rItem_good.mono (rItem_good.below HRx.out (hpS.mono (by omega))) (by omega)) hdk) ?_
          rintro e wE7 ⟨cs3, F3, rfl, ho3, hN3, hge3, hop7⟩
          have HPwE7 := Hid.mk (HPwS.out.under hop7)
          have hSwE7 : Below (w.heap.size + 1 + 1 + 1) wA wE7 := hpS.trans (hop7.mono (by omega))
          have HC3 := Hid.mk ho3
          have HN3 := Hid.mk hN3
          have HG3 : Hid (∀ b, b ∈ F3 → (w.heap.size + 1 + 1 + 1) + 1 ≤ b) := fun b hb => (by have h := hge3 b hb; omega)
          have HDJ : Hid (∀ b, b ∈ F3 → b ∉ F) := fun b hb hbF => (by have h1 := hge3 b hb; have h2 := hpF b hbF; omega)
          obtain ⟨v1, F0, rfl, _, _, hv1, _⟩ := ho3
          obtain ⟨a1, ez1, rfl, _⟩ := ownS.read oDot_good hv1
          clear hv1 hN3 hge3 hpF hpS hfl
          go_wp2_with fail
          refine hK.out _ _ (hSwE7) (fun hHeld => ?_)
          clear hK K
          try simp only [Act.put, sa, s0, s1]
          refine wpAnyH_ready (rs := [1, 8]) (by kernel_rfl) (by simp) ?_
          refine (AllReadyH.cons (o := q31a_83_9_1) rfl (fun K hK => ?_) (AllReadyH.cons (o := q31a_83_9_8) rfl (fun K hK => ?_) AllReadyH.nil))
          · skip
            have yq := HPwE7.out.1.cell 0 _ rfl
            go_simp
            obtain ⟨wE1, hq1⟩ : ∃ q, q = wE7 := ⟨_, rfl⟩
            have HPwE1 : Hid (PutSt (w.heap.size + 1 + 1 + 1) w0 (.slice va lk.length vc) lk F wE1) := by rw [hq1]; exact HPwE7
            have hSwE1 : Below (w.heap.size + 1 + 1 + 1) wA wE1 := by rw [hq1]; exact hSwE7
            have hop1 : Below wE7.heap.size wE7 wE1 := by rw [hq1]; exact Below.refl _ _
            rw [← hq1]
            clear hq1 yq
            refine hK.out _ _ (hSwE1) (fun hHeld => ?_)
            clear hK K
            try simp only [Act.put, sa, s0, s1]
            refine wpAnyH_ready (rs := [8]) (by kernel_rfl) (by simp) ?_
            refine (AllReadyH.cons (o := q31a_83_9_8) rfl (fun K hK => ?_) AllReadyH.nil)
            · go_simp
              have hpz4 := HPwE1.out.1.lt
              obtain ⟨wE8, hq8⟩ : ∃ q, q = wE1.alloc (.cells #[.int .i64 x.fD.fR, .int .i64 x.fD.fN, .slice a1 x.fDeps.length ez1] 52) := ⟨_, rfl⟩
              have hop8 : Below wE1.heap.size wE1 wE8 := by rw [hq8]; exact (Below.refl _ _).alloc (Nat.le_refl _) _
              have HPwE8 := Hid.mk (HPwE1.out.under hop8)
              have hSwE8 : Below (w.heap.size + 1 + 1 + 1) wA wE8 := (hSwE1).trans (hop8.mono (by omega))
              obtain ⟨g4, HG4⟩ : ∃ z, Hid (z = wE1.heap.size) := ⟨_, Hid.mk rfl⟩
              have HB4 : Hid (Bx wE8 g4 [.int .i64 x.fD.fR, .int .i64 x.fD.fN, .slice a1 x.fDeps.length ez1]) := by unfold Hid; rw [HG4.out, hq8]; exact Bx.new _ _ _
              rw [← HG4.out]
              rw [← hq8]
              clear hq8
              refine hK.out _ _ (hSwE8) (fun hHeld => ?_)
              clear hK K
              try simp only [Act.put, sa, s0, s1]
              refine wpAnyH_ready (rs := [9]) (by kernel_rfl) (by simp) ?_
              refine (AllReadyH.cons (o := q31a_83_9_9) rfl (fun K hK => ?_) AllReadyH.nil)
              · skip
                have HX5 := HB4.out.under (show Below wE8.heap.size wE8 wE8 from Below.refl _ _)
                have hf3 := (show Below wE7.heap.size wE7 wE8 from bthen (bthen (Below.refl _ _) hop1) hop8)
                have hc3 := oItem_good.frame HC3.out (fun b hb => hf3.block b (oItem_good.lt HC3.out b hb))
                obtain ⟨rs, hox, hnext⟩ := HPwE8.out.app
                refine step_append_src wE8 rfl _ _ 28 28 rfl 0 52 iT (.agg #[.int .i64 0, .int .i64 0, .slice none 0 0]) 3 40 Tryd.underlying28 HIT.out.1 HIT.out.2.1 HIT.out.2.2.1 HIT.out.2.2.2 rfl (.slice va lk.length vc) (lk).length rs rfl hox (.slice (some ⟨g4, 0, none⟩) 1 1) rfl 1 _ (Src.item Tryd.underlying28 HX5) (by unfold maxLen; omega) (by omega) (Nat.zero_le _) ?_
                intro v5 wE9 ho5 hgr5 hat5
                obtain ⟨ln, HLn⟩ : ∃ z : List MItem, Hid (z = lk ++ [x]) := ⟨_, Hid.mk rfl⟩
                obtain ⟨Fn, an, cn, rfl, hn5, hb5, hl5⟩ := hnext wE9 v5 _ x F3 ho5 hgr5 hat5 hc3 HN3.out HDJ.out HG3.out ln HLn.out
                have HNn := Hid.mk hn5
                have hSwE9 : Below (w.heap.size + 1 + 1 + 1) wA wE9 := (by have hpS := hSwE8; have hpz5 := HPwE8.out.1.lt; exact hpS.grown hgr5 (by omega) (fun k hk => by have := HPwE8.out.2.2.2.1 k (ownS.blk HPwE8.out.2.1 k hk); omega))
                have q1 := hb5.cell 0 _ rfl
                have qf := hb5.free 0
                have ql := hb5.lt
                clear ho5 hgr5 hat5 hc3 hn5 hb5 hl5 hox hnext
                refine hK.out _ _ (hSwE9) (fun hHeld => ?_)
                clear hK K
                try simp only [Act.put, sa, s0, s1]
                refine tk 10 q31a_83_9_10 (some 47) (v := ?v45) rfl rfl (by kernel_rfl) hHeld (by rfl) (fun _ _ _ x => x) (fun w h => ?y45) ?_; (case y45 => (try dsimp only at h); go_simp; try (with_reducible rfl)); try simp only [Act.put, sa, s0, s1]
                refine wpAnyH_ready (rs := [11]) (by kernel_rfl) (by simp) ?_
                refine (AllReadyH.cons (o := q31a_83_9_11) rfl (fun K hK => ?_) AllReadyH.nil)
                · go_simp
                  obtain ⟨wE11, hq11⟩ : ∃ q, q = wE9.setCell ⟨w.heap.size + 1 + 1 + 1, 0, none⟩ (.slice an ln.length cn) := ⟨_, rfl⟩
                  rw [← hq11] at HNn
                  have hSwE11 : Below (w.heap.size + 1 + 1 + 1) wA wE11 := by rw [hq11]; exact hSwE9.setCell (Nat.le_refl _) _
                  obtain ⟨wn, hwn⟩ : ∃ q, q = wE11 := ⟨_, rfl⟩
                  rw [← hq11]
                  clear hq11 q1 qf ql
                  refine hK.out _ _ (hSwE11) (fun hHeld => ?_)
                  clear hK K
                  try simp only [Act.put, sa, s0, s1]
                  refine wpAnyH_done (by kernel_rfl) ?_ _
                  rw [← hwn] at HNn ⊢
                  clear hwn
                  go_wp2_with fail
                  go_roundw
                  case rel => exact ⟨k + 1, an, cn, Fn, by omega, by go_num, by rw [HD9.out], by rw [HSn.out, ← HLn.out]; exact HNn⟩
                  case measure => simp [intOf]; omega
          · go_simp
            have hpz4 := HPwE7.out.1.lt
            obtain ⟨wE8, hq8⟩ : ∃ q, q = wE7.alloc (.cells #[.int .i64 x.fD.fR, .int .i64 x.fD.fN, .slice a1 x.fDeps.length ez1] 52) := ⟨_, rfl⟩
            have hop8 : Below wE7.heap.size wE7 wE8 := by rw [hq8]; exact (Below.refl _ _).alloc (Nat.le_refl _) _
            have HPwE8 := Hid.mk (HPwE7.out.under hop8)
            have hSwE8 : Below (w.heap.size + 1 + 1 + 1) wA wE8 := (hSwE7).trans (hop8.mono (by omega))
            obtain ⟨g4, HG4⟩ : ∃ z, Hid (z = wE7.heap.size) := ⟨_, Hid.mk rfl⟩
            have HB4 : Hid (Bx wE8 g4 [.int .i64 x.fD.fR, .int .i64 x.fD.fN, .slice a1 x.fDeps.length ez1]) := by unfold Hid; rw [HG4.out, hq8]; exact Bx.new _ _ _
            rw [← HG4.out]
            rw [← hq8]
            clear hq8
            refine hK.out _ _ (hSwE8) (fun hHeld => ?_)
            clear hK K
            try simp only [Act.put, sa, s0, s1]
            refine wpAnyH_ready (rs := [1]) (by kernel_rfl) (by simp) ?_
            refine (AllReadyH.cons (o := q31a_83_9_1) rfl (fun K hK => ?_) AllReadyH.nil)
            · skip
              have yq := HPwE8.out.1.cell 0 _ rfl
              go_simp
              obtain ⟨wE1, hq1⟩ : ∃ q, q = wE8 := ⟨_, rfl⟩
              have HPwE1 : Hid (PutSt (w.heap.size + 1 + 1 + 1) w0 (.slice va lk.length vc) lk F wE1) := by rw [hq1]; exact HPwE8
              have hSwE1 : Below (w.heap.size + 1 + 1 + 1) wA wE1 := by rw [hq1]; exact hSwE8
              have hop1 : Below wE8.heap.size wE8 wE1 := by rw [hq1]; exact Below.refl _ _
              rw [← hq1]
              clear hq1 yq
              refine hK.out _ _ (hSwE1) (fun hHeld => ?_)
              clear hK K
              try simp only [Act.put, sa, s0, s1]
              refine wpAnyH_ready (rs := [9]) (by kernel_rfl) (by simp) ?_
              refine (AllReadyH.cons (o := q31a_83_9_9) rfl (fun K hK => ?_) AllReadyH.nil)
              · skip
                have HX5 := HB4.out.under (show Below wE8.heap.size wE8 wE1 from bthen (Below.refl _ _) hop1)
                have hf3 := (show Below wE7.heap.size wE7 wE1 from bthen (bthen (Below.refl _ _) hop8) hop1)
                have hc3 := oItem_good.frame HC3.out (fun b hb => hf3.block b (oItem_good.lt HC3.out b hb))
                obtain ⟨rs, hox, hnext⟩ := HPwE1.out.app
                refine step_append_src wE1 rfl _ _ 28 28 rfl 0 52 iT (.agg #[.int .i64 0, .int .i64 0, .slice none 0 0]) 3 40 Tryd.underlying28 HIT.out.1 HIT.out.2.1 HIT.out.2.2.1 HIT.out.2.2.2 rfl (.slice va lk.length vc) (lk).length rs rfl hox (.slice (some ⟨g4, 0, none⟩) 1 1) rfl 1 _ (Src.item Tryd.underlying28 HX5) (by unfold maxLen; omega) (by omega) (Nat.zero_le _) ?_
                intro v5 wE9 ho5 hgr5 hat5
                obtain ⟨ln, HLn⟩ : ∃ z : List MItem, Hid (z = lk ++ [x]) := ⟨_, Hid.mk rfl⟩
                obtain ⟨Fn, an, cn, rfl, hn5, hb5, hl5⟩ := hnext wE9 v5 _ x F3 ho5 hgr5 hat5 hc3 HN3.out HDJ.out HG3.out ln HLn.out
                have HNn := Hid.mk hn5
                have hSwE9 : Below (w.heap.size + 1 + 1 + 1) wA wE9 := (by have hpS := hSwE1; have hpz5 := HPwE1.out.1.lt; exact hpS.grown hgr5 (by omega) (fun k hk => by have := HPwE1.out.2.2.2.1 k (ownS.blk HPwE1.out.2.1 k hk); omega))
                have q1 := hb5.cell 0 _ rfl
                have qf := hb5.free 0
                have ql := hb5.lt
                clear ho5 hgr5 hat5 hc3 hn5 hb5 hl5 hox hnext
                refine hK.out _ _ (hSwE9) (fun hHeld => ?_)
                clear hK K
                try simp only [Act.put, sa, s0, s1]
                refine tk 10 q31a_83_9_10 (some 47) (v := ?v46) rfl rfl (by kernel_rfl) hHeld (by rfl) (fun _ _ _ x => x) (fun w h => ?y46) ?_; (case y46 => (try dsimp only at h); go_simp; try (with_reducible rfl)); try simp only [Act.put, sa, s0, s1]
                refine wpAnyH_ready (rs := [11]) (by kernel_rfl) (by simp) ?_
                refine (AllReadyH.cons (o := q31a_83_9_11) rfl (fun K hK => ?_) AllReadyH.nil)
                · go_simp
                  obtain ⟨wE11, hq11⟩ : ∃ q, q = wE9.setCell ⟨w.heap.size + 1 + 1 + 1, 0, none⟩ (.slice an ln.length cn) := ⟨_, rfl⟩
                  rw [← hq11] at HNn
                  have hSwE11 : Below (w.heap.size + 1 + 1 + 1) wA wE11 := by rw [hq11]; exact hSwE9.setCell (Nat.le_refl _) _
                  obtain ⟨wn, hwn⟩ : ∃ q, q = wE11 := ⟨_, rfl⟩
                  rw [← hq11]
                  clear hq11 q1 qf ql
                  refine hK.out _ _ (hSwE11) (fun hHeld => ?_)
                  clear hK K
                  try simp only [Act.put, sa, s0, s1]
                  refine wpAnyH_done (by kernel_rfl) ?_ _
                  rw [← hwn] at HNn ⊢
                  clear hwn
                  go_wp2_with fail
                  go_roundw
                  case rel => exact ⟨k + 1, an, cn, Fn, by omega, by go_num, by rw [HD9.out], by rw [HSn.out, ← HLn.out]; exact HNn⟩
                  case measure => simp [intOf]; omega
      · have hd1 : decide (q < k) = false := decide_eq_false hqk
        rw [hd1]
        by_cases hqe : q = k
        · have hdl := HGT.out hqe
          simp only [hdl] at hCl
          have HSn := Hid.mk (HS2.out hqe)
          have HD9 : Hid (decide (q < k + 1) = true) := decide_eq_true (by omega)
          clear HS1 HS2 HS3 HLT HGT
          go_wp2_with fail
          refine wp_region_held_drew (S := fun W => Below wr.heap.size wr W) (by kernel_rfl) (Below.drew (Below.refl _ _)) (fun hHeld => ?_)
          refine tk 0 q31a_83_6_0 (some 17) (v := ?v14) rfl rfl (by kernel_rfl) hHeld (by rfl) (fun _ _ _ x => x) (fun w h => ?y14) ?_; (case y14 => (try dsimp only at h); go_simp; try (with_reducible rfl)); try simp only [Act.put, sa, s0, s1]
          refine tk 1 q31a_83_6_1 (some 18) (v := ?v15) rfl rfl (by kernel_rfl) hHeld (by rfl) (fun _ _ _ x => x) (fun w h => ?y15) ?_; (case y15 => (try dsimp only at h); go_simp; try (with_reducible rfl)); try simp only [Act.put, sa, s0, s1]
          refine tk 2 q31a_83_6_2 (some 19) (v := ?v16) rfl rfl (by kernel_rfl) hHeld (by rfl) (fun _ _ _ x => x) (fun w h => ?y16) ?_; (case y16 => (try dsimp only at h); go_simp; try (with_reducible rfl)); try simp only [Act.put, sa, s0, s1]
          refine tk 3 q31a_83_6_3 (some 20) (v := ?v17) rfl rfl (by kernel_rfl) hHeld (by rfl) (fun _ _ _ x => x) (fun w h => ?y17) ?_; (case y17 => (try dsimp only at h); go_simp; try (with_reducible rfl)); try simp only [Act.put, sa, s0, s1]
          refine tk 4 q31a_83_6_4 (some 21) (v := ?v18) rfl rfl (by kernel_rfl) hHeld (by rfl) (fun _ _ _ x => x) (fun w h => ?y18) ?_; (case y18 => (try dsimp only at h); go_simp; try (with_reducible rfl)); try simp only [Act.put, sa, s0, s1]
          refine tk 5 q31a_83_6_5 (some 22) (v := ?v19) rfl rfl (by kernel_rfl) hHeld (by rfl) (fun _ _ _ x => x) (fun w h => ?y19) ?_; (case y19 => (try dsimp only at h); go_simp; try (with_reducible rfl)); try simp only [Act.put, sa, s0, s1]
          refine tk 6 q31a_83_6_6 (some 23) (v := ?v20) rfl rfl (by kernel_rfl) hHeld (by rfl) (fun _ _ _ x => x) (fun w h => ?y20) ?_; (case y20 => (try dsimp only at h); go_simp; try (with_reducible rfl)); try simp only [Act.put, sa, s0, s1]
          refine tk 7 q31a_83_6_7 (some 24) (v := ?v21) rfl rfl (by kernel_rfl) hHeld (by rfl) (fun _ _ _ x => x) (fun w h => ?y21) ?_; (case y21 => (try dsimp only at h); go_simp; try (with_reducible rfl)); try simp only [Act.put, sa, s0, s1]
          refine tk 8 q31a_83_6_8 (some 25) (v := ?v22) rfl rfl (by kernel_rfl) hHeld (by rfl) (fun _ _ _ x => x) (fun w h => ?y22) ?_; (case y22 => (try dsimp only at h); go_simp; try (with_reducible rfl)); try simp only [Act.put, sa, s0, s1]
          refine tk 9 q31a_83_6_9 (some 26) (v := ?v23) rfl rfl (by kernel_rfl) hHeld (by rfl) (fun _ _ _ x => x) (fun w h => ?y23) ?_; (case y23 => (try dsimp only at h); go_simp; try (with_reducible rfl)); try simp only [Act.put, sa, s0, s1]
          refine tk 10 q31a_83_6_10 (some 27) (v := ?v24) rfl rfl (by kernel_rfl) hHeld (by rfl) (fun _ _ _ x => x) (fun w h => ?y24) ?_; (case y24 => (try dsimp only at h); go_simp; try (with_reducible rfl)); try simp only [Act.put, sa, s0, s1]
          refine wpAnyH_ready (rs := [11]) (by kernel_rfl) (by simp) ?_
          refine AllReadyH.cons (o := q31a_83_6_11) rfl (fun K hK => ?_) AllReadyH.nil
          go_simp
          refine Calls.mono (hCl _ hHeld) ?_
          rintro e wC ⟨rfl, hx1⟩
          go_wp2_with fail
          refine hK.out _ _ (bthen hHeld hx1) (fun hHeld => ?_)
          clear hK K
          try simp only [Act.put, sa, s0, s1]
          refine tk 12 q31a_83_6_12 (some 29) (v := ?v25) rfl rfl (by kernel_rfl) hHeld (by rfl) (fun _ _ _ x => x) (fun w h => ?y25) ?_; (case y25 => (try dsimp only at h); go_simp; try (with_reducible rfl)); try simp only [Act.put, sa, s0, s1]
          refine wpAnyH_done (by kernel_rfl) ?_ _
          go_wp2_with fail
          obtain ⟨wA, hwA⟩ : ∃ x, x = wC := ⟨_, rfl⟩
          rw [← hwA] at hHeld ⊢
          clear hwA x0 y0 y1 e0 e1 hCl
          have HPA := Hid.mk (HPk.out.under hHeld)
          have hgA := hgk.under hHeld
          have hiA := hik.under hHeld
          have hzA0 : (w.heap.size + 1 + 1 + 1) < wA.heap.size := HPA.out.1.lt
          have hsA := hHeld.size
          have HRx := Hid.mk (rItem_good.below HRi.out (hHeld.mono hbk.size))
          have HRt := Hid.mk (rItem_good.below HRI.out (hbk.trans (hHeld.mono hbk.size)))
          have x0 : ∀ W, Below (w.heap.size + 1 + 1 + 1) wA W → W.cell? ⟨w.heap.size, 0, none⟩ = some (.slice (some ⟨b1, o1, none⟩) n c) := fun W h => (hgA.below h (by omega)).2 0 _ rfl
          have y0 : ∀ W, Below (w.heap.size + 1 + 1 + 1) wA W → W.cell? ⟨w.heap.size + 1, 0, none⟩ = some (.int .i64 it.fD.fR) := fun W h => (hiA.below h (by omega)).2 0 _ rfl
          have y1 : ∀ W, Below (w.heap.size + 1 + 1 + 1) wA W → W.cell? ⟨w.heap.size + 1, 1, none⟩ = some (.int .i64 it.fD.fN) := fun W h => (hiA.below h (by omega)).2 1 _ rfl
          have y2 : ∀ W, Below (w.heap.size + 1 + 1 + 1) wA W → W.cell? ⟨w.heap.size + 1, 2, none⟩ = some (.slice ai it.fDeps.length ci) := fun W h => (hiA.below h (by omega)).2 2 _ rfl
          have e0 : ∀ W, Below (w.heap.size + 1 + 1 + 1) wA W → W.cell? ⟨b1, o1 + k * 3, none⟩ = some (.int .i64 x.fD.fR) := fun W h => (h.cell (p := ⟨b1, o1 + k * 3, none⟩) (show b1 < _ by omega)).trans ((hHeld.cell (p := ⟨b1, o1 + k * 3, none⟩) hB').trans k0)
          have e1 : ∀ W, Below (w.heap.size + 1 + 1 + 1) wA W → W.cell? ⟨b1, o1 + k * 3 + 1, none⟩ = some (.int .i64 x.fD.fN) := fun W h => (h.cell (p := ⟨b1, o1 + k * 3 + 1, none⟩) (show b1 < _ by omega)).trans ((hHeld.cell (p := ⟨b1, o1 + k * 3 + 1, none⟩) hB').trans k1)
          have e2 : ∀ W, Below (w.heap.size + 1 + 1 + 1) wA W → W.cell? ⟨b1, o1 + k * 3 + 2, none⟩ = some (.slice a2 x.fDeps.length c2) := fun W h => (h.cell (p := ⟨b1, o1 + k * 3 + 2, none⟩) (show b1 < _ by omega)).trans ((hHeld.cell (p := ⟨b1, o1 + k * 3 + 2, none⟩) hB').trans k2)
          clear hHeld
          refine wp_region_held_drew (S := fun W => Below (w.heap.size + 1 + 1 + 1) wA W) (by kernel_rfl) (Below.drew (Below.refl _ _)) (fun hHeld => ?_)
          obtain ⟨wS, hwS⟩ : ∃ wS, wS = wA.drew := ⟨_, rfl⟩
          have hSwS : Below (w.heap.size + 1 + 1 + 1) wA wS := by rw [hwS]; exact Below.drew (Below.refl _ _)
          have HPwS : Hid (PutSt (w.heap.size + 1 + 1 + 1) w0 (.slice va lk.length vc) lk F wS) := by rw [hwS]; exact HPA.out.under (Below.drew (Below.refl _ _))
          have hzA : wA.heap.size ≤ wS.heap.size := by rw [hwS]; exact Nat.le_refl _
          rw [← hwS] at hHeld ⊢
          clear hwS
          refine tk 0 q31a_83_7_0 (some 30) (v := ?v47) rfl rfl (by kernel_rfl) hHeld (by rfl) (fun _ _ _ x => x) (fun w h => ?y47) ?_; (case y47 => (try dsimp only at h); go_simp; try (with_reducible rfl)); try simp only [Act.put, sa, s0, s1]
          refine tk 2 q31a_83_7_2 (some 32) (v := ?v48) rfl rfl (by kernel_rfl) hHeld (by rfl) (fun _ _ _ x => x) (fun w h => ?y48) ?_; (case y48 => (try dsimp only at h); go_simp; try (with_reducible rfl)); try simp only [Act.put, sa, s0, s1]
          refine wpAnyH_ready (rs := [1, 3]) (by kernel_rfl) (by simp) ?_
          refine (AllReadyH.cons (o := q31a_83_7_1) rfl (fun K hK => ?_) (AllReadyH.cons (o := q31a_83_7_3) rfl (fun K hK => ?_) AllReadyH.nil))
          · skip
            have yq := HPwS.out.1.cell 0 _ rfl
            go_simp
            obtain ⟨wE1, hq1⟩ : ∃ q, q = wS := ⟨_, rfl⟩
            have HPwE1 : Hid (PutSt (w.heap.size + 1 + 1 + 1) w0 (.slice va lk.length vc) lk F wE1) := by rw [hq1]; exact HPwS
            have hSwE1 : Below (w.heap.size + 1 + 1 + 1) wA wE1 := by rw [hq1]; exact hSwS
            have hop1 : Below wS.heap.size wS wE1 := by rw [hq1]; exact Below.refl _ _
            rw [← hq1]
            clear hq1 yq
            refine hK.out _ _ (hSwE1) (fun hHeld => ?_)
            clear hK K
            try simp only [Act.put, sa, s0, s1]
            refine wpAnyH_ready (rs := [3]) (by kernel_rfl) (by simp) ?_
            refine (AllReadyH.cons (o := q31a_83_7_3) rfl (fun K hK => ?_) AllReadyH.nil)
            · go_simp
              have hpz := HPwE1.out.1.lt
              have hpF := fun b hb => ownS.lt oItem_good HPwE1.out.2.1 b hb
              have hpS := hSwE1
              have hfl := Below.size (show Below wS.heap.size wS wE1 from bthen (Below.refl _ _) hop1)
              refine Calls.mono (l8CopyItem_any _ it wE1 (rItem_good.mono (rItem_good.below HRt.out (hpS.mono (by omega))) (by omega)) hdi) ?_
              rintro e wE3 ⟨cs3, F3, rfl, ho3, hN3, hge3, hop3⟩
              have HPwE3 := Hid.mk (HPwE1.out.under hop3)
              have hSwE3 : Below (w.heap.size + 1 + 1 + 1) wA wE3 := hpS.trans (hop3.mono (by omega))
              have HC3 := Hid.mk ho3
              have HN3 := Hid.mk hN3
              have HG3 : Hid (∀ b, b ∈ F3 → (w.heap.size + 1 + 1 + 1) + 1 ≤ b) := fun b hb => (by have h := hge3 b hb; omega)
              have HDJ : Hid (∀ b, b ∈ F3 → b ∉ F) := fun b hb hbF => (by have h1 := hge3 b hb; have h2 := hpF b hbF; omega)
              obtain ⟨v1, F0, rfl, _, _, hv1, _⟩ := ho3
              obtain ⟨a1, ez1, rfl, _⟩ := ownS.read oDot_good hv1
              clear hv1 hN3 hge3 hpF hpS hfl
              go_wp2_with fail
              refine hK.out _ _ (hSwE3) (fun hHeld => ?_)
              clear hK K
              try simp only [Act.put, sa, s0, s1]
              refine wpAnyH_ready (rs := [4]) (by kernel_rfl) (by simp) ?_
              refine (AllReadyH.cons (o := q31a_83_7_4) rfl (fun K hK => ?_) AllReadyH.nil)
              · go_simp
                have hpz4 := HPwE3.out.1.lt
                obtain ⟨wE4, hq4⟩ : ∃ q, q = wE3.alloc (.cells #[.int .i64 it.fD.fR, .int .i64 it.fD.fN, .slice a1 it.fDeps.length ez1] 52) := ⟨_, rfl⟩
                have hop4 : Below wE3.heap.size wE3 wE4 := by rw [hq4]; exact (Below.refl _ _).alloc (Nat.le_refl _) _
                have HPwE4 := Hid.mk (HPwE3.out.under hop4)
                have hSwE4 : Below (w.heap.size + 1 + 1 + 1) wA wE4 := (hSwE3).trans (hop4.mono (by omega))
                obtain ⟨g4, HG4⟩ : ∃ z, Hid (z = wE3.heap.size) := ⟨_, Hid.mk rfl⟩
                have HB4 : Hid (Bx wE4 g4 [.int .i64 it.fD.fR, .int .i64 it.fD.fN, .slice a1 it.fDeps.length ez1]) := by unfold Hid; rw [HG4.out, hq4]; exact Bx.new _ _ _
                rw [← HG4.out]
                rw [← hq4]
                clear hq4
                refine hK.out _ _ (hSwE4) (fun hHeld => ?_)
                clear hK K
                try simp only [Act.put, sa, s0, s1]
                refine wpAnyH_ready (rs := [5]) (by kernel_rfl) (by simp) ?_
                refine (AllReadyH.cons (o := q31a_83_7_5) rfl (fun K hK => ?_) AllReadyH.nil)
                · skip
                  have HX5 := HB4.out.under (show Below wE4.heap.size wE4 wE4 from Below.refl _ _)
                  have hf3 := (show Below wE3.heap.size wE3 wE4 from bthen (Below.refl _ _) hop4)
                  have hc3 := oItem_good.frame HC3.out (fun b hb => hf3.block b (oItem_good.lt HC3.out b hb))
                  obtain ⟨rs, hox, hnext⟩ := HPwE4.out.app
                  refine step_append_src wE4 rfl _ _ 28 28 rfl 0 52 iT (.agg #[.int .i64 0, .int .i64 0, .slice none 0 0]) 3 40 Tryd.underlying28 HIT.out.1 HIT.out.2.1 HIT.out.2.2.1 HIT.out.2.2.2 rfl (.slice va lk.length vc) (lk).length rs rfl hox (.slice (some ⟨g4, 0, none⟩) 1 1) rfl 1 _ (Src.item Tryd.underlying28 HX5) (by unfold maxLen; omega) (by omega) (Nat.zero_le _) ?_
                  intro v5 wE5 ho5 hgr5 hat5
                  obtain ⟨lp, HLp⟩ : ∃ z : List MItem, Hid (z = lk ++ [it]) := ⟨_, Hid.mk rfl⟩
                  obtain ⟨Fp, ap, cp, rfl, hn5, hb5, hl5⟩ := hnext wE5 v5 _ it F3 ho5 hgr5 hat5 hc3 HN3.out HDJ.out HG3.out lp HLp.out
                  have HNp := Hid.mk hn5
                  have hSwE5 : Below (w.heap.size + 1 + 1 + 1) wA wE5 := (by have hpS := hSwE4; have hpz5 := HPwE4.out.1.lt; exact hpS.grown hgr5 (by omega) (fun k hk => by have := HPwE4.out.2.2.2.1 k (ownS.blk HPwE4.out.2.1 k hk); omega))
                  have q1 := hb5.cell 0 _ rfl
                  have qf := hb5.free 0
                  have ql := hb5.lt
                  clear ho5 hgr5 hat5 hc3 hn5 hb5 hl5 hox hnext
                  refine hK.out _ _ (hSwE5) (fun hHeld => ?_)
                  clear hK K
                  try simp only [Act.put, sa, s0, s1]
                  refine tk 6 q31a_83_7_6 (some 36) (v := ?v49) rfl rfl (by kernel_rfl) hHeld (by rfl) (fun _ _ _ x => x) (fun w h => ?y49) ?_; (case y49 => (try dsimp only at h); go_simp; try (with_reducible rfl)); try simp only [Act.put, sa, s0, s1]
                  refine wpAnyH_ready (rs := [7]) (by kernel_rfl) (by simp) ?_
                  refine (AllReadyH.cons (o := q31a_83_7_7) rfl (fun K hK => ?_) AllReadyH.nil)
                  · go_simp
                    obtain ⟨wE7, hq7⟩ : ∃ q, q = wE5.setCell ⟨w.heap.size + 1 + 1 + 1, 0, none⟩ (.slice ap lp.length cp) := ⟨_, rfl⟩
                    rw [← hq7] at HNp
                    have hSwE7 : Below (w.heap.size + 1 + 1 + 1) wA wE7 := by rw [hq7]; exact hSwE5.setCell (Nat.le_refl _) _
                    obtain ⟨wp, hwp⟩ : ∃ q, q = wE7 := ⟨_, rfl⟩
                    rw [← hq7]
                    clear hq7 q1 qf ql
                    refine hK.out _ _ (hSwE7) (fun hHeld => ?_)
                    clear hK K
                    try simp only [Act.put, sa, s0, s1]
                    refine wpAnyH_done (by kernel_rfl) ?_ _
                    have hzP0 : (w.heap.size + 1 + 1 + 1) < wE7.heap.size := HNp.out.1.lt
                    have hSp : Below (w.heap.size + 1 + 1 + 1) wA wp := by rw [hwp]; exact hSwE7
                    rw [← hwp] at HNp ⊢
                    clear hwp
                    have HRy := Hid.mk (rItem_good.below HRx.out (hSp.mono (by omega)))
                    have hly : lp.length ≤ 1048578 := (by rw [HLp.out]; simp; omega)
                    have x0p : ∀ W, Below (w.heap.size + 1 + 1 + 1) wp W → W.cell? ⟨w.heap.size, 0, none⟩ = some (.slice (some ⟨b1, o1, none⟩) n c) := fun W h => x0 W (hSp.trans h)
                    have e0p : ∀ W, Below (w.heap.size + 1 + 1 + 1) wp W → W.cell? ⟨b1, o1 + k * 3, none⟩ = some (.int .i64 x.fD.fR) := fun W h => e0 W (hSp.trans h)
                    have e1p : ∀ W, Below (w.heap.size + 1 + 1 + 1) wp W → W.cell? ⟨b1, o1 + k * 3 + 1, none⟩ = some (.int .i64 x.fD.fN) := fun W h => e1 W (hSp.trans h)
                    have e2p : ∀ W, Below (w.heap.size + 1 + 1 + 1) wp W → W.cell? ⟨b1, o1 + k * 3 + 2, none⟩ = some (.slice a2 x.fDeps.length c2) := fun W h => e2 W (hSp.trans h)
                    clear x0 y0 y1 y2 e0 e1 e2 HPA HC3 HN3 HG3 HDJ HB4 HG4
                    go_wp2_with fail
                    refine wp_region_held_drew (S := fun W => Below (w.heap.size + 1 + 1 + 1) wp W) (by kernel_rfl) (Below.drew (Below.refl _ _)) (fun hHeld => ?_)
                    obtain ⟨wS, hwS⟩ : ∃ wS, wS = wp.drew := ⟨_, rfl⟩
                    have hSwS : Below (w.heap.size + 1 + 1 + 1) wp wS := by rw [hwS]; exact Below.drew (Below.refl _ _)
                    have HPwS : Hid (PutSt (w.heap.size + 1 + 1 + 1) w0 (.slice ap lp.length cp) lp Fp wS) := by rw [hwS]; exact HNp.out.under (Below.drew (Below.refl _ _))
                    have hzA : wp.heap.size ≤ wS.heap.size := by rw [hwS]; exact Nat.le_refl _
                    rw [← hwS] at hHeld ⊢
                    clear hwS
                    refine tk 0 q31a_83_9_0 (some 37) (v := ?v66) rfl rfl (by kernel_rfl) hHeld (by rfl) (fun _ _ _ x => x) (fun w h => ?y66) ?_; (case y66 => (try dsimp only at h); go_simp; try (with_reducible rfl)); try simp only [Act.put, sa, s0, s1]
                    refine tk 2 q31a_83_9_2 (some 39) (v := ?v67) rfl rfl (by kernel_rfl) hHeld (by rfl) (fun _ _ _ x => x) (fun w h => ?y67) ?_; (case y67 => (try dsimp only at h); go_simp; try (with_reducible rfl)); try simp only [Act.put, sa, s0, s1]
                    refine tk 3 q31a_83_9_3 (some 40) (v := ?v68) rfl rfl (by kernel_rfl) hHeld (by rfl) (fun _ _ _ x => x) (fun w h => ?y68) ?_; (case y68 => (try dsimp only at h); go_simp; try (with_reducible rfl)); try simp only [Act.put, sa, s0, s1]
                    refine tk 4 q31a_83_9_4 (some 41) (v := ?v69) rfl rfl (by kernel_rfl) hHeld (by rfl) (fun _ _ _ x => x) (fun w h => ?y69) ?_; (case y69 => (try dsimp only at h); go_simp; try (with_reducible rfl)); try simp only [Act.put, sa, s0, s1]
                    refine tk 5 q31a_83_9_5 (some 42) (v := ?v70) rfl rfl (by kernel_rfl) hHeld (by rfl) (fun _ _ _ x => x) (fun w h => ?y70) ?_; (case y70 => (try dsimp only at h); go_simp; try (with_reducible rfl)); try simp only [Act.put, sa, s0, s1]
                    refine tk 6 q31a_83_9_6 (some 43) (v := ?v71) rfl rfl (by kernel_rfl) hHeld (by rfl) (fun _ _ _ x => x) (fun w h => ?y71) ?_; (case y71 => (try dsimp only at h); go_simp; try (with_reducible rfl)); try simp only [Act.put, sa, s0, s1]
                    refine wpAnyH_ready (rs := [1, 7]) (by kernel_rfl) (by simp) ?_
                    refine (AllReadyH.cons (o := q31a_83_9_1) rfl (fun K hK => ?_) (AllReadyH.cons (o := q31a_83_9_7) rfl (fun K hK => ?_) AllReadyH.nil))
                    · skip
                      have yq := HPwS.out.1.cell 0 _ rfl
                      go_simp
                      obtain ⟨wE1, hq1⟩ : ∃ q, q = wS := ⟨_, rfl⟩
                      have HPwE1 : Hid (PutSt (w.heap.size + 1 + 1 + 1) w0 (.slice ap lp.length cp) lp Fp wE1) := by rw [hq1]; exact HPwS
                      have hSwE1 : Below (w.heap.size + 1 + 1 + 1) wp wE1 := by rw [hq1]; exact hSwS
                      have hop1 : Below wS.heap.size wS wE1 := by rw [hq1]; exact Below.refl _ _
                      rw [← hq1]
                      clear hq1 yq
                      refine hK.out _ _ (hSwE1) (fun hHeld => ?_)
                      clear hK K
                      try simp only [Act.put, sa, s0, s1]
                      refine wpAnyH_ready (rs := [7]) (by kernel_rfl) (by simp) ?_
                      refine (AllReadyH.cons (o := q31a_83_9_7) rfl (fun K hK => ?_) AllReadyH.nil)
                      · go_simp
                        have hpz := HPwE1.out.1.lt
                        have hpF := fun b hb => ownS.lt oItem_good HPwE1.out.2.1 b hb
                        have hpS := hSwE1
                        have hfl := Below.size (show Below wS.heap.size wS wE1 from bthen (Below.refl _ _) hop1)
                        refine Calls.mono (l8CopyItem_any _ x wE1 (rItem_good.mono (rItem_good.below HRy.out (hpS.mono (by omega))) (by omega)) hdk) ?_
                        rintro e wE7 ⟨cs3, F3, rfl, ho3, hN3, hge3, hop7⟩
                        have HPwE7 := Hid.mk (HPwE1.out.under hop7)
                        have hSwE7 : Below (w.heap.size + 1 + 1 + 1) wp wE7 := hpS.trans (hop7.mono (by omega))
                        have HC3 := Hid.mk ho3
                        have HN3 := Hid.mk hN3
                        have HG3 : Hid (∀ b, b ∈ F3 → (w.heap.size + 1 + 1 + 1) + 1 ≤ b) := fun b hb => (by have h := hge3 b hb; omega)
                        have HDJ : Hid (∀ b, b ∈ F3 → b ∉ Fp) := fun b hb hbF => (by have h1 := hge3 b hb; have h2 := hpF b hbF; omega)
                        obtain ⟨v1, F0, rfl, _, _, hv1, _⟩ := ho3
                        obtain ⟨a1, ez1, rfl, _⟩ := ownS.read oDot_good hv1
                        clear hv1 hN3 hge3 hpF hpS hfl
                        go_wp2_with fail
                        refine hK.out _ _ (hSwE7) (fun hHeld => ?_)
                        clear hK K
                        try simp only [Act.put, sa, s0, s1]
                        refine wpAnyH_ready (rs := [8]) (by kernel_rfl) (by simp) ?_
                        refine (AllReadyH.cons (o := q31a_83_9_8) rfl (fun K hK => ?_) AllReadyH.nil)
                        · go_simp
                          have hpz4 := HPwE7.out.1.lt
                          obtain ⟨wE8, hq8⟩ : ∃ q, q = wE7.alloc (.cells #[.int .i64 x.fD.fR, .int .i64 x.fD.fN, .slice a1 x.fDeps.length ez1] 52) := ⟨_, rfl⟩
                          have hop8 : Below wE7.heap.size wE7 wE8 := by rw [hq8]; exact (Below.refl _ _).alloc (Nat.le_refl _) _
                          have HPwE8 := Hid.mk (HPwE7.out.under hop8)
                          have hSwE8 : Below (w.heap.size + 1 + 1 + 1) wp wE8 := (hSwE7).trans (hop8.mono (by omega))
                          obtain ⟨g4, HG4⟩ : ∃ z, Hid (z = wE7.heap.size) := ⟨_, Hid.mk rfl⟩
                          have HB4 : Hid (Bx wE8 g4 [.int .i64 x.fD.fR, .int .i64 x.fD.fN, .slice a1 x.fDeps.length ez1]) := by unfold Hid; rw [HG4.out, hq8]; exact Bx.new _ _ _
                          rw [← HG4.out]
                          rw [← hq8]
                          clear hq8
                          refine hK.out _ _ (hSwE8) (fun hHeld => ?_)
                          clear hK K
                          try simp only [Act.put, sa, s0, s1]
                          refine wpAnyH_ready (rs := [9]) (by kernel_rfl) (by simp) ?_
                          refine (AllReadyH.cons (o := q31a_83_9_9) rfl (fun K hK => ?_) AllReadyH.nil)
                          · skip
                            have HX5 := HB4.out.under (show Below wE8.heap.size wE8 wE8 from Below.refl _ _)
                            have hf3 := (show Below wE7.heap.size wE7 wE8 from bthen (Below.refl _ _) hop8)
                            have hc3 := oItem_good.frame HC3.out (fun b hb => hf3.block b (oItem_good.lt HC3.out b hb))
                            obtain ⟨rs, hox, hnext⟩ := HPwE8.out.app
                            refine step_append_src wE8 rfl _ _ 28 28 rfl 0 52 iT (.agg #[.int .i64 0, .int .i64 0, .slice none 0 0]) 3 40 Tryd.underlying28 HIT.out.1 HIT.out.2.1 HIT.out.2.2.1 HIT.out.2.2.2 rfl (.slice ap lp.length cp) (lp).length rs rfl hox (.slice (some ⟨g4, 0, none⟩) 1 1) rfl 1 _ (Src.item Tryd.underlying28 HX5) (by unfold maxLen; omega) (by omega) (Nat.zero_le _) ?_
                            intro v5 wE9 ho5 hgr5 hat5
                            obtain ⟨ln, HLn⟩ : ∃ z : List MItem, Hid (z = lp ++ [x]) := ⟨_, Hid.mk rfl⟩
                            obtain ⟨Fn, an, cn, rfl, hn5, hb5, hl5⟩ := hnext wE9 v5 _ x F3 ho5 hgr5 hat5 hc3 HN3.out HDJ.out HG3.out ln HLn.out
                            have HNn := Hid.mk hn5
                            have hSwE9 : Below (w.heap.size + 1 + 1 + 1) wp wE9 := (by have hpS := hSwE8; have hpz5 := HPwE8.out.1.lt; exact hpS.grown hgr5 (by omega) (fun k hk => by have := HPwE8.out.2.2.2.1 k (ownS.blk HPwE8.out.2.1 k hk); omega))
                            have q1 := hb5.cell 0 _ rfl
                            have qf := hb5.free 0
                            have ql := hb5.lt
                            clear ho5 hgr5 hat5 hc3 hn5 hb5 hl5 hox hnext
                            refine hK.out _ _ (hSwE9) (fun hHeld => ?_)
                            clear hK K
                            try simp only [Act.put, sa, s0, s1]
                            refine tk 10 q31a_83_9_10 (some 47) (v := ?v72) rfl rfl (by kernel_rfl) hHeld (by rfl) (fun _ _ _ x => x) (fun w h => ?y72) ?_; (case y72 => (try dsimp only at h); go_simp; try (with_reducible rfl)); try simp only [Act.put, sa, s0, s1]
                            refine wpAnyH_ready (rs := [11]) (by kernel_rfl) (by simp) ?_
                            refine (AllReadyH.cons (o := q31a_83_9_11) rfl (fun K hK => ?_) AllReadyH.nil)
                            · go_simp
                              obtain ⟨wE11, hq11⟩ : ∃ q, q = wE9.setCell ⟨w.heap.size + 1 + 1 + 1, 0, none⟩ (.slice an ln.length cn) := ⟨_, rfl⟩
                              rw [← hq11] at HNn
                              have hSwE11 : Below (w.heap.size + 1 + 1 + 1) wp wE11 := by rw [hq11]; exact hSwE9.setCell (Nat.le_refl _) _
                              obtain ⟨wn, hwn⟩ : ∃ q, q = wE11 := ⟨_, rfl⟩
                              rw [← hq11]
                              clear hq11 q1 qf ql
                              refine hK.out _ _ (hSwE11) (fun hHeld => ?_)
                              clear hK K
                              try simp only [Act.put, sa, s0, s1]
                              refine wpAnyH_done (by kernel_rfl) ?_ _
                              rw [← hwn] at HNn ⊢
                              clear hwn
                              go_wp2_with fail
                              go_roundw
                              case rel => exact ⟨k + 1, an, cn, Fn, by omega, by go_num, by rw [HD9.out], by rw [HSn.out, ← HLp.out, ← HLn.out]; exact HNn⟩
                              case measure => simp [intOf]; omega
                    · go_simp
                      have hpz := HPwS.out.1.lt
                      have hpF := fun b hb => ownS.lt oItem_good HPwS.out.2.1 b hb
                      have hpS := hSwS
                      have hfl := Below.size (show Below wS.heap.size wS wS from Below.refl _ _)
                      refine Calls.mono (l8CopyItem_any _ x wS (rItem_good.mono (rItem_good.below HRy.out (hpS.mono (by omega))) (by omega)) hdk) ?_
                      rintro e wE7 ⟨cs3, F3, rfl, ho3, hN3, hge3, hop7⟩
                      have HPwE7 := Hid.mk (HPwS.out.under hop7)
                      have hSwE7 : Below (w.heap.size + 1 + 1 + 1) wp wE7 := hpS.trans (hop7.mono (by omega))
                      have HC3 := Hid.mk ho3
                      have HN3 := Hid.mk hN3
                      have HG3 : Hid (∀ b, b ∈ F3 → (w.heap.size + 1 + 1 + 1) + 1 ≤ b) := fun b hb => (by have h := hge3 b hb; omega)
                      have HDJ : Hid (∀ b, b ∈ F3 → b ∉ Fp) := fun b hb hbF => (by have h1 := hge3 b hb; have h2 := hpF b hbF; omega)
                      obtain ⟨v1, F0, rfl, _, _, hv1, _⟩ := ho3
                      obtain ⟨a1, ez1, rfl, _⟩ := ownS.read oDot_good hv1
                      clear hv1 hN3 hge3 hpF hpS hfl
                      go_wp2_with fail
                      refine hK.out _ _ (hSwE7) (fun hHeld => ?_)
                      clear hK K
                      try simp only [Act.put, sa, s0, s1]
                      refine wpAnyH_ready (rs := [1, 8]) (by kernel_rfl) (by simp) ?_
                      refine (AllReadyH.cons (o := q31a_83_9_1) rfl (fun K hK => ?_) (AllReadyH.cons (o := q31a_83_9_8) rfl (fun K hK => ?_) AllReadyH.nil))
                      · skip
                        have yq := HPwE7.out.1.cell 0 _ rfl
                        go_simp
                        obtain ⟨wE1, hq1⟩ : ∃ q, q = wE7 := ⟨_, rfl⟩
                        have HPwE1 : Hid (PutSt (w.heap.size + 1 + 1 + 1) w0 (.slice ap lp.length cp) lp Fp wE1) := by rw [hq1]; exact HPwE7
                        have hSwE1 : Below (w.heap.size + 1 + 1 + 1) wp wE1 := by rw [hq1]; exact hSwE7
                        have hop1 : Below wE7.heap.size wE7 wE1 := by rw [hq1]; exact Below.refl _ _
                        rw [← hq1]
                        clear hq1 yq
                        refine hK.out _ _ (hSwE1) (fun hHeld => ?_)
                        clear hK K
                        try simp only [Act.put, sa, s0, s1]
                        refine wpAnyH_ready (rs := [8]) (by kernel_rfl) (by simp) ?_
                        refine (AllReadyH.cons (o := q31a_83_9_8) rfl (fun K hK => ?_) AllReadyH.nil)
                        · go_simp
                          have hpz4 := HPwE1.out.1.lt
                          obtain ⟨wE8, hq8⟩ : ∃ q, q = wE1.alloc (.cells #[.int .i64 x.fD.fR, .int .i64 x.fD.fN, .slice a1 x.fDeps.length ez1] 52) := ⟨_, rfl⟩
                          have hop8 : Below wE1.heap.size wE1 wE8 := by rw [hq8]; exact (Below.refl _ _).alloc (Nat.le_refl _) _
                          have HPwE8 := Hid.mk (HPwE1.out.under hop8)
                          have hSwE8 : Below (w.heap.size + 1 + 1 + 1) wp wE8 := (hSwE1).trans (hop8.mono (by omega))
                          obtain ⟨g4, HG4⟩ : ∃ z, Hid (z = wE1.heap.size) := ⟨_, Hid.mk rfl⟩
                          have HB4 : Hid (Bx wE8 g4 [.int .i64 x.fD.fR, .int .i64 x.fD.fN, .slice a1 x.fDeps.length ez1]) := by unfold Hid; rw [HG4.out, hq8]; exact Bx.new _ _ _
                          rw [← HG4.out]
                          rw [← hq8]
                          clear hq8
                          refine hK.out _ _ (hSwE8) (fun hHeld => ?_)
                          clear hK K
                          try simp only [Act.put, sa, s0, s1]
                          refine wpAnyH_ready (rs := [9]) (by kernel_rfl) (by simp) ?_
                          refine (AllReadyH.cons (o := q31a_83_9_9) rfl (fun K hK => ?_) AllReadyH.nil)
                          · skip
                            have HX5 := HB4.out.under (show Below wE8.heap.size wE8 wE8 from Below.refl _ _)
                            have hf3 := (show Below wE7.heap.size wE7 wE8 from bthen (bthen (Below.refl _ _) hop1) hop8)
                            have hc3 := oItem_good.frame HC3.out (fun b hb => hf3.block b (oItem_good.lt HC3.out b hb))
                            obtain ⟨rs, hox, hnext⟩ := HPwE8.out.app
                            refine step_append_src wE8 rfl _ _ 28 28 rfl 0 52 iT (.agg #[.int .i64 0, .int .i64 0, .slice none 0 0]) 3 40 Tryd.underlying28 HIT.out.1 HIT.out.2.1 HIT.out.2.2.1 HIT.out.2.2.2 rfl (.slice ap lp.length cp) (lp).length rs rfl hox (.slice (some ⟨g4, 0, none⟩) 1 1) rfl 1 _ (Src.item Tryd.underlying28 HX5) (by unfold maxLen; omega) (by omega) (Nat.zero_le _) ?_
                            intro v5 wE9 ho5 hgr5 hat5
                            obtain ⟨ln, HLn⟩ : ∃ z : List MItem, Hid (z = lp ++ [x]) := ⟨_, Hid.mk rfl⟩
                            obtain ⟨Fn, an, cn, rfl, hn5, hb5, hl5⟩ := hnext wE9 v5 _ x F3 ho5 hgr5 hat5 hc3 HN3.out HDJ.out HG3.out ln HLn.out
                            have HNn := Hid.mk hn5
                            have hSwE9 : Below (w.heap.size + 1 + 1 + 1) wp wE9 := (by have hpS := hSwE8; have hpz5 := HPwE8.out.1.lt; exact hpS.grown hgr5 (by omega) (fun k hk => by have := HPwE8.out.2.2.2.1 k (ownS.blk HPwE8.out.2.1 k hk); omega))
                            have q1 := hb5.cell 0 _ rfl
                            have qf := hb5.free 0
                            have ql := hb5.lt
                            clear ho5 hgr5 hat5 hc3 hn5 hb5 hl5 hox hnext
                            refine hK.out _ _ (hSwE9) (fun hHeld => ?_)
                            clear hK K
                            try simp only [Act.put, sa, s0, s1]
                            refine tk 10 q31a_83_9_10 (some 47) (v := ?v73) rfl rfl (by kernel_rfl) hHeld (by rfl) (fun _ _ _ x => x) (fun w h => ?y73) ?_; (case y73 => (try dsimp only at h); go_simp; try (with_reducible rfl)); try simp only [Act.put, sa, s0, s1]
                            refine wpAnyH_ready (rs := [11]) (by kernel_rfl) (by simp) ?_
                            refine (AllReadyH.cons (o := q31a_83_9_11) rfl (fun K hK => ?_) AllReadyH.nil)
                            · go_simp
                              obtain ⟨wE11, hq11⟩ : ∃ q, q = wE9.setCell ⟨w.heap.size + 1 + 1 + 1, 0, none⟩ (.slice an ln.length cn) := ⟨_, rfl⟩
                              rw [← hq11] at HNn
                              have hSwE11 : Below (w.heap.size + 1 + 1 + 1) wp wE11 := by rw [hq11]; exact hSwE9.setCell (Nat.le_refl _) _
                              obtain ⟨wn, hwn⟩ : ∃ q, q = wE11 := ⟨_, rfl⟩
                              rw [← hq11]
                              clear hq11 q1 qf ql
                              refine hK.out _ _ (hSwE11) (fun hHeld => ?_)
                              clear hK K
                              try simp only [Act.put, sa, s0, s1]
                              refine wpAnyH_done (by kernel_rfl) ?_ _
                              rw [← hwn] at HNn ⊢
                              clear hwn
                              go_wp2_with fail
                              go_roundw
                              case rel => exact ⟨k + 1, an, cn, Fn, by omega, by go_num, by rw [HD9.out], by rw [HSn.out, ← HLp.out, ← HLn.out]; exact HNn⟩
                              case measure => simp [intOf]; omega
                      · go_simp
                        have hpz4 := HPwE7.out.1.lt
                        obtain ⟨wE8, hq8⟩ : ∃ q, q = wE7.alloc (.cells #[.int .i64 x.fD.fR, .int .i64 x.fD.fN, .slice a1 x.fDeps.length ez1] 52) := ⟨_, rfl⟩
                        have hop8 : Below wE7.heap.size wE7 wE8 := by rw [hq8]; exact (Below.refl _ _).alloc (Nat.le_refl _) _
                        have HPwE8 := Hid.mk (HPwE7.out.under hop8)
                        have hSwE8 : Below (w.heap.size + 1 + 1 + 1) wp wE8 := (hSwE7).trans (hop8.mono (by omega))
                        obtain ⟨g4, HG4⟩ : ∃ z, Hid (z = wE7.heap.size) := ⟨_, Hid.mk rfl⟩
                        have HB4 : Hid (Bx wE8 g4 [.int .i64 x.fD.fR, .int .i64 x.fD.fN, .slice a1 x.fDeps.length ez1]) := by unfold Hid; rw [HG4.out, hq8]; exact Bx.new _ _ _
                        rw [← HG4.out]
                        rw [← hq8]
                        clear hq8
                        refine hK.out _ _ (hSwE8) (fun hHeld => ?_)
                        clear hK K
                        try simp only [Act.put, sa, s0, s1]
                        refine wpAnyH_ready (rs := [1]) (by kernel_rfl) (by simp) ?_
                        refine (AllReadyH.cons (o := q31a_83_9_1) rfl (fun K hK => ?_) AllReadyH.nil)
                        · skip
                          have yq := HPwE8.out.1.cell 0 _ rfl
                          go_simp
                          obtain ⟨wE1, hq1⟩ : ∃ q, q = wE8 := ⟨_, rfl⟩
                          have HPwE1 : Hid (PutSt (w.heap.size + 1 + 1 + 1) w0 (.slice ap lp.length cp) lp Fp wE1) := by rw [hq1]; exact HPwE8
                          have hSwE1 : Below (w.heap.size + 1 + 1 + 1) wp wE1 := by rw [hq1]; exact hSwE8
                          have hop1 : Below wE8.heap.size wE8 wE1 := by rw [hq1]; exact Below.refl _ _
                          rw [← hq1]
                          clear hq1 yq
                          refine hK.out _ _ (hSwE1) (fun hHeld => ?_)
                          clear hK K
                          try simp only [Act.put, sa, s0, s1]
                          refine wpAnyH_ready (rs := [9]) (by kernel_rfl) (by simp) ?_
                          refine (AllReadyH.cons (o := q31a_83_9_9) rfl (fun K hK => ?_) AllReadyH.nil)
                          · skip
                            have HX5 := HB4.out.under (show Below wE8.heap.size wE8 wE1 from bthen (Below.refl _ _) hop1)
                            have hf3 := (show Below wE7.heap.size wE7 wE1 from bthen (bthen (Below.refl _ _) hop8) hop1)
                            have hc3 := oItem_good.frame HC3.out (fun b hb => hf3.block b (oItem_good.lt HC3.out b hb))
                            obtain ⟨rs, hox, hnext⟩ := HPwE1.out.app
                            refine step_append_src wE1 rfl _ _ 28 28 rfl 0 52 iT (.agg #[.int .i64 0, .int .i64 0, .slice none 0 0]) 3 40 Tryd.underlying28 HIT.out.1 HIT.out.2.1 HIT.out.2.2.1 HIT.out.2.2.2 rfl (.slice ap lp.length cp) (lp).length rs rfl hox (.slice (some ⟨g4, 0, none⟩) 1 1) rfl 1 _ (Src.item Tryd.underlying28 HX5) (by unfold maxLen; omega) (by omega) (Nat.zero_le _) ?_
                            intro v5 wE9 ho5 hgr5 hat5
                            obtain ⟨ln, HLn⟩ : ∃ z : List MItem, Hid (z = lp ++ [x]) := ⟨_, Hid.mk rfl⟩
                            obtain ⟨Fn, an, cn, rfl, hn5, hb5, hl5⟩ := hnext wE9 v5 _ x F3 ho5 hgr5 hat5 hc3 HN3.out HDJ.out HG3.out ln HLn.out
                            have HNn := Hid.mk hn5
                            have hSwE9 : Below (w.heap.size + 1 + 1 + 1) wp wE9 := (by have hpS := hSwE1; have hpz5 := HPwE1.out.1.lt; exact hpS.grown hgr5 (by omega) (fun k hk => by have := HPwE1.out.2.2.2.1 k (ownS.blk HPwE1.out.2.1 k hk); omega))
                            have q1 := hb5.cell 0 _ rfl
                            have qf := hb5.free 0
                            have ql := hb5.lt
                            clear ho5 hgr5 hat5 hc3 hn5 hb5 hl5 hox hnext
                            refine hK.out _ _ (hSwE9) (fun hHeld => ?_)
                            clear hK K
                            try simp only [Act.put, sa, s0, s1]
                            refine tk 10 q31a_83_9_10 (some 47) (v := ?v74) rfl rfl (by kernel_rfl) hHeld (by rfl) (fun _ _ _ x => x) (fun w h => ?y74) ?_; (case y74 => (try dsimp only at h); go_simp; try (with_reducible rfl)); try simp only [Act.put, sa, s0, s1]
                            refine wpAnyH_ready (rs := [11]) (by kernel_rfl) (by simp) ?_
                            refine (AllReadyH.cons (o := q31a_83_9_11) rfl (fun K hK => ?_) AllReadyH.nil)
                            · go_simp
                              obtain ⟨wE11, hq11⟩ : ∃ q, q = wE9.setCell ⟨w.heap.size + 1 + 1 + 1, 0, none⟩ (.slice an ln.length cn) := ⟨_, rfl⟩
                              rw [← hq11] at HNn
                              have hSwE11 : Below (w.heap.size + 1 + 1 + 1) wp wE11 := by rw [hq11]; exact hSwE9.setCell (Nat.le_refl _) _
                              obtain ⟨wn, hwn⟩ : ∃ q, q = wE11 := ⟨_, rfl⟩
                              rw [← hq11]
                              clear hq11 q1 qf ql
                              refine hK.out _ _ (hSwE11) (fun hHeld => ?_)
                              clear hK K
                              try simp only [Act.put, sa, s0, s1]
                              refine wpAnyH_done (by kernel_rfl) ?_ _
                              rw [← hwn] at HNn ⊢
                              clear hwn
                              go_wp2_with fail
                              go_roundw
                              case rel => exact ⟨k + 1, an, cn, Fn, by omega, by go_num, by rw [HD9.out], by rw [HSn.out, ← HLp.out, ← HLn.out]; exact HNn⟩
                              case measure => simp [intOf]; omega
          · go_simp
            have hpz := HPwS.out.1.lt
            have hpF := fun b hb => ownS.lt oItem_good HPwS.out.2.1 b hb
            have hpS := hSwS
            have hfl := Below.size (show Below wS.heap.size wS wS from Below.refl _ _)
            refine Calls.mono (l8CopyItem_any _ it wS (rItem_good.mono (rItem_good.below HRt.out (hpS.mono (by omega))) (by omega)) hdi) ?_
            rintro e wE3 ⟨cs3, F3, rfl, ho3, hN3, hge3, hop3⟩
            have HPwE3 := Hid.mk (HPwS.out.under hop3)
            have hSwE3 : Below (w.heap.size + 1 + 1 + 1) wA wE3 := hpS.trans (hop3.mono (by omega))
            have HC3 := Hid.mk ho3
            have HN3 := Hid.mk hN3
            have HG3 : Hid (∀ b, b ∈ F3 → (w.heap.size + 1 + 1 + 1) + 1 ≤ b) := fun b hb => (by have h := hge3 b hb; omega)
            have HDJ : Hid (∀ b, b ∈ F3 → b ∉ F) := fun b hb hbF => (by have h1 := hge3 b hb; have h2 := hpF b hbF; omega)
            obtain ⟨v1, F0, rfl, _, _, hv1, _⟩ := ho3
            obtain ⟨a1, ez1, rfl, _⟩ := ownS.read oDot_good hv1
            clear hv1 hN3 hge3 hpF hpS hfl
            go_wp2_with fail
            refine hK.out _ _ (hSwE3) (fun hHeld => ?_)
            clear hK K
            try simp only [Act.put, sa, s0, s1]
            refine wpAnyH_ready (rs := [1, 4]) (by kernel_rfl) (by simp) ?_
            refine (AllReadyH.cons (o := q31a_83_7_1) rfl (fun K hK => ?_) (AllReadyH.cons (o := q31a_83_7_4) rfl (fun K hK => ?_) AllReadyH.nil))
            · skip
              have yq := HPwE3.out.1.cell 0 _ rfl
              go_simp
              obtain ⟨wE1, hq1⟩ : ∃ q, q = wE3 := ⟨_, rfl⟩
              have HPwE1 : Hid (PutSt (w.heap.size + 1 + 1 + 1) w0 (.slice va lk.length vc) lk F wE1) := by rw [hq1]; exact HPwE3
              have hSwE1 : Below (w.heap.size + 1 + 1 + 1) wA wE1 := by rw [hq1]; exact hSwE3
              have hop1 : Below wE3.heap.size wE3 wE1 := by rw [hq1]; exact Below.refl _ _
              rw [← hq1]
              clear hq1 yq
              refine hK.out _ _ (hSwE1) (fun hHeld => ?_)
              clear hK K
              try simp only [Act.put, sa, s0, s1]
              refine wpAnyH_ready (rs := [4]) (by kernel_rfl) (by simp) ?_
              refine (AllReadyH.cons (o := q31a_83_7_4) rfl (fun K hK => ?_) AllReadyH.nil)
              · go_simp
                have hpz4 := HPwE1.out.1.lt
                obtain ⟨wE4, hq4⟩ : ∃ q, q = wE1.alloc (.cells #[.int .i64 it.fD.fR, .int .i64 it.fD.fN, .slice a1 it.fDeps.length ez1] 52) := ⟨_, rfl⟩
                have hop4 : Below wE1.heap.size wE1 wE4 := by rw [hq4]; exact (Below.refl _ _).alloc (Nat.le_refl _) _
                have HPwE4 := Hid.mk (HPwE1.out.under hop4)
                have hSwE4 : Below (w.heap.size + 1 + 1 + 1) wA wE4 := (hSwE1).trans (hop4.mono (by omega))
                obtain ⟨g4, HG4⟩ : ∃ z, Hid (z = wE1.heap.size) := ⟨_, Hid.mk rfl⟩
                have HB4 : Hid (Bx wE4 g4 [.int .i64 it.fD.fR, .int .i64 it.fD.fN, .slice a1 it.fDeps.length ez1]) := by unfold Hid; rw [HG4.out, hq4]; exact Bx.new _ _ _
                rw [← HG4.out]
                rw [← hq4]
                clear hq4
                refine hK.out _ _ (hSwE4) (fun hHeld => ?_)
                clear hK K
                try simp only [Act.put, sa, s0, s1]
                refine wpAnyH_ready (rs := [5]) (by kernel_rfl) (by simp) ?_
                refine (AllReadyH.cons (o := q31a_83_7_5) rfl (fun K hK => ?_) AllReadyH.nil)
                · skip
                  have HX5 := HB4.out.under (show Below wE4.heap.size wE4 wE4 from Below.refl _ _)
                  have hf3 := (show Below wE3.heap.size wE3 wE4 from bthen (bthen (Below.refl _ _) hop1) hop4)
                  have hc3 := oItem_good.frame HC3.out (fun b hb => hf3.block b (oItem_good.lt HC3.out b hb))
                  obtain ⟨rs, hox, hnext⟩ := HPwE4.out.app
                  refine step_append_src wE4 rfl _ _ 28 28 rfl 0 52 iT (.agg #[.int .i64 0, .int .i64 0, .slice none 0 0]) 3 40 Tryd.underlying28 HIT.out.1 HIT.out.2.1 HIT.out.2.2.1 HIT.out.2.2.2 rfl (.slice va lk.length vc) (lk).length rs rfl hox (.slice (some ⟨g4, 0, none⟩) 1 1) rfl 1 _ (Src.item Tryd.underlying28 HX5) (by unfold maxLen; omega) (by omega) (Nat.zero_le _) ?_
                  intro v5 wE5 ho5 hgr5 hat5
                  obtain ⟨lp, HLp⟩ : ∃ z : List MItem, Hid (z = lk ++ [it]) := ⟨_, Hid.mk rfl⟩
                  obtain ⟨Fp, ap, cp, rfl, hn5, hb5, hl5⟩ := hnext wE5 v5 _ it F3 ho5 hgr5 hat5 hc3 HN3.out HDJ.out HG3.out lp HLp.out
                  have HNp := Hid.mk hn5
                  have hSwE5 : Below (w.heap.size + 1 + 1 + 1) wA wE5 := (by have hpS := hSwE4; have hpz5 := HPwE4.out.1.lt; exact hpS.grown hgr5 (by omega) (fun k hk => by have := HPwE4.out.2.2.2.1 k (ownS.blk HPwE4.out.2.1 k hk); omega))
                  have q1 := hb5.cell 0 _ rfl
                  have qf := hb5.free 0
                  have ql := hb5.lt
                  clear ho5 hgr5 hat5 hc3 hn5 hb5 hl5 hox hnext
                  refine hK.out _ _ (hSwE5) (fun hHeld => ?_)
                  clear hK K
                  try simp only [Act.put, sa, s0, s1]
                  refine tk 6 q31a_83_7_6 (some 36) (v := ?v50) rfl rfl (by kernel_rfl) hHeld (by rfl) (fun _ _ _ x => x) (fun w h => ?y50) ?_; (case y50 => (try dsimp only at h); go_simp; try (with_reducible rfl)); try simp only [Act.put, sa, s0, s1]
                  refine wpAnyH_ready (rs := [7]) (by kernel_rfl) (by simp) ?_
                  refine (AllReadyH.cons (o := q31a_83_7_7) rfl (fun K hK => ?_) AllReadyH.nil)
                  · go_simp
                    obtain ⟨wE7, hq7⟩ : ∃ q, q = wE5.setCell ⟨w.heap.size + 1 + 1 + 1, 0, none⟩ (.slice ap lp.length cp) := ⟨_, rfl⟩
                    rw [← hq7] at HNp
                    have hSwE7 : Below (w.heap.size + 1 + 1 + 1) wA wE7 := by rw [hq7]; exact hSwE5.setCell (Nat.le_refl _) _
                    obtain ⟨wp, hwp⟩ : ∃ q, q = wE7 := ⟨_, rfl⟩
                    rw [← hq7]
                    clear hq7 q1 qf ql
                    refine hK.out _ _ (hSwE7) (fun hHeld => ?_)
                    clear hK K
                    try simp only [Act.put, sa, s0, s1]
                    refine wpAnyH_done (by kernel_rfl) ?_ _
                    have hzP0 : (w.heap.size + 1 + 1 + 1) < wE7.heap.size := HNp.out.1.lt
                    have hSp : Below (w.heap.size + 1 + 1 + 1) wA wp := by rw [hwp]; exact hSwE7
                    rw [← hwp] at HNp ⊢
                    clear hwp
                    have HRy := Hid.mk (rItem_good.below HRx.out (hSp.mono (by omega)))
                    have hly : lp.length ≤ 1048578 := (by rw [HLp.out]; simp; omega)
                    have x0p : ∀ W, Below (w.heap.size + 1 + 1 + 1) wp W → W.cell? ⟨w.heap.size, 0, none⟩ = some (.slice (some ⟨b1, o1, none⟩) n c) := fun W h => x0 W (hSp.trans h)
                    have e0p : ∀ W, Below (w.heap.size + 1 + 1 + 1) wp W → W.cell? ⟨b1, o1 + k * 3, none⟩ = some (.int .i64 x.fD.fR) := fun W h => e0 W (hSp.trans h)
                    have e1p : ∀ W, Below (w.heap.size + 1 + 1 + 1) wp W → W.cell? ⟨b1, o1 + k * 3 + 1, none⟩ = some (.int .i64 x.fD.fN) := fun W h => e1 W (hSp.trans h)
                    have e2p : ∀ W, Below (w.heap.size + 1 + 1 + 1) wp W → W.cell? ⟨b1, o1 + k * 3 + 2, none⟩ = some (.slice a2 x.fDeps.length c2) := fun W h => e2 W (hSp.trans h)
                    clear x0 y0 y1 y2 e0 e1 e2 HPA HC3 HN3 HG3 HDJ HB4 HG4
                    go_wp2_with fail
                    refine wp_region_held_drew (S := fun W => Below (w.heap.size + 1 + 1 + 1) wp W) (by kernel_rfl) (Below.drew (Below.refl _ _)) (fun hHeld => ?_)
                    obtain ⟨wS, hwS⟩ : ∃ wS, wS = wp.drew := ⟨_, rfl⟩
                    have hSwS : Below (w.heap.size + 1 + 1 + 1) wp wS := by rw [hwS]; exact Below.drew (Below.refl _ _)
                    have HPwS : Hid (PutSt (w.heap.size + 1 + 1 + 1) w0 (.slice ap lp.length cp) lp Fp wS) := by rw [hwS]; exact HNp.out.under (Below.drew (Below.refl _ _))
                    have hzA : wp.heap.size ≤ wS.heap.size := by rw [hwS]; exact Nat.le_refl _
                    rw [← hwS] at hHeld ⊢
                    clear hwS
                    refine tk 0 q31a_83_9_0 (some 37) (v := ?v75) rfl rfl (by kernel_rfl) hHeld (by rfl) (fun _ _ _ x => x) (fun w h => ?y75) ?_; (case y75 => (try dsimp only at h); go_simp; try (with_reducible rfl)); try simp only [Act.put, sa, s0, s1]
                    refine tk 2 q31a_83_9_2 (some 39) (v := ?v76) rfl rfl (by kernel_rfl) hHeld (by rfl) (fun _ _ _ x => x) (fun w h => ?y76) ?_; (case y76 => (try dsimp only at h); go_simp; try (with_reducible rfl)); try simp only [Act.put, sa, s0, s1]
                    refine tk 3 q31a_83_9_3 (some 40) (v := ?v77) rfl rfl (by kernel_rfl) hHeld (by rfl) (fun _ _ _ x => x) (fun w h => ?y77) ?_; (case y77 => (try dsimp only at h); go_simp; try (with_reducible rfl)); try simp only [Act.put, sa, s0, s1]
                    refine tk 4 q31a_83_9_4 (some 41) (v := ?v78) rfl rfl (by kernel_rfl) hHeld (by rfl) (fun _ _ _ x => x) (fun w h => ?y78) ?_; (case y78 => (try dsimp only at h); go_simp; try (with_reducible rfl)); try simp only [Act.put, sa, s0, s1]
                    refine tk 5 q31a_83_9_5 (some 42) (v := ?v79) rfl rfl (by kernel_rfl) hHeld (by rfl) (fun _ _ _ x => x) (fun w h => ?y79) ?_; (case y79 => (try dsimp only at h); go_simp; try (with_reducible rfl)); try simp only [Act.put, sa, s0, s1]
                    refine tk 6 q31a_83_9_6 (some 43) (v := ?v80) rfl rfl (by kernel_rfl) hHeld (by rfl) (fun _ _ _ x => x) (fun w h => ?y80) ?_; (case y80 => (try dsimp only at h); go_simp; try (with_reducible rfl)); try simp only [Act.put, sa, s0, s1]
                    refine wpAnyH_ready (rs := [1, 7]) (by kernel_rfl) (by simp) ?_
                    refine (AllReadyH.cons (o := q31a_83_9_1) rfl (fun K hK => ?_) (AllReadyH.cons (o := q31a_83_9_7) rfl (fun K hK => ?_) AllReadyH.nil))
                    · skip
                      have yq := HPwS.out.1.cell 0 _ rfl
                      go_simp
                      obtain ⟨wE1, hq1⟩ : ∃ q, q = wS := ⟨_, rfl⟩
                      have HPwE1 : Hid (PutSt (w.heap.size + 1 + 1 + 1) w0 (.slice ap lp.length cp) lp Fp wE1) := by rw [hq1]; exact HPwS
                      have hSwE1 : Below (w.heap.size + 1 + 1 + 1) wp wE1 := by rw [hq1]; exact hSwS
                      have hop1 : Below wS.heap.size wS wE1 := by rw [hq1]; exact Below.refl _ _
                      rw [← hq1]
                      clear hq1 yq
                      refine hK.out _ _ (hSwE1) (fun hHeld => ?_)
                      clear hK K
                      try simp only [Act.put, sa, s0, s1]
                      refine wpAnyH_ready (rs := [7]) (by kernel_rfl) (by simp) ?_
                      refine (AllReadyH.cons (o := q31a_83_9_7) rfl (fun K hK => ?_) AllReadyH.nil)
                      · go_simp
                        have hpz := HPwE1.out.1.lt
                        have hpF := fun b hb => ownS.lt oItem_good HPwE1.out.2.1 b hb
                        have hpS := hSwE1
                        have hfl := Below.size (show Below wS.heap.size wS wE1 from bthen (Below.refl _ _) hop1)
                        refine Calls.mono (l8CopyItem_any _ x wE1 (rItem_good.mono (rItem_good.below HRy.out (hpS.mono (by omega))) (by omega)) hdk) ?_
                        rintro e wE7 ⟨cs3, F3, rfl, ho3, hN3, hge3, hop7⟩
                        have HPwE7 := Hid.mk (HPwE1.out.under hop7)
                        have hSwE7 : Below (w.heap.size + 1 + 1 + 1) wp wE7 := hpS.trans (hop7.mono (by omega))
                        have HC3 := Hid.mk ho3
                        have HN3 := Hid.mk hN3
                        have HG3 : Hid (∀ b, b ∈ F3 → (w.heap.size + 1 + 1 + 1) + 1 ≤ b) := fun b hb => (by have h := hge3 b hb; omega)
                        have HDJ : Hid (∀ b, b ∈ F3 → b ∉ Fp) := fun b hb hbF => (by have h1 := hge3 b hb; have h2 := hpF b hbF; omega)
                        obtain ⟨v1, F0, rfl, _, _, hv1, _⟩ := ho3
                        obtain ⟨a1, ez1, rfl, _⟩ := ownS.read oDot_good hv1
                        clear hv1 hN3 hge3 hpF hpS hfl
                        go_wp2_with fail
                        refine hK.out _ _ (hSwE7) (fun hHeld => ?_)
                        clear hK K
                        try simp only [Act.put, sa, s0, s1]
                        refine wpAnyH_ready (rs := [8]) (by kernel_rfl) (by simp) ?_
                        refine (AllReadyH.cons (o := q31a_83_9_8) rfl (fun K hK => ?_) AllReadyH.nil)
                        · go_simp
                          have hpz4 := HPwE7.out.1.lt
                          obtain ⟨wE8, hq8⟩ : ∃ q, q = wE7.alloc (.cells #[.int .i64 x.fD.fR, .int .i64 x.fD.fN, .slice a1 x.fDeps.length ez1] 52) := ⟨_, rfl⟩
                          have hop8 : Below wE7.heap.size wE7 wE8 := by rw [hq8]; exact (Below.refl _ _).alloc (Nat.le_refl _) _
                          have HPwE8 := Hid.mk (HPwE7.out.under hop8)
                          have hSwE8 : Below (w.heap.size + 1 + 1 + 1) wp wE8 := (hSwE7).trans (hop8.mono (by omega))
                          obtain ⟨g4, HG4⟩ : ∃ z, Hid (z = wE7.heap.size) := ⟨_, Hid.mk rfl⟩
                          have HB4 : Hid (Bx wE8 g4 [.int .i64 x.fD.fR, .int .i64 x.fD.fN, .slice a1 x.fDeps.length ez1]) := by unfold Hid; rw [HG4.out, hq8]; exact Bx.new _ _ _
                          rw [← HG4.out]
                          rw [← hq8]
                          clear hq8
                          refine hK.out _ _ (hSwE8) (fun hHeld => ?_)
                          clear hK K
                          try simp only [Act.put, sa, s0, s1]
                          refine wpAnyH_ready (rs := [9]) (by kernel_rfl) (by simp) ?_
                          refine (AllReadyH.cons (o := q31a_83_9_9) rfl (fun K hK => ?_) AllReadyH.nil)
                          · skip
                            have HX5 := HB4.out.under (show Below wE8.heap.size wE8 wE8 from Below.refl _ _)
                            have hf3 := (show Below wE7.heap.size wE7 wE8 from bthen (Below.refl _ _) hop8)
                            have hc3 := oItem_good.frame HC3.out (fun b hb => hf3.block b (oItem_good.lt HC3.out b hb))
                            obtain ⟨rs, hox, hnext⟩ := HPwE8.out.app
                            refine step_append_src wE8 rfl _ _ 28 28 rfl 0 52 iT (.agg #[.int .i64 0, .int .i64 0, .slice none 0 0]) 3 40 Tryd.underlying28 HIT.out.1 HIT.out.2.1 HIT.out.2.2.1 HIT.out.2.2.2 rfl (.slice ap lp.length cp) (lp).length rs rfl hox (.slice (some ⟨g4, 0, none⟩) 1 1) rfl 1 _ (Src.item Tryd.underlying28 HX5) (by unfold maxLen; omega) (by omega) (Nat.zero_le _) ?_
                            intro v5 wE9 ho5 hgr5 hat5
                            obtain ⟨ln, HLn⟩ : ∃ z : List MItem, Hid (z = lp ++ [x]) := ⟨_, Hid.mk rfl⟩
                            obtain ⟨Fn, an, cn, rfl, hn5, hb5, hl5⟩ := hnext wE9 v5 _ x F3 ho5 hgr5 hat5 hc3 HN3.out HDJ.out HG3.out ln HLn.out
                            have HNn := Hid.mk hn5
                            have hSwE9 : Below (w.heap.size + 1 + 1 + 1) wp wE9 := (by have hpS := hSwE8; have hpz5 := HPwE8.out.1.lt; exact hpS.grown hgr5 (by omega) (fun k hk => by have := HPwE8.out.2.2.2.1 k (ownS.blk HPwE8.out.2.1 k hk); omega))
                            have q1 := hb5.cell 0 _ rfl
                            have qf := hb5.free 0
                            have ql := hb5.lt
                            clear ho5 hgr5 hat5 hc3 hn5 hb5 hl5 hox hnext
                            refine hK.out _ _ (hSwE9) (fun hHeld => ?_)
                            clear hK K
                            try simp only [Act.put, sa, s0, s1]
                            refine tk 10 q31a_83_9_10 (some 47) (v := ?v81) rfl rfl (by kernel_rfl) hHeld (by rfl) (fun _ _ _ x => x) (fun w h => ?y81) ?_; (case y81 => (try dsimp only at h); go_simp; try (with_reducible rfl)); try simp only [Act.put, sa, s0, s1]
                            refine wpAnyH_ready (rs := [11]) (by kernel_rfl) (by simp) ?_
                            refine (AllReadyH.cons (o := q31a_83_9_11) rfl (fun K hK => ?_) AllReadyH.nil)
                            · go_simp
                              obtain ⟨wE11, hq11⟩ : ∃ q, q = wE9.setCell ⟨w.heap.size + 1 + 1 + 1, 0, none⟩ (.slice an ln.length cn) := ⟨_, rfl⟩
                              rw [← hq11] at HNn
                              have hSwE11 : Below (w.heap.size + 1 + 1 + 1) wp wE11 := by rw [hq11]; exact hSwE9.setCell (Nat.le_refl _) _
                              obtain ⟨wn, hwn⟩ : ∃ q, q = wE11 := ⟨_, rfl⟩
                              rw [← hq11]
                              clear hq11 q1 qf ql
                              refine hK.out _ _ (hSwE11) (fun hHeld => ?_)
                              clear hK K
                              try simp only [Act.put, sa, s0, s1]
                              refine wpAnyH_done (by kernel_rfl) ?_ _
                              rw [← hwn] at HNn ⊢
                              clear hwn
                              go_wp2_with fail
                              go_roundw
                              case rel => exact ⟨k + 1, an, cn, Fn, by omega, by go_num, by rw [HD9.out], by rw [HSn.out, ← HLp.out, ← HLn.out]; exact HNn⟩
                              case measure => simp [intOf]; omega
                    · go_simp
                      have hpz := HPwS.out.1.lt
                      have hpF := fun b hb => ownS.lt oItem_good HPwS.out.2.1 b hb
                      have hpS := hSwS
                      have hfl := Below.size (show Below wS.heap.size wS wS from Below.refl _ _)
                      refine Calls.mono (l8CopyItem_any _ x wS (rItem_good.mono (rItem_good.below HRy.out (hpS.mono (by omega))) (by omega)) hdk) ?_
                      rintro e wE7 ⟨cs3, F3, rfl, ho3, hN3, hge3, hop7⟩
                      have HPwE7 := Hid.mk (HPwS.out.under hop7)
                      have hSwE7 : Below (w.heap.size + 1 + 1 + 1) wp wE7 := hpS.trans (hop7.mono (by omega))
                      have HC3 := Hid.mk ho3
                      have HN3 := Hid.mk hN3
                      have HG3 : Hid (∀ b, b ∈ F3 → (w.heap.size + 1 + 1 + 1) + 1 ≤ b) := fun b hb => (by have h := hge3 b hb; omega)
                      have HDJ : Hid (∀ b, b ∈ F3 → b ∉ Fp) := fun b hb hbF => (by have h1 := hge3 b hb; have h2 := hpF b hbF; omega)
                      obtain ⟨v1, F0, rfl, _, _, hv1, _⟩ := ho3
                      obtain ⟨a1, ez1, rfl, _⟩ := ownS.read oDot_good hv1
                      clear hv1 hN3 hge3 hpF hpS hfl
                      go_wp2_with fail
                      refine hK.out _ _ (hSwE7) (fun hHeld => ?_)
                      clear hK K
                      try simp only [Act.put, sa, s0, s1]
                      refine wpAnyH_ready (rs := [1, 8]) (by kernel_rfl) (by simp) ?_
                      refine (AllReadyH.cons (o := q31a_83_9_1) rfl (fun K hK => ?_) (AllReadyH.cons (o := q31a_83_9_8) rfl (fun K hK => ?_) AllReadyH.nil))
                      · skip
                        have yq := HPwE7.out.1.cell 0 _ rfl
                        go_simp
                        obtain ⟨wE1, hq1⟩ : ∃ q, q = wE7 := ⟨_, rfl⟩
                        have HPwE1 : Hid (PutSt (w.heap.size + 1 + 1 + 1) w0 (.slice ap lp.length cp) lp Fp wE1) := by rw [hq1]; exact HPwE7
                        have hSwE1 : Below (w.heap.size + 1 + 1 + 1) wp wE1 := by rw [hq1]; exact hSwE7
                        have hop1 : Below wE7.heap.size wE7 wE1 := by rw [hq1]; exact Below.refl _ _
                        rw [← hq1]
                        clear hq1 yq
                        refine hK.out _ _ (hSwE1) (fun hHeld => ?_)
                        clear hK K
                        try simp only [Act.put, sa, s0, s1]
                        refine wpAnyH_ready (rs := [8]) (by kernel_rfl) (by simp) ?_
                        refine (AllReadyH.cons (o := q31a_83_9_8) rfl (fun K hK => ?_) AllReadyH.nil)
                        · go_simp
                          have hpz4 := HPwE1.out.1.lt
                          obtain ⟨wE8, hq8⟩ : ∃ q, q = wE1.alloc (.cells #[.int .i64 x.fD.fR, .int .i64 x.fD.fN, .slice a1 x.fDeps.length ez1] 52) := ⟨_, rfl⟩
                          have hop8 : Below wE1.heap.size wE1 wE8 := by rw [hq8]; exact (Below.refl _ _).alloc (Nat.le_refl _) _
                          have HPwE8 := Hid.mk (HPwE1.out.under hop8)
                          have hSwE8 : Below (w.heap.size + 1 + 1 + 1) wp wE8 := (hSwE1).trans (hop8.mono (by omega))
                          obtain ⟨g4, HG4⟩ : ∃ z, Hid (z = wE1.heap.size) := ⟨_, Hid.mk rfl⟩
                          have HB4 : Hid (Bx wE8 g4 [.int .i64 x.fD.fR, .int .i64 x.fD.fN, .slice a1 x.fDeps.length ez1]) := by unfold Hid; rw [HG4.out, hq8]; exact Bx.new _ _ _
                          rw [← HG4.out]
                          rw [← hq8]
                          clear hq8
                          refine hK.out _ _ (hSwE8) (fun hHeld => ?_)
                          clear hK K
                          try simp only [Act.put, sa, s0, s1]
                          refine wpAnyH_ready (rs := [9]) (by kernel_rfl) (by simp) ?_
                          refine (AllReadyH.cons (o := q31a_83_9_9) rfl (fun K hK => ?_) AllReadyH.nil)
                          · skip
                            have HX5 := HB4.out.under (show Below wE8.heap.size wE8 wE8 from Below.refl _ _)
                            have hf3 := (show Below wE7.heap.size wE7 wE8 from bthen (bthen (Below.refl _ _) hop1) hop8)
                            have hc3 := oItem_good.frame HC3.out (fun b hb => hf3.block b (oItem_good.lt HC3.out b hb))
                            obtain ⟨rs, hox, hnext⟩ := HPwE8.out.app
                            refine step_append_src wE8 rfl _ _ 28 28 rfl 0 52 iT (.agg #[.int .i64 0, .int .i64 0, .slice none 0 0]) 3 40 Tryd.underlying28 HIT.out.1 HIT.out.2.1 HIT.out.2.2.1 HIT.out.2.2.2 rfl (.slice ap lp.length cp) (lp).length rs rfl hox (.slice (some ⟨g4, 0, none⟩) 1 1) rfl 1 _ (Src.item Tryd.underlying28 HX5) (by unfold maxLen; omega) (by omega) (Nat.zero_le _) ?_
                            intro v5 wE9 ho5 hgr5 hat5
                            obtain ⟨ln, HLn⟩ : ∃ z : List MItem, Hid (z = lp ++ [x]) := ⟨_, Hid.mk rfl⟩
                            obtain ⟨Fn, an, cn, rfl, hn5, hb5, hl5⟩ := hnext wE9 v5 _ x F3 ho5 hgr5 hat5 hc3 HN3.out HDJ.out HG3.out ln HLn.out
                            have HNn := Hid.mk hn5
                            have hSwE9 : Below (w.heap.size + 1 + 1 + 1) wp wE9 := (by have hpS := hSwE8; have hpz5 := HPwE8.out.1.lt; exact hpS.grown hgr5 (by omega) (fun k hk => by have := HPwE8.out.2.2.2.1 k (ownS.blk HPwE8.out.2.1 k hk); omega))
                            have q1 := hb5.cell 0 _ rfl
                            have qf := hb5.free 0
                            have ql := hb5.lt
                            clear ho5 hgr5 hat5 hc3 hn5 hb5 hl5 hox hnext
                            refine hK.out _ _ (hSwE9) (fun hHeld => ?_)
                            clear hK K
                            try simp only [Act.put, sa, s0, s1]
                            refine tk 10 q31a_83_9_10 (some 47) (v := ?v82) rfl rfl (by kernel_rfl) hHeld (by rfl) (fun _ _ _ x => x) (fun w h => ?y82) ?_; (case y82 => (try dsimp only at h); go_simp; try (with_reducible rfl)); try simp only [Act.put, sa, s0, s1]
                            refine wpAnyH_ready (rs := [11]) (by kernel_rfl) (by simp) ?_
                            refine (AllReadyH.cons (o := q31a_83_9_11) rfl (fun K hK => ?_) AllReadyH.nil)
                            · go_simp
                              obtain ⟨wE11, hq11⟩ : ∃ q, q = wE9.setCell ⟨w.heap.size + 1 + 1 + 1, 0, none⟩ (.slice an ln.length cn) := ⟨_, rfl⟩
                              rw [← hq11] at HNn
                              have hSwE11 : Below (w.heap.size + 1 + 1 + 1) wp wE11 := by rw [hq11]; exact hSwE9.setCell (Nat.le_refl _) _
                              obtain ⟨wn, hwn⟩ : ∃ q, q = wE11 := ⟨_, rfl⟩
                              rw [← hq11]
                              clear hq11 q1 qf ql
                              refine hK.out _ _ (hSwE11) (fun hHeld => ?_)
                              clear hK K
                              try simp only [Act.put, sa, s0, s1]
                              refine wpAnyH_done (by kernel_rfl) ?_ _
                              rw [← hwn] at HNn ⊢
                              clear hwn
                              go_wp2_with fail
                              go_roundw
                              case rel => exact ⟨k + 1, an, cn, Fn, by omega, by go_num, by rw [HD9.out], by rw [HSn.out, ← HLp.out, ← HLn.out]; exact HNn⟩
                              case measure => simp [intOf]; omega
                      · go_simp
                        have hpz4 := HPwE7.out.1.lt
                        obtain ⟨wE8, hq8⟩ : ∃ q, q = wE7.alloc (.cells #[.int .i64 x.fD.fR, .int .i64 x.fD.fN, .slice a1 x.fDeps.length ez1] 52) := ⟨_, rfl⟩
                        have hop8 : Below wE7.heap.size wE7 wE8 := by rw [hq8]; exact (Below.refl _ _).alloc (Nat.le_refl _) _
                        have HPwE8 := Hid.mk (HPwE7.out.under hop8)
                        have hSwE8 : Below (w.heap.size + 1 + 1 + 1) wp wE8 := (hSwE7).trans (hop8.mono (by omega))
                        obtain ⟨g4, HG4⟩ : ∃ z, Hid (z = wE7.heap.size) := ⟨_, Hid.mk rfl⟩
                        have HB4 : Hid (Bx wE8 g4 [.int .i64 x.fD.fR, .int .i64 x.fD.fN, .slice a1 x.fDeps.length ez1]) := by unfold Hid; rw [HG4.out, hq8]; exact Bx.new _ _ _
                        rw [← HG4.out]
                        rw [← hq8]
                        clear hq8
                        refine hK.out _ _ (hSwE8) (fun hHeld => ?_)
                        clear hK K
                        try simp only [Act.put, sa, s0, s1]
                        refine wpAnyH_ready (rs := [1]) (by kernel_rfl) (by simp) ?_
                        refine (AllReadyH.cons (o := q31a_83_9_1) rfl (fun K hK => ?_) AllReadyH.nil)
                        · skip
                          have yq := HPwE8.out.1.cell 0 _ rfl
                          go_simp
                          obtain ⟨wE1, hq1⟩ : ∃ q, q = wE8 := ⟨_, rfl⟩
                          have HPwE1 : Hid (PutSt (w.heap.size + 1 + 1 + 1) w0 (.slice ap lp.length cp) lp Fp wE1) := by rw [hq1]; exact HPwE8
                          have hSwE1 : Below (w.heap.size + 1 + 1 + 1) wp wE1 := by rw [hq1]; exact hSwE8
                          have hop1 : Below wE8.heap.size wE8 wE1 := by rw [hq1]; exact Below.refl _ _
                          rw [← hq1]
                          clear hq1 yq
                          refine hK.out _ _ (hSwE1) (fun hHeld => ?_)
                          clear hK K
                          try simp only [Act.put, sa, s0, s1]
                          refine wpAnyH_ready (rs := [9]) (by kernel_rfl) (by simp) ?_
                          refine (AllReadyH.cons (o := q31a_83_9_9) rfl (fun K hK => ?_) AllReadyH.nil)
                          · skip
                            have HX5 := HB4.out.under (show Below wE8.heap.size wE8 wE1 from bthen (Below.refl _ _) hop1)
                            have hf3 := (show Below wE7.heap.size wE7 wE1 from bthen (bthen (Below.refl _ _) hop8) hop1)
                            have hc3 := oItem_good.frame HC3.out (fun b hb => hf3.block b (oItem_good.lt HC3.out b hb))
                            obtain ⟨rs, hox, hnext⟩ := HPwE1.out.app
                            refine step_append_src wE1 rfl _ _ 28 28 rfl 0 52 iT (.agg #[.int .i64 0, .int .i64 0, .slice none 0 0]) 3 40 Tryd.underlying28 HIT.out.1 HIT.out.2.1 HIT.out.2.2.1 HIT.out.2.2.2 rfl (.slice ap lp.length cp) (lp).length rs rfl hox (.slice (some ⟨g4, 0, none⟩) 1 1) rfl 1 _ (Src.item Tryd.underlying28 HX5) (by unfold maxLen; omega) (by omega) (Nat.zero_le _) ?_
                            intro v5 wE9 ho5 hgr5 hat5
                            obtain ⟨ln, HLn⟩ : ∃ z : List MItem, Hid (z = lp ++ [x]) := ⟨_, Hid.mk rfl⟩
                            obtain ⟨Fn, an, cn, rfl, hn5, hb5, hl5⟩ := hnext wE9 v5 _ x F3 ho5 hgr5 hat5 hc3 HN3.out HDJ.out HG3.out ln HLn.out
                            have HNn := Hid.mk hn5
                            have hSwE9 : Below (w.heap.size + 1 + 1 + 1) wp wE9 := (by have hpS := hSwE1; have hpz5 := HPwE1.out.1.lt; exact hpS.grown hgr5 (by omega) (fun k hk => by have := HPwE1.out.2.2.2.1 k (ownS.blk HPwE1.out.2.1 k hk); omega))
                            have q1 := hb5.cell 0 _ rfl
                            have qf := hb5.free 0
                            have ql := hb5.lt
                            clear ho5 hgr5 hat5 hc3 hn5 hb5 hl5 hox hnext
                            refine hK.out _ _ (hSwE9) (fun hHeld => ?_)
                            clear hK K
                            try simp only [Act.put, sa, s0, s1]
                            refine tk 10 q31a_83_9_10 (some 47) (v := ?v83) rfl rfl (by kernel_rfl) hHeld (by rfl) (fun _ _ _ x => x) (fun w h => ?y83) ?_; (case y83 => (try dsimp only at h); go_simp; try (with_reducible rfl)); try simp only [Act.put, sa, s0, s1]
                            refine wpAnyH_ready (rs := [11]) (by kernel_rfl) (by simp) ?_
                            refine (AllReadyH.cons (o := q31a_83_9_11) rfl (fun K hK => ?_) AllReadyH.nil)
                            · go_simp
                              obtain ⟨wE11, hq11⟩ : ∃ q, q = wE9.setCell ⟨w.heap.size + 1 + 1 + 1, 0, none⟩ (.slice an ln.length cn) := ⟨_, rfl⟩
                              rw [← hq11] at HNn
                              have hSwE11 : Below (w.heap.size + 1 + 1 + 1) wp wE11 := by rw [hq11]; exact hSwE9.setCell (Nat.le_refl _) _
                              obtain ⟨wn, hwn⟩ : ∃ q, q = wE11 := ⟨_, rfl⟩
                              rw [← hq11]
                              clear hq11 q1 qf ql
                              refine hK.out _ _ (hSwE11) (fun hHeld => ?_)
                              clear hK K
                              try simp only [Act.put, sa, s0, s1]
                              refine wpAnyH_done (by kernel_rfl) ?_ _
                              rw [← hwn] at HNn ⊢
                              clear hwn
                              go_wp2_with fail
                              go_roundw
                              case rel => exact ⟨k + 1, an, cn, Fn, by omega, by go_num, by rw [HD9.out], by rw [HSn.out, ← HLp.out, ← HLn.out]; exact HNn⟩
                              case measure => simp [intOf]; omega
            · go_simp
              have hpz4 := HPwE3.out.1.lt
              obtain ⟨wE4, hq4⟩ : ∃ q, q = wE3.alloc (.cells #[.int .i64 it.fD.fR, .int .i64 it.fD.fN, .slice a1 it.fDeps.length ez1] 52) := ⟨_, rfl⟩
              have hop4 : Below wE3.heap.size wE3 wE4 := by rw [hq4]; exact (Below.refl _ _).alloc (Nat.le_refl _) _
              have HPwE4 := Hid.mk (HPwE3.out.under hop4)
              have hSwE4 : Below (w.heap.size + 1 + 1 + 1) wA wE4 := (hSwE3).trans (hop4.mono (by omega))
              obtain ⟨g4, HG4⟩ : ∃ z, Hid (z = wE3.heap.size) := ⟨_, Hid.mk rfl⟩
              have HB4 : Hid (Bx wE4 g4 [.int .i64 it.fD.fR, .int .i64 it.fD.fN, .slice a1 it.fDeps.length ez1]) := by unfold Hid; rw [HG4.out, hq4]; exact Bx.new _ _ _
              rw [← HG4.out]
              rw [← hq4]
              clear hq4
              refine hK.out _ _ (hSwE4) (fun hHeld => ?_)
              clear hK K
              try simp only [Act.put, sa, s0, s1]
              refine wpAnyH_ready (rs := [1]) (by kernel_rfl) (by simp) ?_
              refine (AllReadyH.cons (o := q31a_83_7_1) rfl (fun K hK => ?_) AllReadyH.nil)
              · skip
                have yq := HPwE4.out.1.cell 0 _ rfl
                go_simp
                obtain ⟨wE1, hq1⟩ : ∃ q, q = wE4 := ⟨_, rfl⟩
                have HPwE1 : Hid (PutSt (w.heap.size + 1 + 1 + 1) w0 (.slice va lk.length vc) lk F wE1) := by rw [hq1]; exact HPwE4
                have hSwE1 : Below (w.heap.size + 1 + 1 + 1) wA wE1 := by rw [hq1]; exact hSwE4
                have hop1 : Below wE4.heap.size wE4 wE1 := by rw [hq1]; exact Below.refl _ _
                rw [← hq1]
                clear hq1 yq
                refine hK.out _ _ (hSwE1) (fun hHeld => ?_)
                clear hK K
                try simp only [Act.put, sa, s0, s1]
                refine wpAnyH_ready (rs := [5]) (by kernel_rfl) (by simp) ?_
                refine (AllReadyH.cons (o := q31a_83_7_5) rfl (fun K hK => ?_) AllReadyH.nil)
                · skip
                  have HX5 := HB4.out.under (show Below wE4.heap.size wE4 wE1 from bthen (Below.refl _ _) hop1)
                  have hf3 := (show Below wE3.heap.size wE3 wE1 from bthen (bthen (Below.refl _ _) hop4) hop1)
                  have hc3 := oItem_good.frame HC3.out (fun b hb => hf3.block b (oItem_good.lt HC3.out b hb))
                  obtain ⟨rs, hox, hnext⟩ := HPwE1.out.app
                  refine step_append_src wE1 rfl _ _ 28 28 rfl 0 52 iT (.agg #[.int .i64 0, .int .i64 0, .slice none 0 0]) 3 40 Tryd.underlying28 HIT.out.1 HIT.out.2.1 HIT.out.2.2.1 HIT.out.2.2.2 rfl (.slice va lk.length vc) (lk).length rs rfl hox (.slice (some ⟨g4, 0, none⟩) 1 1) rfl 1 _ (Src.item Tryd.underlying28 HX5) (by unfold maxLen; omega) (by omega) (Nat.zero_le _) ?_
                  intro v5 wE5 ho5 hgr5 hat5
                  obtain ⟨lp, HLp⟩ : ∃ z : List MItem, Hid (z = lk ++ [it]) := ⟨_, Hid.mk rfl⟩
                  obtain ⟨Fp, ap, cp, rfl, hn5, hb5, hl5⟩ := hnext wE5 v5 _ it F3 ho5 hgr5 hat5 hc3 HN3.out HDJ.out HG3.out lp HLp.out
                  have HNp := Hid.mk hn5
                  have hSwE5 : Below (w.heap.size + 1 + 1 + 1) wA wE5 := (by have hpS := hSwE1; have hpz5 := HPwE1.out.1.lt; exact hpS.grown hgr5 (by omega) (fun k hk => by have := HPwE1.out.2.2.2.1 k (ownS.blk HPwE1.out.2.1 k hk); omega))
                  have q1 := hb5.cell 0 _ rfl
                  have qf := hb5.free 0
                  have ql := hb5.lt
                  clear ho5 hgr5 hat5 hc3 hn5 hb5 hl5 hox hnext
                  refine hK.out _ _ (hSwE5) (fun hHeld => ?_)
                  clear hK K
                  try simp only [Act.put, sa, s0, s1]
                  refine tk 6 q31a_83_7_6 (some 36) (v := ?v51) rfl rfl (by kernel_rfl) hHeld (by rfl) (fun _ _ _ x => x) (fun w h => ?y51) ?_; (case y51 => (try dsimp only at h); go_simp; try (with_reducible rfl)); try simp only [Act.put, sa, s0, s1]
                  refine wpAnyH_ready (rs := [7]) (by kernel_rfl) (by simp) ?_
                  refine (AllReadyH.cons (o := q31a_83_7_7) rfl (fun K hK => ?_) AllReadyH.nil)
                  · go_simp
                    obtain ⟨wE7, hq7⟩ : ∃ q, q = wE5.setCell ⟨w.heap.size + 1 + 1 + 1, 0, none⟩ (.slice ap lp.length cp) := ⟨_, rfl⟩
                    rw [← hq7] at HNp
                    have hSwE7 : Below (w.heap.size + 1 + 1 + 1) wA wE7 := by rw [hq7]; exact hSwE5.setCell (Nat.le_refl _) _
                    obtain ⟨wp, hwp⟩ : ∃ q, q = wE7 := ⟨_, rfl⟩
                    rw [← hq7]
                    clear hq7 q1 qf ql
                    refine hK.out _ _ (hSwE7) (fun hHeld => ?_)
                    clear hK K
                    try simp only [Act.put, sa, s0, s1]
                    refine wpAnyH_done (by kernel_rfl) ?_ _
                    have hzP0 : (w.heap.size + 1 + 1 + 1) < wE7.heap.size := HNp.out.1.lt
                    have hSp : Below (w.heap.size + 1 + 1 + 1) wA wp := by rw [hwp]; exact hSwE7
                    rw [← hwp] at HNp ⊢
                    clear hwp
                    have HRy := Hid.mk (rItem_good.below HRx.out (hSp.mono (by omega)))
                    have hly : lp.length ≤ 1048578 := (by rw [HLp.out]; simp; omega)
                    have x0p : ∀ W, Below (w.heap.size + 1 + 1 + 1) wp W → W.cell? ⟨w.heap.size, 0, none⟩ = some (.slice (some ⟨b1, o1, none⟩) n c) := fun W h => x0 W (hSp.trans h)
                    have e0p : ∀ W, Below (w.heap.size + 1 + 1 + 1) wp W → W.cell? ⟨b1, o1 + k * 3, none⟩ = some (.int .i64 x.fD.fR) := fun W h => e0 W (hSp.trans h)
                    have e1p : ∀ W, Below (w.heap.size + 1 + 1 + 1) wp W → W.cell? ⟨b1, o1 + k * 3 + 1, none⟩ = some (.int .i64 x.fD.fN) := fun W h => e1 W (hSp.trans h)
                    have e2p : ∀ W, Below (w.heap.size + 1 + 1 + 1) wp W → W.cell? ⟨b1, o1 + k * 3 + 2, none⟩ = some (.slice a2 x.fDeps.length c2) := fun W h => e2 W (hSp.trans h)
                    clear x0 y0 y1 y2 e0 e1 e2 HPA HC3 HN3 HG3 HDJ HB4 HG4
                    go_wp2_with fail
                    refine wp_region_held_drew (S := fun W => Below (w.heap.size + 1 + 1 + 1) wp W) (by kernel_rfl) (Below.drew (Below.refl _ _)) (fun hHeld => ?_)
                    obtain ⟨wS, hwS⟩ : ∃ wS, wS = wp.drew := ⟨_, rfl⟩
                    have hSwS : Below (w.heap.size + 1 + 1 + 1) wp wS := by rw [hwS]; exact Below.drew (Below.refl _ _)
                    have HPwS : Hid (PutSt (w.heap.size + 1 + 1 + 1) w0 (.slice ap lp.length cp) lp Fp wS) := by rw [hwS]; exact HNp.out.under (Below.drew (Below.refl _ _))
                    have hzA : wp.heap.size ≤ wS.heap.size := by rw [hwS]; exact Nat.le_refl _
                    rw [← hwS] at hHeld ⊢
                    clear hwS
                    refine tk 0 q31a_83_9_0 (some 37) (v := ?v84) rfl rfl (by kernel_rfl) hHeld (by rfl) (fun _ _ _ x => x) (fun w h => ?y84) ?_; (case y84 => (try dsimp only at h); go_simp; try (with_reducible rfl)); try simp only [Act.put, sa, s0, s1]
                    refine tk 2 q31a_83_9_2 (some 39) (v := ?v85) rfl rfl (by kernel_rfl) hHeld (by rfl) (fun _ _ _ x => x) (fun w h => ?y85) ?_; (case y85 => (try dsimp only at h); go_simp; try (with_reducible rfl)); try simp only [Act.put, sa, s0, s1]
                    refine tk 3 q31a_83_9_3 (some 40) (v := ?v86) rfl rfl (by kernel_rfl) hHeld (by rfl) (fun _ _ _ x => x) (fun w h => ?y86) ?_; (case y86 => (try dsimp only at h); go_simp; try (with_reducible rfl)); try simp only [Act.put, sa, s0, s1]
                    refine tk 4 q31a_83_9_4 (some 41) (v := ?v87) rfl rfl (by kernel_rfl) hHeld (by rfl) (fun _ _ _ x => x) (fun w h => ?y87) ?_; (case y87 => (try dsimp only at h); go_simp; try (with_reducible rfl)); try simp only [Act.put, sa, s0, s1]
                    refine tk 5 q31a_83_9_5 (some 42) (v := ?v88) rfl rfl (by kernel_rfl) hHeld (by rfl) (fun _ _ _ x => x) (fun w h => ?y88) ?_; (case y88 => (try dsimp only at h); go_simp; try (with_reducible rfl)); try simp only [Act.put, sa, s0, s1]
                    refine tk 6 q31a_83_9_6 (some 43) (v := ?v89) rfl rfl (by kernel_rfl) hHeld (by rfl) (fun _ _ _ x => x) (fun w h => ?y89) ?_; (case y89 => (try dsimp only at h); go_simp; try (with_reducible rfl)); try simp only [Act.put, sa, s0, s1]
                    refine wpAnyH_ready (rs := [1, 7]) (by kernel_rfl) (by simp) ?_
                    refine (AllReadyH.cons (o := q31a_83_9_1) rfl (fun K hK => ?_) (AllReadyH.cons (o := q31a_83_9_7) rfl (fun K hK => ?_) AllReadyH.nil))
                    · skip
                      have yq := HPwS.out.1.cell 0 _ rfl
                      go_simp
                      obtain ⟨wE1, hq1⟩ : ∃ q, q = wS := ⟨_, rfl⟩
                      have HPwE1 : Hid (PutSt (w.heap.size + 1 + 1 + 1) w0 (.slice ap lp.length cp) lp Fp wE1) := by rw [hq1]; exact HPwS
                      have hSwE1 : Below (w.heap.size + 1 + 1 + 1) wp wE1 := by rw [hq1]; exact hSwS
                      have hop1 : Below wS.heap.size wS wE1 := by rw [hq1]; exact Below.refl _ _
                      rw [← hq1]
                      clear hq1 yq
                      refine hK.out _ _ (hSwE1) (fun hHeld => ?_)
                      clear hK K
                      try simp only [Act.put, sa, s0, s1]
                      refine wpAnyH_ready (rs := [7]) (by kernel_rfl) (by simp) ?_
                      refine (AllReadyH.cons (o := q31a_83_9_7) rfl (fun K hK => ?_) AllReadyH.nil)
                      · go_simp
                        have hpz := HPwE1.out.1.lt
                        have hpF := fun b hb => ownS.lt oItem_good HPwE1.out.2.1 b hb
                        have hpS := hSwE1
                        have hfl := Below.size (show Below wS.heap.size wS wE1 from bthen (Below.refl _ _) hop1)
                        refine Calls.mono (l8CopyItem_any _ x wE1 (rItem_good.mono (rItem_good.below HRy.out (hpS.mono (by omega))) (by omega)) hdk) ?_
                        rintro e wE7 ⟨cs3, F3, rfl, ho3, hN3, hge3, hop7⟩
                        have HPwE7 := Hid.mk (HPwE1.out.under hop7)
                        have hSwE7 : Below (w.heap.size + 1 + 1 + 1) wp wE7 := hpS.trans (hop7.mono (by omega))
                        have HC3 := Hid.mk ho3
                        have HN3 := Hid.mk hN3
                        have HG3 : Hid (∀ b, b ∈ F3 → (w.heap.size + 1 + 1 + 1) + 1 ≤ b) := fun b hb => (by have h := hge3 b hb; omega)
                        have HDJ : Hid (∀ b, b ∈ F3 → b ∉ Fp) := fun b hb hbF => (by have h1 := hge3 b hb; have h2 := hpF b hbF; omega)
                        obtain ⟨v1, F0, rfl, _, _, hv1, _⟩ := ho3
                        obtain ⟨a1, ez1, rfl, _⟩ := ownS.read oDot_good hv1
                        clear hv1 hN3 hge3 hpF hpS hfl
                        go_wp2_with fail
                        refine hK.out _ _ (hSwE7) (fun hHeld => ?_)
                        clear hK K
                        try simp only [Act.put, sa, s0, s1]
                        refine wpAnyH_ready (rs := [8]) (by kernel_rfl) (by simp) ?_
                        refine (AllReadyH.cons (o := q31a_83_9_8) rfl (fun K hK => ?_) AllReadyH.nil)
                        · go_simp
                          have hpz4 := HPwE7.out.1.lt
                          obtain ⟨wE8, hq8⟩ : ∃ q, q = wE7.alloc (.cells #[.int .i64 x.fD.fR, .int .i64 x.fD.fN, .slice a1 x.fDeps.length ez1] 52) := ⟨_, rfl⟩
                          have hop8 : Below wE7.heap.size wE7 wE8 := by rw [hq8]; exact (Below.refl _ _).alloc (Nat.le_refl _) _
                          have HPwE8 := Hid.mk (HPwE7.out.under hop8)
                          have hSwE8 : Below (w.heap.size + 1 + 1 + 1) wp wE8 := (hSwE7).trans (hop8.mono (by omega))
                          obtain ⟨g4, HG4⟩ : ∃ z, Hid (z = wE7.heap.size) := ⟨_, Hid.mk rfl⟩
                          have HB4 : Hid (Bx wE8 g4 [.int .i64 x.fD.fR, .int .i64 x.fD.fN, .slice a1 x.fDeps.length ez1]) := by unfold Hid; rw [HG4.out, hq8]; exact Bx.new _ _ _
                          rw [← HG4.out]
                          rw [← hq8]
                          clear hq8
                          refine hK.out _ _ (hSwE8) (fun hHeld => ?_)
                          clear hK K
                          try simp only [Act.put, sa, s0, s1]
                          refine wpAnyH_ready (rs := [9]) (by kernel_rfl) (by simp) ?_
                          refine (AllReadyH.cons (o := q31a_83_9_9) rfl (fun K hK => ?_) AllReadyH.nil)
                          · skip
                            have HX5 := HB4.out.under (show Below wE8.heap.size wE8 wE8 from Below.refl _ _)
                            have hf3 := (show Below wE7.heap.size wE7 wE8 from bthen (Below.refl _ _) hop8)
                            have hc3 := oItem_good.frame HC3.out (fun b hb => hf3.block b (oItem_good.lt HC3.out b hb))
                            obtain ⟨rs, hox, hnext⟩ := HPwE8.out.app
                            refine step_append_src wE8 rfl _ _ 28 28 rfl 0 52 iT (.agg #[.int .i64 0, .int .i64 0, .slice none 0 0]) 3 40 Tryd.underlying28 HIT.out.1 HIT.out.2.1 HIT.out.2.2.1 HIT.out.2.2.2 rfl (.slice ap lp.length cp) (lp).length rs rfl hox (.slice (some ⟨g4, 0, none⟩) 1 1) rfl 1 _ (Src.item Tryd.underlying28 HX5) (by unfold maxLen; omega) (by omega) (Nat.zero_le _) ?_
                            intro v5 wE9 ho5 hgr5 hat5
                            obtain ⟨ln, HLn⟩ : ∃ z : List MItem, Hid (z = lp ++ [x]) := ⟨_, Hid.mk rfl⟩
                            obtain ⟨Fn, an, cn, rfl, hn5, hb5, hl5⟩ := hnext wE9 v5 _ x F3 ho5 hgr5 hat5 hc3 HN3.out HDJ.out HG3.out ln HLn.out
                            have HNn := Hid.mk hn5
                            have hSwE9 : Below (w.heap.size + 1 + 1 + 1) wp wE9 := (by have hpS := hSwE8; have hpz5 := HPwE8.out.1.lt; exact hpS.grown hgr5 (by omega) (fun k hk => by have := HPwE8.out.2.2.2.1 k (ownS.blk HPwE8.out.2.1 k hk); omega))
                            have q1 := hb5.cell 0 _ rfl
                            have qf := hb5.free 0
                            have ql := hb5.lt
                            clear ho5 hgr5 hat5 hc3 hn5 hb5 hl5 hox hnext
                            refine hK.out _ _ (hSwE9) (fun hHeld => ?_)
                            clear hK K
                            try simp only [Act.put, sa, s0, s1]
                            refine tk 10 q31a_83_9_10 (some 47) (v := ?v90) rfl rfl (by kernel_rfl) hHeld (by rfl) (fun _ _ _ x => x) (fun w h => ?y90) ?_; (case y90 => (try dsimp only at h); go_simp; try (with_reducible rfl)); try simp only [Act.put, sa, s0, s1]
                            refine wpAnyH_ready (rs := [11]) (by kernel_rfl) (by simp) ?_
                            refine (AllReadyH.cons (o := q31a_83_9_11) rfl (fun K hK => ?_) AllReadyH.nil)
                            · go_simp
                              obtain ⟨wE11, hq11⟩ : ∃ q, q = wE9.setCell ⟨w.heap.size + 1 + 1 + 1, 0, none⟩ (.slice an ln.length cn) := ⟨_, rfl⟩
                              rw [← hq11] at HNn
                              have hSwE11 : Below (w.heap.size + 1 + 1 + 1) wp wE11 := by rw [hq11]; exact hSwE9.setCell (Nat.le_refl _) _
                              obtain ⟨wn, hwn⟩ : ∃ q, q = wE11 := ⟨_, rfl⟩
                              rw [← hq11]
                              clear hq11 q1 qf ql
                              refine hK.out _ _ (hSwE11) (fun hHeld => ?_)
                              clear hK K
                              try simp only [Act.put, sa, s0, s1]
                              refine wpAnyH_done (by kernel_rfl) ?_ _
                              rw [← hwn] at HNn ⊢
                              clear hwn
                              go_wp2_with fail
                              go_roundw
                              case rel => exact ⟨k + 1, an, cn, Fn, by omega, by go_num, by rw [HD9.out], by rw [HSn.out, ← HLp.out, ← HLn.out]; exact HNn⟩
                              case measure => simp [intOf]; omega
                    · go_simp
                      have hpz := HPwS.out.1.lt
                      have hpF := fun b hb => ownS.lt oItem_good HPwS.out.2.1 b hb
                      have hpS := hSwS
                      have hfl := Below.size (show Below wS.heap.size wS wS from Below.refl _ _)
                      refine Calls.mono (l8CopyItem_any _ x wS (rItem_good.mono (rItem_good.below HRy.out (hpS.mono (by omega))) (by omega)) hdk) ?_
                      rintro e wE7 ⟨cs3, F3, rfl, ho3, hN3, hge3, hop7⟩
                      have HPwE7 := Hid.mk (HPwS.out.under hop7)
                      have hSwE7 : Below (w.heap.size + 1 + 1 + 1) wp wE7 := hpS.trans (hop7.mono (by omega))
                      have HC3 := Hid.mk ho3
                      have HN3 := Hid.mk hN3
                      have HG3 : Hid (∀ b, b ∈ F3 → (w.heap.size + 1 + 1 + 1) + 1 ≤ b) := fun b hb => (by have h := hge3 b hb; omega)
                      have HDJ : Hid (∀ b, b ∈ F3 → b ∉ Fp) := fun b hb hbF => (by have h1 := hge3 b hb; have h2 := hpF b hbF; omega)
                      obtain ⟨v1, F0, rfl, _, _, hv1, _⟩ := ho3
                      obtain ⟨a1, ez1, rfl, _⟩ := ownS.read oDot_good hv1
                      clear hv1 hN3 hge3 hpF hpS hfl
                      go_wp2_with fail
                      refine hK.out _ _ (hSwE7) (fun hHeld => ?_)
                      clear hK K
                      try simp only [Act.put, sa, s0, s1]
                      refine wpAnyH_ready (rs := [1, 8]) (by kernel_rfl) (by simp) ?_
                      refine (AllReadyH.cons (o := q31a_83_9_1) rfl (fun K hK => ?_) (AllReadyH.cons (o := q31a_83_9_8) rfl (fun K hK => ?_) AllReadyH.nil))
                      · skip
                        have yq := HPwE7.out.1.cell 0 _ rfl
                        go_simp
                        obtain ⟨wE1, hq1⟩ : ∃ q, q = wE7 := ⟨_, rfl⟩
                        have HPwE1 : Hid (PutSt (w.heap.size + 1 + 1 + 1) w0 (.slice ap lp.length cp) lp Fp wE1) := by rw [hq1]; exact HPwE7
                        have hSwE1 : Below (w.heap.size + 1 + 1 + 1) wp wE1 := by rw [hq1]; exact hSwE7
                        have hop1 : Below wE7.heap.size wE7 wE1 := by rw [hq1]; exact Below.refl _ _
                        rw [← hq1]
                        clear hq1 yq
                        refine hK.out _ _ (hSwE1) (fun hHeld => ?_)
                        clear hK K
                        try simp only [Act.put, sa, s0, s1]
                        refine wpAnyH_ready (rs := [8]) (by kernel_rfl) (by simp) ?_
                        refine (AllReadyH.cons (o := q31a_83_9_8) rfl (fun K hK => ?_) AllReadyH.nil)
                        · go_simp
                          have hpz4 := HPwE1.out.1.lt
                          obtain ⟨wE8, hq8⟩ : ∃ q, q = wE1.alloc (.cells #[.int .i64 x.fD.fR, .int .i64 x.fD.fN, .slice a1 x.fDeps.length ez1] 52) := ⟨_, rfl⟩
                          have hop8 : Below wE1.heap.size wE1 wE8 := by rw [hq8]; exact (Below.refl _ _).alloc (Nat.le_refl _) _
                          have HPwE8 := Hid.mk (HPwE1.out.under hop8)
                          have hSwE8 : Below (w.heap.size + 1 + 1 + 1) wp wE8 := (hSwE1).trans (hop8.mono (by omega))
                          obtain ⟨g4, HG4⟩ : ∃ z, Hid (z = wE1.heap.size) := ⟨_, Hid.mk rfl⟩
                          have HB4 : Hid (Bx wE8 g4 [.int .i64 x.fD.fR, .int .i64 x.fD.fN, .slice a1 x.fDeps.length ez1]) := by unfold Hid; rw [HG4.out, hq8]; exact Bx.new _ _ _
                          rw [← HG4.out]
                          rw [← hq8]
                          clear hq8
                          refine hK.out _ _ (hSwE8) (fun hHeld => ?_)
                          clear hK K
                          try simp only [Act.put, sa, s0, s1]
                          refine wpAnyH_ready (rs := [9]) (by kernel_rfl) (by simp) ?_
                          refine (AllReadyH.cons (o := q31a_83_9_9) rfl (fun K hK => ?_) AllReadyH.nil)
                          · skip
                            have HX5 := HB4.out.under (show Below wE8.heap.size wE8 wE8 from Below.refl _ _)
                            have hf3 := (show Below wE7.heap.size wE7 wE8 from bthen (bthen (Below.refl _ _) hop1) hop8)
                            have hc3 := oItem_good.frame HC3.out (fun b hb => hf3.block b (oItem_good.lt HC3.out b hb))
                            obtain ⟨rs, hox, hnext⟩ := HPwE8.out.app
                            refine step_append_src wE8 rfl _ _ 28 28 rfl 0 52 iT (.agg #[.int .i64 0, .int .i64 0, .slice none 0 0]) 3 40 Tryd.underlying28 HIT.out.1 HIT.out.2.1 HIT.out.2.2.1 HIT.out.2.2.2 rfl (.slice ap lp.length cp) (lp).length rs rfl hox (.slice (some ⟨g4, 0, none⟩) 1 1) rfl 1 _ (Src.item Tryd.underlying28 HX5) (by unfold maxLen; omega) (by omega) (Nat.zero_le _) ?_
                            intro v5 wE9 ho5 hgr5 hat5
                            obtain ⟨ln, HLn⟩ : ∃ z : List MItem, Hid (z = lp ++ [x]) := ⟨_, Hid.mk rfl⟩
                            obtain ⟨Fn, an, cn, rfl, hn5, hb5, hl5⟩ := hnext wE9 v5 _ x F3 ho5 hgr5 hat5 hc3 HN3.out HDJ.out HG3.out ln HLn.out
                            have HNn := Hid.mk hn5
                            have hSwE9 : Below (w.heap.size + 1 + 1 + 1) wp wE9 := (by have hpS := hSwE8; have hpz5 := HPwE8.out.1.lt; exact hpS.grown hgr5 (by omega) (fun k hk => by have := HPwE8.out.2.2.2.1 k (ownS.blk HPwE8.out.2.1 k hk); omega))
                            have q1 := hb5.cell 0 _ rfl
                            have qf := hb5.free 0
                            have ql := hb5.lt
                            clear ho5 hgr5 hat5 hc3 hn5 hb5 hl5 hox hnext
                            refine hK.out _ _ (hSwE9) (fun hHeld => ?_)
                            clear hK K
                            try simp only [Act.put, sa, s0, s1]
                            refine tk 10 q31a_83_9_10 (some 47) (v := ?v91) rfl rfl (by kernel_rfl) hHeld (by rfl) (fun _ _ _ x => x) (fun w h => ?y91) ?_; (case y91 => (try dsimp only at h); go_simp; try (with_reducible rfl)); try simp only [Act.put, sa, s0, s1]
                            refine wpAnyH_ready (rs := [11]) (by kernel_rfl) (by simp) ?_
                            refine (AllReadyH.cons (o := q31a_83_9_11) rfl (fun K hK => ?_) AllReadyH.nil)
                            · go_simp
                              obtain ⟨wE11, hq11⟩ : ∃ q, q = wE9.setCell ⟨w.heap.size + 1 + 1 + 1, 0, none⟩ (.slice an ln.length cn) := ⟨_, rfl⟩
                              rw [← hq11] at HNn
                              have hSwE11 : Below (w.heap.size + 1 + 1 + 1) wp wE11 := by rw [hq11]; exact hSwE9.setCell (Nat.le_refl _) _
                              obtain ⟨wn, hwn⟩ : ∃ q, q = wE11 := ⟨_, rfl⟩
                              rw [← hq11]
                              clear hq11 q1 qf ql
                              refine hK.out _ _ (hSwE11) (fun hHeld => ?_)
                              clear hK K
                              try simp only [Act.put, sa, s0, s1]
                              refine wpAnyH_done (by kernel_rfl) ?_ _
                              rw [← hwn] at HNn ⊢
                              clear hwn
                              go_wp2_with fail
                              go_roundw
                              case rel => exact ⟨k + 1, an, cn, Fn, by omega, by go_num, by rw [HD9.out], by rw [HSn.out, ← HLp.out, ← HLn.out]; exact HNn⟩
                              case measure => simp [intOf]; omega
                      · go_simp
                        have hpz4 := HPwE7.out.1.lt
                        obtain ⟨wE8, hq8⟩ : ∃ q, q = wE7.alloc (.cells #[.int .i64 x.fD.fR, .int .i64 x.fD.fN, .slice a1 x.fDeps.length ez1] 52) := ⟨_, rfl⟩
                        have hop8 : Below wE7.heap.size wE7 wE8 := by rw [hq8]; exact (Below.refl _ _).alloc (Nat.le_refl _) _
                        have HPwE8 := Hid.mk (HPwE7.out.under hop8)
                        have hSwE8 : Below (w.heap.size + 1 + 1 + 1) wp wE8 := (hSwE7).trans (hop8.mono (by omega))
                        obtain ⟨g4, HG4⟩ : ∃ z, Hid (z = wE7.heap.size) := ⟨_, Hid.mk rfl⟩
                        have HB4 : Hid (Bx wE8 g4 [.int .i64 x.fD.fR, .int .i64 x.fD.fN, .slice a1 x.fDeps.length ez1]) := by unfold Hid; rw [HG4.out, hq8]; exact Bx.new _ _ _
                        rw [← HG4.out]
                        rw [← hq8]
                        clear hq8
                        refine hK.out _ _ (hSwE8) (fun hHeld => ?_)
                        clear hK K
                        try simp only [Act.put, sa, s0, s1]
                        refine wpAnyH_ready (rs := [1]) (by kernel_rfl) (by simp) ?_
                        refine (AllReadyH.cons (o := q31a_83_9_1) rfl (fun K hK => ?_) AllReadyH.nil)
                        · skip
                          have yq := HPwE8.out.1.cell 0 _ rfl
                          go_simp
                          obtain ⟨wE1, hq1⟩ : ∃ q, q = wE8 := ⟨_, rfl⟩
                          have HPwE1 : Hid (PutSt (w.heap.size + 1 + 1 + 1) w0 (.slice ap lp.length cp) lp Fp wE1) := by rw [hq1]; exact HPwE8
                          have hSwE1 : Below (w.heap.size + 1 + 1 + 1) wp wE1 := by rw [hq1]; exact hSwE8
                          have hop1 : Below wE8.heap.size wE8 wE1 := by rw [hq1]; exact Below.refl _ _
                          rw [← hq1]
                          clear hq1 yq
                          refine hK.out _ _ (hSwE1) (fun hHeld => ?_)
                          clear hK K
                          try simp only [Act.put, sa, s0, s1]
                          refine wpAnyH_ready (rs := [9]) (by kernel_rfl) (by simp) ?_
                          refine (AllReadyH.cons (o := q31a_83_9_9) rfl (fun K hK => ?_) AllReadyH.nil)
                          · skip
                            have HX5 := HB4.out.under (show Below wE8.heap.size wE8 wE1 from bthen (Below.refl _ _) hop1)
                            have hf3 := (show Below wE7.heap.size wE7 wE1 from bthen (bthen (Below.refl _ _) hop8) hop1)
                            have hc3 := oItem_good.frame HC3.out (fun b hb => hf3.block b (oItem_good.lt HC3.out b hb))
                            obtain ⟨rs, hox, hnext⟩ := HPwE1.out.app
                            refine step_append_src wE1 rfl _ _ 28 28 rfl 0 52 iT (.agg #[.int .i64 0, .int .i64 0, .slice none 0 0]) 3 40 Tryd.underlying28 HIT.out.1 HIT.out.2.1 HIT.out.2.2.1 HIT.out.2.2.2 rfl (.slice ap lp.length cp) (lp).length rs rfl hox (.slice (some ⟨g4, 0, none⟩) 1 1) rfl 1 _ (Src.item Tryd.underlying28 HX5) (by unfold maxLen; omega) (by omega) (Nat.zero_le _) ?_
                            intro v5 wE9 ho5 hgr5 hat5
                            obtain ⟨ln, HLn⟩ : ∃ z : List MItem, Hid (z = lp ++ [x]) := ⟨_, Hid.mk rfl⟩
                            obtain ⟨Fn, an, cn, rfl, hn5, hb5, hl5⟩ := hnext wE9 v5 _ x F3 ho5 hgr5 hat5 hc3 HN3.out HDJ.out HG3.out ln HLn.out
                            have HNn := Hid.mk hn5
                            have hSwE9 : Below (w.heap.size + 1 + 1 + 1) wp wE9 := (by have hpS := hSwE1; have hpz5 := HPwE1.out.1.lt; exact hpS.grown hgr5 (by omega) (fun k hk => by have := HPwE1.out.2.2.2.1 k (ownS.blk HPwE1.out.2.1 k hk); omega))
                            have q1 := hb5.cell 0 _ rfl
                            have qf := hb5.free 0
                            have ql := hb5.lt
                            clear ho5 hgr5 hat5 hc3 hn5 hb5 hl5 hox hnext
                            refine hK.out _ _ (hSwE9) (fun hHeld => ?_)
                            clear hK K
                            try simp only [Act.put, sa, s0, s1]
                            refine tk 10 q31a_83_9_10 (some 47) (v := ?v92) rfl rfl (by kernel_rfl) hHeld (by rfl) (fun _ _ _ x => x) (fun w h => ?y92) ?_; (case y92 => (try dsimp only at h); go_simp; try (with_reducible rfl)); try simp only [Act.put, sa, s0, s1]
                            refine wpAnyH_ready (rs := [11]) (by kernel_rfl) (by simp) ?_
                            refine (AllReadyH.cons (o := q31a_83_9_11) rfl (fun K hK => ?_) AllReadyH.nil)
                            · go_simp
                              obtain ⟨wE11, hq11⟩ : ∃ q, q = wE9.setCell ⟨w.heap.size + 1 + 1 + 1, 0, none⟩ (.slice an ln.length cn) := ⟨_, rfl⟩
                              rw [← hq11] at HNn
                              have hSwE11 : Below (w.heap.size + 1 + 1 + 1) wp wE11 := by rw [hq11]; exact hSwE9.setCell (Nat.le_refl _) _
                              obtain ⟨wn, hwn⟩ : ∃ q, q = wE11 := ⟨_, rfl⟩
                              rw [← hq11]
                              clear hq11 q1 qf ql
                              refine hK.out _ _ (hSwE11) (fun hHeld => ?_)
                              clear hK K
                              try simp only [Act.put, sa, s0, s1]
                              refine wpAnyH_done (by kernel_rfl) ?_ _
                              rw [← hwn] at HNn ⊢
                              clear hwn
                              go_wp2_with fail
                              go_roundw
                              case rel => exact ⟨k + 1, an, cn, Fn, by omega, by go_num, by rw [HD9.out], by rw [HSn.out, ← HLp.out, ← HLn.out]; exact HNn⟩
                              case measure => simp [intOf]; omega
        · have hkq : k < q := by omega
          have hdl := HLT.out hkq
          simp only [hdl] at hCl
          have HSn := Hid.mk (HS1.out hkq)
          have HD9 : Hid (decide (q < k + 1) = false) := decide_eq_false (by omega)
          clear HS1 HS2 HS3 HLT HGT
          go_wp2_with fail
          refine wp_region_held_drew (S := fun W => Below wr.heap.size wr W) (by kernel_rfl) (Below.drew (Below.refl _ _)) (fun hHeld => ?_)
          refine tk 0 q31a_83_6_0 (some 17) (v := ?v26) rfl rfl (by kernel_rfl) hHeld (by rfl) (fun _ _ _ x => x) (fun w h => ?y26) ?_; (case y26 => (try dsimp only at h); go_simp; try (with_reducible rfl)); try simp only [Act.put, sa, s0, s1]
          refine tk 1 q31a_83_6_1 (some 18) (v := ?v27) rfl rfl (by kernel_rfl) hHeld (by rfl) (fun _ _ _ x => x) (fun w h => ?y27) ?_; (case y27 => (try dsimp only at h); go_simp; try (with_reducible rfl)); try simp only [Act.put, sa, s0, s1]
          refine tk 2 q31a_83_6_2 (some 19) (v := ?v28) rfl rfl (by kernel_rfl) hHeld (by rfl) (fun _ _ _ x => x) (fun w h => ?y28) ?_; (case y28 => (try dsimp only at h); go_simp; try (with_reducible rfl)); try simp only [Act.put, sa, s0, s1]
          refine tk 3 q31a_83_6_3 (some 20) (v := ?v29) rfl rfl (by kernel_rfl) hHeld (by rfl) (fun _ _ _ x => x) (fun w h => ?y29) ?_; (case y29 => (try dsimp only at h); go_simp; try (with_reducible rfl)); try simp only [Act.put, sa, s0, s1]
          refine tk 4 q31a_83_6_4 (some 21) (v := ?v30) rfl rfl (by kernel_rfl) hHeld (by rfl) (fun _ _ _ x => x) (fun w h => ?y30) ?_; (case y30 => (try dsimp only at h); go_simp; try (with_reducible rfl)); try simp only [Act.put, sa, s0, s1]
          refine tk 5 q31a_83_6_5 (some 22) (v := ?v31) rfl rfl (by kernel_rfl) hHeld (by rfl) (fun _ _ _ x => x) (fun w h => ?y31) ?_; (case y31 => (try dsimp only at h); go_simp; try (with_reducible rfl)); try simp only [Act.put, sa, s0, s1]
          refine tk 6 q31a_83_6_6 (some 23) (v := ?v32) rfl rfl (by kernel_rfl) hHeld (by rfl) (fun _ _ _ x => x) (fun w h => ?y32) ?_; (case y32 => (try dsimp only at h); go_simp; try (with_reducible rfl)); try simp only [Act.put, sa, s0, s1]
          refine tk 7 q31a_83_6_7 (some 24) (v := ?v33) rfl rfl (by kernel_rfl) hHeld (by rfl) (fun _ _ _ x => x) (fun w h => ?y33) ?_; (case y33 => (try dsimp only at h); go_simp; try (with_reducible rfl)); try simp only [Act.put, sa, s0, s1]
          refine tk 8 q31a_83_6_8 (some 25) (v := ?v34) rfl rfl (by kernel_rfl) hHeld (by rfl) (fun _ _ _ x => x) (fun w h => ?y34) ?_; (case y34 => (try dsimp only at h); go_simp; try (with_reducible rfl)); try simp only [Act.put, sa, s0, s1]
          refine tk 9 q31a_83_6_9 (some 26) (v := ?v35) rfl rfl (by kernel_rfl) hHeld (by rfl) (fun _ _ _ x => x) (fun w h => ?y35) ?_; (case y35 => (try dsimp only at h); go_simp; try (with_reducible rfl)); try simp only [Act.put, sa, s0, s1]
          refine tk 10 q31a_83_6_10 (some 27) (v := ?v36) rfl rfl (by kernel_rfl) hHeld (by rfl) (fun _ _ _ x => x) (fun w h => ?y36) ?_; (case y36 => (try dsimp only at h); go_simp; try (with_reducible rfl)); try simp only [Act.put, sa, s0, s1]
          refine wpAnyH_ready (rs := [11]) (by kernel_rfl) (by simp) ?_
          refine AllReadyH.cons (o := q31a_83_6_11) rfl (fun K hK => ?_) AllReadyH.nil
          go_simp
          refine Calls.mono (hCl _ hHeld) ?_
          rintro e wC ⟨rfl, hx1⟩
          go_wp2_with fail
          refine hK.out _ _ (bthen hHeld hx1) (fun hHeld => ?_)
          clear hK K
          try simp only [Act.put, sa, s0, s1]
          refine tk 12 q31a_83_6_12 (some 29) (v := ?v37) rfl rfl (by kernel_rfl) hHeld (by rfl) (fun _ _ _ x => x) (fun w h => ?y37) ?_; (case y37 => (try dsimp only at h); go_simp; try (with_reducible rfl)); try simp only [Act.put, sa, s0, s1]
          refine wpAnyH_done (by kernel_rfl) ?_ _
          go_wp2_with fail
          obtain ⟨wA, hwA⟩ : ∃ x, x = wC := ⟨_, rfl⟩
          rw [← hwA] at hHeld ⊢
          clear hwA x0 y0 y1 e0 e1 hCl
          have HPA := Hid.mk (HPk.out.under hHeld)
          have hgA := hgk.under hHeld
          have hiA := hik.under hHeld
          have hzA0 : (w.heap.size + 1 + 1 + 1) < wA.heap.size := HPA.out.1.lt
          have hsA := hHeld.size
          have HRx := Hid.mk (rItem_good.below HRi.out (hHeld.mono hbk.size))
          have HRt := Hid.mk (rItem_good.below HRI.out (hbk.trans (hHeld.mono hbk.size)))
          have x0 : ∀ W, Below (w.heap.size + 1 + 1 + 1) wA W → W.cell? ⟨w.heap.size, 0, none⟩ = some (.slice (some ⟨b1, o1, none⟩) n c) := fun W h => (hgA.below h (by omega)).2 0 _ rfl
          have y0 : ∀ W, Below (w.heap.size + 1 + 1 + 1) wA W → W.cell? ⟨w.heap.size + 1, 0, none⟩ = some (.int .i64 it.fD.fR) := fun W h => (hiA.below h (by omega)).2 0 _ rfl
          have y1 : ∀ W, Below (w.heap.size + 1 + 1 + 1) wA W → W.cell? ⟨w.heap.size + 1, 1, none⟩ = some (.int .i64 it.fD.fN) := fun W h => (hiA.below h (by omega)).2 1 _ rfl
          have y2 : ∀ W, Below (w.heap.size + 1 + 1 + 1) wA W → W.cell? ⟨w.heap.size + 1, 2, none⟩ = some (.slice ai it.fDeps.length ci) := fun W h => (hiA.below h (by omega)).2 2 _ rfl
          have e0 : ∀ W, Below (w.heap.size + 1 + 1 + 1) wA W → W.cell? ⟨b1, o1 + k * 3, none⟩ = some (.int .i64 x.fD.fR) := fun W h => (h.cell (p := ⟨b1, o1 + k * 3, none⟩) (show b1 < _ by omega)).trans ((hHeld.cell (p := ⟨b1, o1 + k * 3, none⟩) hB').trans k0)
          have e1 : ∀ W, Below (w.heap.size + 1 + 1 + 1) wA W → W.cell? ⟨b1, o1 + k * 3 + 1, none⟩ = some (.int .i64 x.fD.fN) := fun W h => (h.cell (p := ⟨b1, o1 + k * 3 + 1, none⟩) (show b1 < _ by omega)).trans ((hHeld.cell (p := ⟨b1, o1 + k * 3 + 1, none⟩) hB').trans k1)
          have e2 : ∀ W, Below (w.heap.size + 1 + 1 + 1) wA W → W.cell? ⟨b1, o1 + k * 3 + 2, none⟩ = some (.slice a2 x.fDeps.length c2) := fun W h => (h.cell (p := ⟨b1, o1 + k * 3 + 2, none⟩) (show b1 < _ by omega)).trans ((hHeld.cell (p := ⟨b1, o1 + k * 3 + 2, none⟩) hB').trans k2)
          clear hHeld
          refine wp_region_held_drew (S := fun W => Below (w.heap.size + 1 + 1 + 1) wA W) (by kernel_rfl) (Below.drew (Below.refl _ _)) (fun hHeld => ?_)
          obtain ⟨wS, hwS⟩ : ∃ wS, wS = wA.drew := ⟨_, rfl⟩
          have hSwS : Below (w.heap.size + 1 + 1 + 1) wA wS := by rw [hwS]; exact Below.drew (Below.refl _ _)
          have HPwS : Hid (PutSt (w.heap.size + 1 + 1 + 1) w0 (.slice va lk.length vc) lk F wS) := by rw [hwS]; exact HPA.out.under (Below.drew (Below.refl _ _))
          have hzA : wA.heap.size ≤ wS.heap.size := by rw [hwS]; exact Nat.le_refl _
          rw [← hwS] at hHeld ⊢
          clear hwS
          refine tk 0 q31a_83_9_0 (some 37) (v := ?v52) rfl rfl (by kernel_rfl) hHeld (by rfl) (fun _ _ _ x => x) (fun w h => ?y52) ?_; (case y52 => (try dsimp only at h); go_simp; try (with_reducible rfl)); try simp only [Act.put, sa, s0, s1]
          refine tk 2 q31a_83_9_2 (some 39) (v := ?v53) rfl rfl (by kernel_rfl) hHeld (by rfl) (fun _ _ _ x => x) (fun w h => ?y53) ?_; (case y53 => (try dsimp only at h); go_simp; try (with_reducible rfl)); try simp only [Act.put, sa, s0, s1]
          refine tk 3 q31a_83_9_3 (some 40) (v := ?v54) rfl rfl (by kernel_rfl) hHeld (by rfl) (fun _ _ _ x => x) (fun w h => ?y54) ?_; (case y54 => (try dsimp only at h); go_simp; try (with_reducible rfl)); try simp only [Act.put, sa, s0, s1]
          refine tk 4 q31a_83_9_4 (some 41) (v := ?v55) rfl rfl (by kernel_rfl) hHeld (by rfl) (fun _ _ _ x => x) (fun w h => ?y55) ?_; (case y55 => (try dsimp only at h); go_simp; try (with_reducible rfl)); try simp only [Act.put, sa, s0, s1]
          refine tk 5 q31a_83_9_5 (some 42) (v := ?v56) rfl rfl (by kernel_rfl) hHeld (by rfl) (fun _ _ _ x => x) (fun w h => ?y56) ?_; (case y56 => (try dsimp only at h); go_simp; try (with_reducible rfl)); try simp only [Act.put, sa, s0, s1]
          refine tk 6 q31a_83_9_6 (some 43) (v := ?v57) rfl rfl (by kernel_rfl) hHeld (by rfl) (fun _ _ _ x => x) (fun w h => ?y57) ?_; (case y57 => (try dsimp only at h); go_simp; try (with_reducible rfl)); try simp only [Act.put, sa, s0, s1]
          refine wpAnyH_ready (rs := [1, 7]) (by kernel_rfl) (by simp) ?_
          refine (AllReadyH.cons (o := q31a_83_9_1) rfl (fun K hK => ?_) (AllReadyH.cons (o := q31a_83_9_7) rfl (fun K hK => ?_) AllReadyH.nil))
          · skip
            have yq := HPwS.out.1.cell 0 _ rfl
            go_simp
            obtain ⟨wE1, hq1⟩ : ∃ q, q = wS := ⟨_, rfl⟩
            have HPwE1 : Hid (PutSt (w.heap.size + 1 + 1 + 1) w0 (.slice va lk.length vc) lk F wE1) := by rw [hq1]; exact HPwS
            have hSwE1 : Below (w.heap.size + 1 + 1 + 1) wA wE1 := by rw [hq1]; exact hSwS
            have hop1 : Below wS.heap.size wS wE1 := by rw [hq1]; exact Below.refl _ _
            rw [← hq1]
            clear hq1 yq
            refine hK.out _ _ (hSwE1) (fun hHeld => ?_)
            clear hK K
            try simp only [Act.put, sa, s0, s1]
            refine wpAnyH_ready (rs := [7]) (by kernel_rfl) (by simp) ?_
            refine (AllReadyH.cons (o := q31a_83_9_7) rfl (fun K hK => ?_) AllReadyH.nil)
            · go_simp
              have hpz := HPwE1.out.1.lt
              have hpF := fun b hb => ownS.lt oItem_good HPwE1.out.2.1 b hb
              have hpS := hSwE1
              have hfl := Below.size (show Below wS.heap.size wS wE1 from bthen (Below.refl _ _) hop1)
              refine Calls.mono (l8CopyItem_any _ x wE1 (rItem_good.mono (rItem_good.below HRx.out (hpS.mono (by omega))) (by omega)) hdk) ?_
              rintro e wE7 ⟨cs3, F3, rfl, ho3, hN3, hge3, hop7⟩
              have HPwE7 := Hid.mk (HPwE1.out.under hop7)
              have hSwE7 : Below (w.heap.size + 1 + 1 + 1) wA wE7 := hpS.trans (hop7.mono (by omega))
              have HC3 := Hid.mk ho3
              have HN3 := Hid.mk hN3
              have HG3 : Hid (∀ b, b ∈ F3 → (w.heap.size + 1 + 1 + 1) + 1 ≤ b) := fun b hb => (by have h := hge3 b hb; omega)
              have HDJ : Hid (∀ b, b ∈ F3 → b ∉ F) := fun b hb hbF => (by have h1 := hge3 b hb; have h2 := hpF b hbF; omega)
              obtain ⟨v1, F0, rfl, _, _, hv1, _⟩ := ho3
              obtain ⟨a1, ez1, rfl, _⟩ := ownS.read oDot_good hv1
              clear hv1 hN3 hge3 hpF hpS hfl
              go_wp2_with fail
              refine hK.out _ _ (hSwE7) (fun hHeld => ?_)
              clear hK K
              try simp only [Act.put, sa, s0, s1]
              refine wpAnyH_ready (rs := [8]) (by kernel_rfl) (by simp) ?_
              refine (AllReadyH.cons (o := q31a_83_9_8) rfl (fun K hK => ?_) AllReadyH.nil)
              · go_simp
                have hpz4 := HPwE7.out.1.lt
                obtain ⟨wE8, hq8⟩ : ∃ q, q = wE7.alloc (.cells #[.int .i64 x.fD.fR, .int .i64 x.fD.fN, .slice a1 x.fDeps.length ez1] 52) := ⟨_, rfl⟩
                have hop8 : Below wE7.heap.size wE7 wE8 := by rw [hq8]; exact (Below.refl _ _).alloc (Nat.le_refl _) _
                have HPwE8 := Hid.mk (HPwE7.out.under hop8)
                have hSwE8 : Below (w.heap.size + 1 + 1 + 1) wA wE8 := (hSwE7).trans (hop8.mono (by omega))
                obtain ⟨g4, HG4⟩ : ∃ z, Hid (z = wE7.heap.size) := ⟨_, Hid.mk rfl⟩
                have HB4 : Hid (Bx wE8 g4 [.int .i64 x.fD.fR, .int .i64 x.fD.fN, .slice a1 x.fDeps.length ez1]) := by unfold Hid; rw [HG4.out, hq8]; exact Bx.new _ _ _
                rw [← HG4.out]
                rw [← hq8]
                clear hq8
                refine hK.out _ _ (hSwE8) (fun hHeld => ?_)
                clear hK K
                try simp only [Act.put, sa, s0, s1]
                refine wpAnyH_ready (rs := [9]) (by kernel_rfl) (by simp) ?_
                refine (AllReadyH.cons (o := q31a_83_9_9) rfl (fun K hK => ?_) AllReadyH.nil)
                · skip
                  have HX5 := HB4.out.under (show Below wE8.heap.size wE8 wE8 from Below.refl _ _)
                  have hf3 := (show Below wE7.heap.size wE7 wE8 from bthen (Below.refl _ _) hop8)
                  have hc3 := oItem_good.frame HC3.out (fun b hb => hf3.block b (oItem_good.lt HC3.out b hb))
                  obtain ⟨rs, hox, hnext⟩ := HPwE8.out.app
                  refine step_append_src wE8 rfl _ _ 28 28 rfl 0 52 iT (.agg #[.int .i64 0, .int .i64 0, .slice none 0 0]) 3 40 Tryd.underlying28 HIT.out.1 HIT.out.2.1 HIT.out.2.2.1 HIT.out.2.2.2 rfl (.slice va lk.length vc) (lk).length rs rfl hox (.slice (some ⟨g4, 0, none⟩) 1 1) rfl 1 _ (Src.item Tryd.underlying28 HX5) (by unfold maxLen; omega) (by omega) (Nat.zero_le _) ?_
                  intro v5 wE9 ho5 hgr5 hat5
                  obtain ⟨ln, HLn⟩ : ∃ z : List MItem, Hid (z = lk ++ [x]) := ⟨_, Hid.mk rfl⟩
                  obtain ⟨Fn, an, cn, rfl, hn5, hb5, hl5⟩ := hnext wE9 v5 _ x F3 ho5 hgr5 hat5 hc3 HN3.out HDJ.out HG3.out ln HLn.out
                  have HNn := Hid.mk hn5
                  have hSwE9 : Below (w.heap.size + 1 + 1 + 1) wA wE9 := (by have hpS := hSwE8; have hpz5 := HPwE8.out.1.lt; exact hpS.grown hgr5 (by omega) (fun k hk => by have := HPwE8.out.2.2.2.1 k (ownS.blk HPwE8.out.2.1 k hk); omega))
                  have q1 := hb5.cell 0 _ rfl
                  have qf := hb5.free 0
                  have ql := hb5.lt
                  clear ho5 hgr5 hat5 hc3 hn5 hb5 hl5 hox hnext
                  refine hK.out _ _ (hSwE9) (fun hHeld => ?_)
                  clear hK K
                  try simp only [Act.put, sa, s0, s1]
                  refine tk 10 q31a_83_9_10 (some 47) (v := ?v58) rfl rfl (by kernel_rfl) hHeld (by rfl) (fun _ _ _ x => x) (fun w h => ?y58) ?_; (case y58 => (try dsimp only at h); go_simp; try (with_reducible rfl)); try simp only [Act.put, sa, s0, s1]
                  refine wpAnyH_ready (rs := [11]) (by kernel_rfl) (by simp) ?_
                  refine (AllReadyH.cons (o := q31a_83_9_11) rfl (fun K hK => ?_) AllReadyH.nil)
                  · go_simp
                    obtain ⟨wE11, hq11⟩ : ∃ q, q = wE9.setCell ⟨w.heap.size + 1 + 1 + 1, 0, none⟩ (.slice an ln.length cn) := ⟨_, rfl⟩
                    rw [← hq11] at HNn
                    have hSwE11 : Below (w.heap.size + 1 + 1 + 1) wA wE11 := by rw [hq11]; exact hSwE9.setCell (Nat.le_refl _) _
                    obtain ⟨wn, hwn⟩ : ∃ q, q = wE11 := ⟨_, rfl⟩
                    rw [← hq11]
                    clear hq11 q1 qf ql
                    refine hK.out _ _ (hSwE11) (fun hHeld => ?_)
                    clear hK K
                    try simp only [Act.put, sa, s0, s1]
                    refine wpAnyH_done (by kernel_rfl) ?_ _
                    rw [← hwn] at HNn ⊢
                    clear hwn
                    go_wp2_with fail
                    go_roundw
                    case rel => exact ⟨k + 1, an, cn, Fn, by omega, by go_num, by rw [HD9.out], by rw [HSn.out, ← HLn.out]; exact HNn⟩
                    case measure => simp [intOf]; omega
          · go_simp
            have hpz := HPwS.out.1.lt
            have hpF := fun b hb => ownS.lt oItem_good HPwS.out.2.1 b hb
            have hpS := hSwS
            have hfl := Below.size (show Below wS.heap.size wS wS from Below.refl _ _)
            refine Calls.mono (l8CopyItem_any _ x wS (rItem_good.mono (rItem_good.below HRx.out (hpS.mono (by omega))) (by omega)) hdk) ?_
            rintro e wE7 ⟨cs3, F3, rfl, ho3, hN3, hge3, hop7⟩
            have HPwE7 := Hid.mk (HPwS.out.under hop7)
            have hSwE7 : Below (w.heap.size + 1 + 1 + 1) wA wE7 := hpS.trans (hop7.mono (by omega))
            have HC3 := Hid.mk ho3
            have HN3 := Hid.mk hN3
            have HG3 : Hid (∀ b, b ∈ F3 → (w.heap.size + 1 + 1 + 1) + 1 ≤ b) := fun b hb => (by have h := hge3 b hb; omega)
            have HDJ : Hid (∀ b, b ∈ F3 → b ∉ F) := fun b hb hbF => (by have h1 := hge3 b hb; have h2 := hpF b hbF; omega)
            obtain ⟨v1, F0, rfl, _, _, hv1, _⟩ := ho3
            obtain ⟨a1, ez1, rfl, _⟩ := ownS.read oDot_good hv1
            clear hv1 hN3 hge3 hpF hpS hfl
            go_wp2_with fail
            refine hK.out _ _ (hSwE7) (fun hHeld => ?_)
            clear hK K
            try simp only [Act.put, sa, s0, s1]
            refine wpAnyH_ready (rs := [1, 8]) (by kernel_rfl) (by simp) ?_
            refine (AllReadyH.cons (o := q31a_83_9_1) rfl (fun K hK => ?_) (AllReadyH.cons (o := q31a_83_9_8) rfl (fun K hK => ?_) AllReadyH.nil))
            · skip
              have yq := HPwE7.out.1.cell 0 _ rfl
              go_simp
              obtain ⟨wE1, hq1⟩ : ∃ q, q = wE7 := ⟨_, rfl⟩
              have HPwE1 : Hid (PutSt (w.heap.size + 1 + 1 + 1) w0 (.slice va lk.length vc) lk F wE1) := by rw [hq1]; exact HPwE7
              have hSwE1 : Below (w.heap.size + 1 + 1 + 1) wA wE1 := by rw [hq1]; exact hSwE7
              have hop1 : Below wE7.heap.size wE7 wE1 := by rw [hq1]; exact Below.refl _ _
              rw [← hq1]
              clear hq1 yq
              refine hK.out _ _ (hSwE1) (fun hHeld => ?_)
              clear hK K
              try simp only [Act.put, sa, s0, s1]
              refine wpAnyH_ready (rs := [8]) (by kernel_rfl) (by simp) ?_
              refine (AllReadyH.cons (o := q31a_83_9_8) rfl (fun K hK => ?_) AllReadyH.nil)
              · go_simp
                have hpz4 := HPwE1.out.1.lt
                obtain ⟨wE8, hq8⟩ : ∃ q, q = wE1.alloc (.cells #[.int .i64 x.fD.fR, .int .i64 x.fD.fN, .slice a1 x.fDeps.length ez1] 52) := ⟨_, rfl⟩
                have hop8 : Below wE1.heap.size wE1 wE8 := by rw [hq8]; exact (Below.refl _ _).alloc (Nat.le_refl _) _
                have HPwE8 := Hid.mk (HPwE1.out.under hop8)
                have hSwE8 : Below (w.heap.size + 1 + 1 + 1) wA wE8 := (hSwE1).trans (hop8.mono (by omega))
                obtain ⟨g4, HG4⟩ : ∃ z, Hid (z = wE1.heap.size) := ⟨_, Hid.mk rfl⟩
                have HB4 : Hid (Bx wE8 g4 [.int .i64 x.fD.fR, .int .i64 x.fD.fN, .slice a1 x.fDeps.length ez1]) := by unfold Hid; rw [HG4.out, hq8]; exact Bx.new _ _ _
                rw [← HG4.out]
                rw [← hq8]
                clear hq8
                refine hK.out _ _ (hSwE8) (fun hHeld => ?_)
                clear hK K
                try simp only [Act.put, sa, s0, s1]
                refine wpAnyH_ready (rs := [9]) (by kernel_rfl) (by simp) ?_
                refine (AllReadyH.cons (o := q31a_83_9_9) rfl (fun K hK => ?_) AllReadyH.nil)
                · skip
                  have HX5 := HB4.out.under (show Below wE8.heap.size wE8 wE8 from Below.refl _ _)
                  have hf3 := (show Below wE7.heap.size wE7 wE8 from bthen (bthen (Below.refl _ _) hop1) hop8)
                  have hc3 := oItem_good.frame HC3.out (fun b hb => hf3.block b (oItem_good.lt HC3.out b hb))
                  obtain ⟨rs, hox, hnext⟩ := HPwE8.out.app
                  refine step_append_src wE8 rfl _ _ 28 28 rfl 0 52 iT (.agg #[.int .i64 0, .int .i64 0, .slice none 0 0]) 3 40 Tryd.underlying28 HIT.out.1 HIT.out.2.1 HIT.out.2.2.1 HIT.out.2.2.2 rfl (.slice va lk.length vc) (lk).length rs rfl hox (.slice (some ⟨g4, 0, none⟩) 1 1) rfl 1 _ (Src.item Tryd.underlying28 HX5) (by unfold maxLen; omega) (by omega) (Nat.zero_le _) ?_
                  intro v5 wE9 ho5 hgr5 hat5
                  obtain ⟨ln, HLn⟩ : ∃ z : List MItem, Hid (z = lk ++ [x]) := ⟨_, Hid.mk rfl⟩
                  obtain ⟨Fn, an, cn, rfl, hn5, hb5, hl5⟩ := hnext wE9 v5 _ x F3 ho5 hgr5 hat5 hc3 HN3.out HDJ.out HG3.out ln HLn.out
                  have HNn := Hid.mk hn5
                  have hSwE9 : Below (w.heap.size + 1 + 1 + 1) wA wE9 := (by have hpS := hSwE8; have hpz5 := HPwE8.out.1.lt; exact hpS.grown hgr5 (by omega) (fun k hk => by have := HPwE8.out.2.2.2.1 k (ownS.blk HPwE8.out.2.1 k hk); omega))
                  have q1 := hb5.cell 0 _ rfl
                  have qf := hb5.free 0
                  have ql := hb5.lt
                  clear ho5 hgr5 hat5 hc3 hn5 hb5 hl5 hox hnext
                  refine hK.out _ _ (hSwE9) (fun hHeld => ?_)
                  clear hK K
                  try simp only [Act.put, sa, s0, s1]
                  refine tk 10 q31a_83_9_10 (some 47) (v := ?v59) rfl rfl (by kernel_rfl) hHeld (by rfl) (fun _ _ _ x => x) (fun w h => ?y59) ?_; (case y59 => (try dsimp only at h); go_simp; try (with_reducible rfl)); try simp only [Act.put, sa, s0, s1]
                  refine wpAnyH_ready (rs := [11]) (by kernel_rfl) (by simp) ?_
                  refine (AllReadyH.cons (o := q31a_83_9_11) rfl (fun K hK => ?_) AllReadyH.nil)
                  · go_simp
                    obtain ⟨wE11, hq11⟩ : ∃ q, q = wE9.setCell ⟨w.heap.size + 1 + 1 + 1, 0, none⟩ (.slice an ln.length cn) := ⟨_, rfl⟩
                    rw [← hq11] at HNn
                    have hSwE11 : Below (w.heap.size + 1 + 1 + 1) wA wE11 := by rw [hq11]; exact hSwE9.setCell (Nat.le_refl _) _
                    obtain ⟨wn, hwn⟩ : ∃ q, q = wE11 := ⟨_, rfl⟩
                    rw [← hq11]
                    clear hq11 q1 qf ql
                    refine hK.out _ _ (hSwE11) (fun hHeld => ?_)
                    clear hK K
                    try simp only [Act.put, sa, s0, s1]
                    refine wpAnyH_done (by kernel_rfl) ?_ _
                    rw [← hwn] at HNn ⊢
                    clear hwn
                    go_wp2_with fail
                    go_roundw
                    case rel => exact ⟨k + 1, an, cn, Fn, by omega, by go_num, by rw [HD9.out], by rw [HSn.out, ← HLn.out]; exact HNn⟩
                    case measure => simp [intOf]; omega
            · go_simp
              have hpz4 := HPwE7.out.1.lt
              obtain ⟨wE8, hq8⟩ : ∃ q, q = wE7.alloc (.cells #[.int .i64 x.fD.fR, .int .i64 x.fD.fN, .slice a1 x.fDeps.length ez1] 52) := ⟨_, rfl⟩
              have hop8 : Below wE7.heap.size wE7 wE8 := by rw [hq8]; exact (Below.refl _ _).alloc (Nat.le_refl _) _
              have HPwE8 := Hid.mk (HPwE7.out.under hop8)
              have hSwE8 : Below (w.heap.size + 1 + 1 + 1) wA wE8 := (hSwE7).trans (hop8.mono (by omega))
              obtain ⟨g4, HG4⟩ : ∃ z, Hid (z = wE7.heap.size) := ⟨_, Hid.mk rfl⟩
              have HB4 : Hid (Bx wE8 g4 [.int .i64 x.fD.fR, .int .i64 x.fD.fN, .slice a1 x.fDeps.length ez1]) := by unfold Hid; rw [HG4.out, hq8]; exact Bx.new _ _ _
              rw [← HG4.out]
              rw [← hq8]
              clear hq8
              refine hK.out _ _ (hSwE8) (fun hHeld => ?_)
              clear hK K
              try simp only [Act.put, sa, s0, s1]
              refine wpAnyH_ready (rs := [1]) (by kernel_rfl) (by simp) ?_
              refine (AllReadyH.cons (o := q31a_83_9_1) rfl (fun K hK => ?_) AllReadyH.nil)
              · skip
                have yq := HPwE8.out.1.cell 0 _ rfl
                go_simp
                obtain ⟨wE1, hq1⟩ : ∃ q, q = wE8 := ⟨_, rfl⟩
                have HPwE1 : Hid (PutSt (w.heap.size + 1 + 1 + 1) w0 (.slice va lk.length vc) lk F wE1) := by rw [hq1]; exact HPwE8
                have hSwE1 : Below (w.heap.size + 1 + 1 + 1) wA wE1 := by rw [hq1]; exact hSwE8
                have hop1 : Below wE8.heap.size wE8 wE1 := by rw [hq1]; exact Below.refl _ _
                rw [← hq1]
                clear hq1 yq
                refine hK.out _ _ (hSwE1) (fun hHeld => ?_)
                clear hK K
                try simp only [Act.put, sa, s0, s1]
                refine wpAnyH_ready (rs := [9]) (by kernel_rfl) (by simp) ?_
                refine (AllReadyH.cons (o := q31a_83_9_9) rfl (fun K hK => ?_) AllReadyH.nil)
                · skip
                  have HX5 := HB4.out.under (show Below wE8.heap.size wE8 wE1 from bthen (Below.refl _ _) hop1)
                  have hf3 := (show Below wE7.heap.size wE7 wE1 from bthen (bthen (Below.refl _ _) hop8) hop1)
                  have hc3 := oItem_good.frame HC3.out (fun b hb => hf3.block b (oItem_good.lt HC3.out b hb))
                  obtain ⟨rs, hox, hnext⟩ := HPwE1.out.app
                  refine step_append_src wE1 rfl _ _ 28 28 rfl 0 52 iT (.agg #[.int .i64 0, .int .i64 0, .slice none 0 0]) 3 40 Tryd.underlying28 HIT.out.1 HIT.out.2.1 HIT.out.2.2.1 HIT.out.2.2.2 rfl (.slice va lk.length vc) (lk).length rs rfl hox (.slice (some ⟨g4, 0, none⟩) 1 1) rfl 1 _ (Src.item Tryd.underlying28 HX5) (by unfold maxLen; omega) (by omega) (Nat.zero_le _) ?_
                  intro v5 wE9 ho5 hgr5 hat5
                  obtain ⟨ln, HLn⟩ : ∃ z : List MItem, Hid (z = lk ++ [x]) := ⟨_, Hid.mk rfl⟩
                  obtain ⟨Fn, an, cn, rfl, hn5, hb5, hl5⟩ := hnext wE9 v5 _ x F3 ho5 hgr5 hat5 hc3 HN3.out HDJ.out HG3.out ln HLn.out
                  have HNn := Hid.mk hn5
                  have hSwE9 : Below (w.heap.size + 1 + 1 + 1) wA wE9 := (by have hpS := hSwE1; have hpz5 := HPwE1.out.1.lt; exact hpS.grown hgr5 (by omega) (fun k hk => by have := HPwE1.out.2.2.2.1 k (ownS.blk HPwE1.out.2.1 k hk); omega))
                  have q1 := hb5.cell 0 _ rfl
                  have qf := hb5.free 0
                  have ql := hb5.lt
                  clear ho5 hgr5 hat5 hc3 hn5 hb5 hl5 hox hnext
                  refine hK.out _ _ (hSwE9) (fun hHeld => ?_)
                  clear hK K
                  try simp only [Act.put, sa, s0, s1]
                  refine tk 10 q31a_83_9_10 (some 47) (v := ?v60) rfl rfl (by kernel_rfl) hHeld (by rfl) (fun _ _ _ x => x) (fun w h => ?y60) ?_; (case y60 => (try dsimp only at h); go_simp; try (with_reducible rfl)); try simp only [Act.put, sa, s0, s1]
                  refine wpAnyH_ready (rs := [11]) (by kernel_rfl) (by simp) ?_
                  refine (AllReadyH.cons (o := q31a_83_9_11) rfl (fun K hK => ?_) AllReadyH.nil)
                  · go_simp
                    obtain ⟨wE11, hq11⟩ : ∃ q, q = wE9.setCell ⟨w.heap.size + 1 + 1 + 1, 0, none⟩ (.slice an ln.length cn) := ⟨_, rfl⟩
                    rw [← hq11] at HNn
                    have hSwE11 : Below (w.heap.size + 1 + 1 + 1) wA wE11 := by rw [hq11]; exact hSwE9.setCell (Nat.le_refl _) _
                    obtain ⟨wn, hwn⟩ : ∃ q, q = wE11 := ⟨_, rfl⟩
                    rw [← hq11]
                    clear hq11 q1 qf ql
                    refine hK.out _ _ (hSwE11) (fun hHeld => ?_)
                    clear hK K
                    try simp only [Act.put, sa, s0, s1]
                    refine wpAnyH_done (by kernel_rfl) ?_ _
                    rw [← hwn] at HNn ⊢
                    clear hwn
                    go_wp2_with fail
                    go_roundw
                    case rel => exact ⟨k + 1, an, cn, Fn, by omega, by go_num, by rw [HD9.out], by rw [HSn.out, ← HLn.out]; exact HNn⟩
                    case measure => simp [intOf]; omega
    · have hkn : n = k := by omega
      subst hkn
      by_cases hqk : q < n
      · have hd1 : decide (q < n) = true := decide_eq_true hqk
        rw [hd1]
        have HE : Hid (outP l q it n = insAt l q it) := by unfold Hid; rw [← HX.out]; exact outP_end (by rw [HX.out]; exact hqk)
        rw [HE.out] at HPk
        have hBW := HPk.out.2.2.2.2.1
        have hzW : (w.heap.size + 1 + 1 + 1) < wr.heap.size := HPk.out.1.lt
        have hbW : Below w.heap.size w wr := hb0.trans (hBW.mono (by omega))
        have hgW := hbg.below hBW (by omega)
        have hiW := hbi.below hBW (by omega)
        have hrW := hbr.below hBW (by omega)
        have j0 := hgW.2 0 _ rfl
        have j1 := hiW.2 0 _ rfl
        have j2 := hiW.2 1 _ rfl
        have j3 := HPk.out.1.cell 0 _ rfl
        go_wp2_with fail
        refine (l8At_any [.slice a n c] m [.int .i64 it.fD.fR, .int .i64 it.fD.fN] it.fD wr (rGraph_good.mono (rGraph_good.below HRG.out hbW) hbW.size) HNM.out ⟨rfl, i0, i1, trivial⟩).mono ?_
        rintro e w5 ⟨z, rfl, hAt, hx5⟩
        rw [← HLM.out] at hAt
        have HAT := Hid.mk hAt.has
        clear hAt j0 j1 j2 j3
        have hb5 := bthen hbW hx5
        have hg5 := hgW.under hx5
        have hr5 := hrW.under hx5
        have HP5 := Hid.mk (HPk.out.under hx5)
        have j0 := hg5.2 0 _ rfl
        have j3 := HP5.out.1.cell 0 _ rfl
        have hz5 := HP5.out.1.lt
        by_cases hz : 0 ≤ z
        · have HOF : Hid (ok = false) := by unfold Hid; rw [HOK.out, ← HAT.out, decide_eq_true hz]; rfl
          have HPG := Hid.mk (HPF.out HOF.out)
          go_wp2_with fail
          refine (l8Copy_any [.slice a n c] m w5 (rGraph_good.mono (rGraph_good.below HRG.out hb5) hb5.size) HNM.out HDM.out).mono ?_
          rintro e w8 ⟨v8, F8, rfl, ho8, hN8, hge8, hx8⟩
          obtain ⟨a8, c8, rfl, _⟩ := id (ownS.read oItem_good ho8)
          have HO8 := Hid.mk ho8
          have HG8 := Hid.mk hge8
          clear ho8 hge8
          have hb8 := bthen hb5 hx8
          have hr8 := hr5.under hx8
          have s2 := hr8.cell 0 _ rfl
          have s3 := hr8.free 0
          have s4 := hr8.lt
          go_wp2_with fail
          refine bodyPost_ret (v := .tuple #[.agg #[.slice a8 m.fItems.length c8], .bool false]) (by simp [results, Tryd.results83, go_sem, *]) rfl ⟨[.slice a8 m.fItems.length c8], by first | rfl | rw [HOF.out], ?_, hb8.setCell (by simp; omega) _⟩
          rw [HPG.out]
          have h8 := ownS.frame oItem_good HO8.out (fun b hb => heap_setCell_other w8 ⟨w.heap.size + 1 + 1, 0, none⟩ b (.slice a8 m.fItems.length c8) (by have h := HG8.out b hb; have h2 := (hx5).size; show b ≠ w.heap.size + 1 + 1; omega))
          exact OutG.mk' h8 hN8 (fun b hb => by have h := HG8.out b hb; omega)
        · have hza : decide (0 ≤ z) = false := decide_eq_false hz
          have HOG : Hid (ok = graphP ⟨insAt l q it⟩) := by unfold Hid; rw [HOK.out, ← HAT.out, hza]; rfl
          obtain ⟨a9, c9, he9, hL9⟩ := ownS.read oItem_good HP5.out.2.1
          simp only [Value.slice.injEq, true_and] at he9
          obtain ⟨rfl, rfl⟩ := he9
          have HWI : Hid (wGraph ⟨insAt l q it⟩ ≤ 1048576 * 4) := by
            have h1 := sumW_ins (l := l) (p := q) (it := it) wItem
            have h2 : wItem it ≤ 1048576 := HWIT.out
            have h3 : (insAt l q it).length = l.length + 1 := insAt_length (by rw [HX.out]; exact hqn)
            have h4 := HX.out
            show (insAt l q it).length + sumW wItem (insAt l q it) ≤ _
            omega
          have HDI : Hid (∀ k, (h : k < (insAt l q it).length) → (insAt l q it)[k].fDeps.length ≤ 1048576) := ins_deps HDm.out hdi
          go_wp2_with fail
          refine (specGraphOk_any [.slice va (insAt l q it).length vc] ⟨insAt l q it⟩ w5 ⟨_, _, rfl, hL9, trivial⟩ HWI.out HDI.out).mono ?_
          rw [← HOG.out]
          rintro e w6 ⟨rfl, hx6⟩
          have hb6 := bthen hb5 hx6
          have hg6 := hg5.under hx6
          have hr6 := hr5.under hx6
          have HP6 := Hid.mk (HP5.out.under hx6)
          clear j0 j3 hL9
          have j0 := hg6.2 0 _ rfl
          have j3 := HP6.out.1.cell 0 _ rfl
          have s2 := hr6.cell 0 _ rfl
          have s3 := hr6.free 0
          have s4 := hr6.lt
          have hz6 := HP6.out.1.lt
          by_cases hok : ok = true
          · have HPG := Hid.mk (HPT.out hok)
            subst hok
            go_wp2_with fail
            refine bodyPost_ret (v := .tuple #[.agg #[.slice va (insAt l q it).length vc], .bool true]) (by simp [results, Tryd.results83, go_sem, *]) rfl ⟨[.slice va (insAt l q it).length vc], rfl, ?_, hb6.setCell (by simp; omega) _⟩
            rw [HPG.out]
            have h8 := ownS.frame oItem_good HP6.out.2.1 (fun b hb => heap_setCell_other w6 ⟨w.heap.size + 1 + 1, 0, none⟩ b (.slice va (insAt l q it).length vc) (by have h := HP6.out.2.2.2.1 b hb; show b ≠ w.heap.size + 1 + 1; omega))
            exact OutG.mk' h8 HP6.out.2.2.1 (fun b hb => by have h := HP6.out.2.2.2.1 b hb; omega)
          · have hokf : ok = false := Bool.eq_false_iff.2 hok
            subst hokf
            have HOF : Hid (false = false) := rfl
            clear s2 s3 s4 hok
            have HPG := Hid.mk (HPF.out HOF.out)
            go_wp2_with fail
            refine (l8Copy_any [.slice a n c] m w6 (rGraph_good.mono (rGraph_good.below HRG.out hb6) hb6.size) HNM.out HDM.out).mono ?_
            rintro e w8 ⟨v8, F8, rfl, ho8, hN8, hge8, hx8⟩
            obtain ⟨a8, c8, rfl, _⟩ := id (ownS.read oItem_good ho8)
            have HO8 := Hid.mk ho8
            have HG8 := Hid.mk hge8
            clear ho8 hge8
            have hb8 := bthen hb6 hx8
            have hr8 := hr6.under hx8
            have s2 := hr8.cell 0 _ rfl
            have s3 := hr8.free 0
            have s4 := hr8.lt
            go_wp2_with fail
            refine bodyPost_ret (v := .tuple #[.agg #[.slice a8 m.fItems.length c8], .bool false]) (by simp [results, Tryd.results83, go_sem, *]) rfl ⟨[.slice a8 m.fItems.length c8], by first | rfl | rw [HOF.out], ?_, hb8.setCell (by simp; omega) _⟩
            rw [HPG.out]
            have h8 := ownS.frame oItem_good HO8.out (fun b hb => heap_setCell_other w8 ⟨w.heap.size + 1 + 1, 0, none⟩ b (.slice a8 m.fItems.length c8) (by have h := HG8.out b hb; have h2 := ((bthen hx5 hx6)).size; show b ≠ w.heap.size + 1 + 1; omega))
            exact OutG.mk' h8 hN8 (fun b hb => by have h := HG8.out b hb; omega)
      · have hd1 : decide (q < n) = false := decide_eq_false hqk
        rw [hd1]
        have hqe : q = n := by omega
        have HE : Hid (outP l q it n ++ [it] = insAt l q it) := by unfold Hid; rw [← HX.out]; exact outP_last (by rw [HX.out]; exact hqe)
        clear hqe
        generalize outP l q it n = lk at *
        have HRt := Hid.mk (rItem_good.below HRI.out hbk)
        have y0 : ∀ W, Below (w.heap.size + 1 + 1 + 1) wr W → W.cell? ⟨w.heap.size + 1, 0, none⟩ = some (.int .i64 it.fD.fR) := fun W h => (hik.below h (by omega)).2 0 _ rfl
        have y1 : ∀ W, Below (w.heap.size + 1 + 1 + 1) wr W → W.cell? ⟨w.heap.size + 1, 1, none⟩ = some (.int .i64 it.fD.fN) := fun W h => (hik.below h (by omega)).2 1 _ rfl
        have y2 : ∀ W, Below (w.heap.size + 1 + 1 + 1) wr W → W.cell? ⟨w.heap.size + 1, 2, none⟩ = some (.slice ai it.fDeps.length ci) := fun W h => (hik.below h (by omega)).2 2 _ rfl
        go_wp2_with fail
        refine wp_region_held_drew (S := fun W => Below (w.heap.size + 1 + 1 + 1) wr W) (by kernel_rfl) (Below.drew (Below.refl _ _)) (fun hHeld => ?_)
        obtain ⟨wS, hwS⟩ : ∃ wS, wS = wr.drew := ⟨_, rfl⟩
        have hSwS : Below (w.heap.size + 1 + 1 + 1) wr wS := by rw [hwS]; exact Below.drew (Below.refl _ _)
        have HPwS : Hid (PutSt (w.heap.size + 1 + 1 + 1) w0 (.slice va lk.length vc) lk F wS) := by rw [hwS]; exact HPk.out.under (Below.drew (Below.refl _ _))
        have hzA : wr.heap.size ≤ wS.heap.size := by rw [hwS]; exact Nat.le_refl _
        rw [← hwS] at hHeld ⊢
        clear hwS
        refine tk 0 q31a_83_11_0 (some 50) (v := ?v61) rfl rfl (by kernel_rfl) hHeld (by rfl) (fun _ _ _ x => x) (fun w h => ?y61) ?_; (case y61 => (try dsimp only at h); go_simp; try (with_reducible rfl)); try simp only [Act.put, sa, s0, s1]
        refine tk 2 q31a_83_11_2 (some 52) (v := ?v62) rfl rfl (by kernel_rfl) hHeld (by rfl) (fun _ _ _ x => x) (fun w h => ?y62) ?_; (case y62 => (try dsimp only at h); go_simp; try (with_reducible rfl)); try simp only [Act.put, sa, s0, s1]
        refine wpAnyH_ready (rs := [1, 3]) (by kernel_rfl) (by simp) ?_
        refine (AllReadyH.cons (o := q31a_83_11_1) rfl (fun K hK => ?_) (AllReadyH.cons (o := q31a_83_11_3) rfl (fun K hK => ?_) AllReadyH.nil))
        · skip
          have yq := HPwS.out.1.cell 0 _ rfl
          go_simp
          obtain ⟨wE1, hq1⟩ : ∃ q, q = wS := ⟨_, rfl⟩
          have HPwE1 : Hid (PutSt (w.heap.size + 1 + 1 + 1) w0 (.slice va lk.length vc) lk F wE1) := by rw [hq1]; exact HPwS
          have hSwE1 : Below (w.heap.size + 1 + 1 + 1) wr wE1 := by rw [hq1]; exact hSwS
          have hop1 : Below wS.heap.size wS wE1 := by rw [hq1]; exact Below.refl _ _
          rw [← hq1]
          clear hq1 yq
          refine hK.out _ _ (hSwE1) (fun hHeld => ?_)
          clear hK K
          try simp only [Act.put, sa, s0, s1]
          refine wpAnyH_ready (rs := [3]) (by kernel_rfl) (by simp) ?_
          refine (AllReadyH.cons (o := q31a_83_11_3) rfl (fun K hK => ?_) AllReadyH.nil)
          · go_simp
            have hpz := HPwE1.out.1.lt
            have hpF := fun b hb => ownS.lt oItem_good HPwE1.out.2.1 b hb
            have hpS := hSwE1
            have hfl := Below.size (show Below wS.heap.size wS wE1 from bthen (Below.refl _ _) hop1)
            refine Calls.mono (l8CopyItem_any _ it wE1 (rItem_good.mono (rItem_good.below HRt.out (hpS.mono (by omega))) (by omega)) hdi) ?_
            rintro e wE3 ⟨cs3, F3, rfl, ho3, hN3, hge3, hop3⟩
            have HPwE3 := Hid.mk (HPwE1.out.under hop3)
            have hSwE3 : Below (w.heap.size + 1 + 1 + 1) wr wE3 := hpS.trans (hop3.mono (by omega))
            have HC3 := Hid.mk ho3
            have HN3 := Hid.mk hN3
            have HG3 : Hid (∀ b, b ∈ F3 → (w.heap.size + 1 + 1 + 1) + 1 ≤ b) := fun b hb => (by have h := hge3 b hb; omega)
            have HDJ : Hid (∀ b, b ∈ F3 → b ∉ F) := fun b hb hbF => (by have h1 := hge3 b hb; have h2 := hpF b hbF; omega)
            obtain ⟨v1, F0, rfl, _, _, hv1, _⟩ := ho3
            obtain ⟨a1, ez1, rfl, _⟩ := ownS.read oDot_good hv1
            clear hv1 hN3 hge3 hpF hpS hfl
            go_wp2_with fail
            refine hK.out _ _ (hSwE3) (fun hHeld => ?_)
            clear hK K
            try simp only [Act.put, sa, s0, s1]
            refine wpAnyH_ready (rs := [4]) (by kernel_rfl) (by simp) ?_
            refine (AllReadyH.cons (o := q31a_83_11_4) rfl (fun K hK => ?_) AllReadyH.nil)
            · go_simp
              have hpz4 := HPwE3.out.1.lt
              obtain ⟨wE4, hq4⟩ : ∃ q, q = wE3.alloc (.cells #[.int .i64 it.fD.fR, .int .i64 it.fD.fN, .slice a1 it.fDeps.length ez1] 52) := ⟨_, rfl⟩
              have hop4 : Below wE3.heap.size wE3 wE4 := by rw [hq4]; exact (Below.refl _ _).alloc (Nat.le_refl _) _
              have HPwE4 := Hid.mk (HPwE3.out.under hop4)
              have hSwE4 : Below (w.heap.size + 1 + 1 + 1) wr wE4 := (hSwE3).trans (hop4.mono (by omega))
              obtain ⟨g4, HG4⟩ : ∃ z, Hid (z = wE3.heap.size) := ⟨_, Hid.mk rfl⟩
              have HB4 : Hid (Bx wE4 g4 [.int .i64 it.fD.fR, .int .i64 it.fD.fN, .slice a1 it.fDeps.length ez1]) := by unfold Hid; rw [HG4.out, hq4]; exact Bx.new _ _ _
              rw [← HG4.out]
              rw [← hq4]
              clear hq4
              refine hK.out _ _ (hSwE4) (fun hHeld => ?_)
              clear hK K
              try simp only [Act.put, sa, s0, s1]
              refine wpAnyH_ready (rs := [5]) (by kernel_rfl) (by simp) ?_
              refine (AllReadyH.cons (o := q31a_83_11_5) rfl (fun K hK => ?_) AllReadyH.nil)
              · skip
                have HX5 := HB4.out.under (show Below wE4.heap.size wE4 wE4 from Below.refl _ _)
                have hf3 := (show Below wE3.heap.size wE3 wE4 from bthen (Below.refl _ _) hop4)
                have hc3 := oItem_good.frame HC3.out (fun b hb => hf3.block b (oItem_good.lt HC3.out b hb))
                obtain ⟨rs, hox, hnext⟩ := HPwE4.out.app
                refine step_append_src wE4 rfl _ _ 28 28 rfl 0 52 iT (.agg #[.int .i64 0, .int .i64 0, .slice none 0 0]) 3 40 Tryd.underlying28 HIT.out.1 HIT.out.2.1 HIT.out.2.2.1 HIT.out.2.2.2 rfl (.slice va lk.length vc) (lk).length rs rfl hox (.slice (some ⟨g4, 0, none⟩) 1 1) rfl 1 _ (Src.item Tryd.underlying28 HX5) (by unfold maxLen; omega) (by omega) (Nat.zero_le _) ?_
                intro v5 wE5 ho5 hgr5 hat5
                obtain ⟨lp, HLp⟩ : ∃ z : List MItem, Hid (z = lk ++ [it]) := ⟨_, Hid.mk rfl⟩
                obtain ⟨Fp, ap, cp, rfl, hn5, hb5, hl5⟩ := hnext wE5 v5 _ it F3 ho5 hgr5 hat5 hc3 HN3.out HDJ.out HG3.out lp HLp.out
                have HNp := Hid.mk hn5
                have hSwE5 : Below (w.heap.size + 1 + 1 + 1) wr wE5 := (by have hpS := hSwE4; have hpz5 := HPwE4.out.1.lt; exact hpS.grown hgr5 (by omega) (fun k hk => by have := HPwE4.out.2.2.2.1 k (ownS.blk HPwE4.out.2.1 k hk); omega))
                have q1 := hb5.cell 0 _ rfl
                have qf := hb5.free 0
                have ql := hb5.lt
                clear ho5 hgr5 hat5 hc3 hn5 hb5 hl5 hox hnext
                refine hK.out _ _ (hSwE5) (fun hHeld => ?_)
                clear hK K
                try simp only [Act.put, sa, s0, s1]
                refine tk 6 q31a_83_11_6 (some 56) (v := ?v63) rfl rfl (by kernel_rfl) hHeld (by rfl) (fun _ _ _ x => x) (fun w h => ?y63) ?_; (case y63 => (try dsimp only at h); go_simp; try (with_reducible rfl)); try simp only [Act.put, sa, s0, s1]
                refine wpAnyH_ready (rs := [7]) (by kernel_rfl) (by simp) ?_
                refine (AllReadyH.cons (o := q31a_83_11_7) rfl (fun K hK => ?_) AllReadyH.nil)
                · go_simp
                  obtain ⟨wE7, hq7⟩ : ∃ q, q = wE5.setCell ⟨w.heap.size + 1 + 1 + 1, 0, none⟩ (.slice ap lp.length cp) := ⟨_, rfl⟩
                  rw [← hq7] at HNp
                  have hSwE7 : Below (w.heap.size + 1 + 1 + 1) wr wE7 := by rw [hq7]; exact hSwE5.setCell (Nat.le_refl _) _
                  obtain ⟨wp, hwp⟩ : ∃ q, q = wE7 := ⟨_, rfl⟩
                  rw [← hq7]
                  clear hq7 q1 qf ql
                  refine hK.out _ _ (hSwE7) (fun hHeld => ?_)
                  clear hK K
                  try simp only [Act.put, sa, s0, s1]
                  refine wpAnyH_done (by kernel_rfl) ?_ _
                  have hlp : lp = insAt l q it := by rw [HLp.out]; exact HE.out
                  clear HLp
                  subst hlp
                  rw [← hwp] at HNp ⊢
                  clear hwp y0 y1 y2 v0
                  clear HC3 HN3 HG3 HDJ HB4 HG4 HPk hBk hgk hik
                  have hBW := HNp.out.2.2.2.2.1
                  have hzW : (w.heap.size + 1 + 1 + 1) < wp.heap.size := HNp.out.1.lt
                  have hbW : Below w.heap.size w wp := hb0.trans (hBW.mono (by omega))
                  have hgW := hbg.below hBW (by omega)
                  have hiW := hbi.below hBW (by omega)
                  have hrW := hbr.below hBW (by omega)
                  have j0 := hgW.2 0 _ rfl
                  have j1 := hiW.2 0 _ rfl
                  have j2 := hiW.2 1 _ rfl
                  have j3 := HNp.out.1.cell 0 _ rfl
                  go_wp2_with fail
                  refine (l8At_any [.slice a n c] m [.int .i64 it.fD.fR, .int .i64 it.fD.fN] it.fD wp (rGraph_good.mono (rGraph_good.below HRG.out hbW) hbW.size) HNM.out ⟨rfl, i0, i1, trivial⟩).mono ?_
                  rintro e w5 ⟨z, rfl, hAt, hx5⟩
                  rw [← HLM.out] at hAt
                  have HAT := Hid.mk hAt.has
                  clear hAt j0 j1 j2 j3
                  have hb5 := bthen hbW hx5
                  have hg5 := hgW.under hx5
                  have hr5 := hrW.under hx5
                  have HP5 := Hid.mk (HNp.out.under hx5)
                  have j0 := hg5.2 0 _ rfl
                  have j3 := HP5.out.1.cell 0 _ rfl
                  have hz5 := HP5.out.1.lt
                  by_cases hz : 0 ≤ z
                  · have HOF : Hid (ok = false) := by unfold Hid; rw [HOK.out, ← HAT.out, decide_eq_true hz]; rfl
                    have HPG := Hid.mk (HPF.out HOF.out)
                    go_wp2_with fail
                    refine (l8Copy_any [.slice a n c] m w5 (rGraph_good.mono (rGraph_good.below HRG.out hb5) hb5.size) HNM.out HDM.out).mono ?_
                    rintro e w8 ⟨v8, F8, rfl, ho8, hN8, hge8, hx8⟩
                    obtain ⟨a8, c8, rfl, _⟩ := id (ownS.read oItem_good ho8)
                    have HO8 := Hid.mk ho8
                    have HG8 := Hid.mk hge8
                    clear ho8 hge8
                    have hb8 := bthen hb5 hx8
                    have hr8 := hr5.under hx8
                    have s2 := hr8.cell 0 _ rfl
                    have s3 := hr8.free 0
                    have s4 := hr8.lt
                    go_wp2_with fail
                    refine bodyPost_ret (v := .tuple #[.agg #[.slice a8 m.fItems.length c8], .bool false]) (by simp [results, Tryd.results83, go_sem, *]) rfl ⟨[.slice a8 m.fItems.length c8], by first | rfl | rw [HOF.out], ?_, hb8.setCell (by simp; omega) _⟩
                    rw [HPG.out]
                    have h8 := ownS.frame oItem_good HO8.out (fun b hb => heap_setCell_other w8 ⟨w.heap.size + 1 + 1, 0, none⟩ b (.slice a8 m.fItems.length c8) (by have h := HG8.out b hb; have h2 := (hx5).size; show b ≠ w.heap.size + 1 + 1; omega))
                    exact OutG.mk' h8 hN8 (fun b hb => by have h := HG8.out b hb; omega)
                  · have hza : decide (0 ≤ z) = false := decide_eq_false hz
                    have HOG : Hid (ok = graphP ⟨insAt l q it⟩) := by unfold Hid; rw [HOK.out, ← HAT.out, hza]; rfl
                    obtain ⟨a9, c9, he9, hL9⟩ := ownS.read oItem_good HP5.out.2.1
                    simp only [Value.slice.injEq, true_and] at he9
                    obtain ⟨rfl, rfl⟩ := he9
                    have HWI : Hid (wGraph ⟨insAt l q it⟩ ≤ 1048576 * 4) := by
                      have h1 := sumW_ins (l := l) (p := q) (it := it) wItem
                      have h2 : wItem it ≤ 1048576 := HWIT.out
                      have h3 : (insAt l q it).length = l.length + 1 := insAt_length (by rw [HX.out]; exact hqn)
                      have h4 := HX.out
                      show (insAt l q it).length + sumW wItem (insAt l q it) ≤ _
                      omega
                    have HDI : Hid (∀ k, (h : k < (insAt l q it).length) → (insAt l q it)[k].fDeps.length ≤ 1048576) := ins_deps HDm.out hdi
                    go_wp2_with fail
                    refine (specGraphOk_any [.slice ap (insAt l q it).length cp] ⟨insAt l q it⟩ w5 ⟨_, _, rfl, hL9, trivial⟩ HWI.out HDI.out).mono ?_
                    rw [← HOG.out]
                    rintro e w6 ⟨rfl, hx6⟩
                    have hb6 := bthen hb5 hx6
                    have hg6 := hg5.under hx6
                    have hr6 := hr5.under hx6
                    have HP6 := Hid.mk (HP5.out.under hx6)
                    clear j0 j3 hL9
                    have j0 := hg6.2 0 _ rfl
                    have j3 := HP6.out.1.cell 0 _ rfl
                    have s2 := hr6.cell 0 _ rfl
                    have s3 := hr6.free 0
                    have s4 := hr6.lt
                    have hz6 := HP6.out.1.lt
                    by_cases hok : ok = true
                    · have HPG := Hid.mk (HPT.out hok)
                      subst hok
                      go_wp2_with fail
                      refine bodyPost_ret (v := .tuple #[.agg #[.slice ap (insAt l q it).length cp], .bool true]) (by simp [results, Tryd.results83, go_sem, *]) rfl ⟨[.slice ap (insAt l q it).length cp], rfl, ?_, hb6.setCell (by simp; omega) _⟩
                      rw [HPG.out]
                      have h8 := ownS.frame oItem_good HP6.out.2.1 (fun b hb => heap_setCell_other w6 ⟨w.heap.size + 1 + 1, 0, none⟩ b (.slice ap (insAt l q it).length cp) (by have h := HP6.out.2.2.2.1 b hb; show b ≠ w.heap.size + 1 + 1; omega))
                      exact OutG.mk' h8 HP6.out.2.2.1 (fun b hb => by have h := HP6.out.2.2.2.1 b hb; omega)
                    · have hokf : ok = false := Bool.eq_false_iff.2 hok
                      subst hokf
                      have HOF : Hid (false = false) := rfl
                      clear s2 s3 s4 hok
                      have HPG := Hid.mk (HPF.out HOF.out)
                      go_wp2_with fail
                      refine (l8Copy_any [.slice a n c] m w6 (rGraph_good.mono (rGraph_good.below HRG.out hb6) hb6.size) HNM.out HDM.out).mono ?_
                      rintro e w8 ⟨v8, F8, rfl, ho8, hN8, hge8, hx8⟩
                      obtain ⟨a8, c8, rfl, _⟩ := id (ownS.read oItem_good ho8)
                      have HO8 := Hid.mk ho8
                      have HG8 := Hid.mk hge8
                      clear ho8 hge8
                      have hb8 := bthen hb6 hx8
                      have hr8 := hr6.under hx8
                      have s2 := hr8.cell 0 _ rfl
                      have s3 := hr8.free 0
                      have s4 := hr8.lt
                      go_wp2_with fail
                      refine bodyPost_ret (v := .tuple #[.agg #[.slice a8 m.fItems.length c8], .bool false]) (by simp [results, Tryd.results83, go_sem, *]) rfl ⟨[.slice a8 m.fItems.length c8], by first | rfl | rw [HOF.out], ?_, hb8.setCell (by simp; omega) _⟩
                      rw [HPG.out]
                      have h8 := ownS.frame oItem_good HO8.out (fun b hb => heap_setCell_other w8 ⟨w.heap.size + 1 + 1, 0, none⟩ b (.slice a8 m.fItems.length c8) (by have h := HG8.out b hb; have h2 := ((bthen hx5 hx6)).size; show b ≠ w.heap.size + 1 + 1; omega))
                      exact OutG.mk' h8 hN8 (fun b hb => by have h := HG8.out b hb; omega)
        · go_simp
          have hpz := HPwS.out.1.lt
          have hpF := fun b hb => ownS.lt oItem_good HPwS.out.2.1 b hb
          have hpS := hSwS
          have hfl := Below.size (show Below wS.heap.size wS wS from Below.refl _ _)
          refine Calls.mono (l8CopyItem_any _ it wS (rItem_good.mono (rItem_good.below HRt.out (hpS.mono (by omega))) (by omega)) hdi) ?_
          rintro e wE3 ⟨cs3, F3, rfl, ho3, hN3, hge3, hop3⟩
          have HPwE3 := Hid.mk (HPwS.out.under hop3)
          have hSwE3 : Below (w.heap.size + 1 + 1 + 1) wr wE3 := hpS.trans (hop3.mono (by omega))
          have HC3 := Hid.mk ho3
          have HN3 := Hid.mk hN3
          have HG3 : Hid (∀ b, b ∈ F3 → (w.heap.size + 1 + 1 + 1) + 1 ≤ b) := fun b hb => (by have h := hge3 b hb; omega)
          have HDJ : Hid (∀ b, b ∈ F3 → b ∉ F) := fun b hb hbF => (by have h1 := hge3 b hb; have h2 := hpF b hbF; omega)
          obtain ⟨v1, F0, rfl, _, _, hv1, _⟩ := ho3
          obtain ⟨a1, ez1, rfl, _⟩ := ownS.read oDot_good hv1
          clear hv1 hN3 hge3 hpF hpS hfl
          go_wp2_with fail
          refine hK.out _ _ (hSwE3) (fun hHeld => ?_)
          clear hK K
          try simp only [Act.put, sa, s0, s1]
          refine wpAnyH_ready (rs := [1, 4]) (by kernel_rfl) (by simp) ?_
          refine (AllReadyH.cons (o := q31a_83_11_1) rfl (fun K hK => ?_) (AllReadyH.cons (o := q31a_83_11_4) rfl (fun K hK => ?_) AllReadyH.nil))
          · skip
            have yq := HPwE3.out.1.cell 0 _ rfl
            go_simp
            obtain ⟨wE1, hq1⟩ : ∃ q, q = wE3 := ⟨_, rfl⟩
            have HPwE1 : Hid (PutSt (w.heap.size + 1 + 1 + 1) w0 (.slice va lk.length vc) lk F wE1) := by rw [hq1]; exact HPwE3
            have hSwE1 : Below (w.heap.size + 1 + 1 + 1) wr wE1 := by rw [hq1]; exact hSwE3
            have hop1 : Below wE3.heap.size wE3 wE1 := by rw [hq1]; exact Below.refl _ _
            rw [← hq1]
            clear hq1 yq
            refine hK.out _ _ (hSwE1) (fun hHeld => ?_)
            clear hK K
            try simp only [Act.put, sa, s0, s1]
            refine wpAnyH_ready (rs := [4]) (by kernel_rfl) (by simp) ?_
            refine (AllReadyH.cons (o := q31a_83_11_4) rfl (fun K hK => ?_) AllReadyH.nil)
            · go_simp
              have hpz4 := HPwE1.out.1.lt
              obtain ⟨wE4, hq4⟩ : ∃ q, q = wE1.alloc (.cells #[.int .i64 it.fD.fR, .int .i64 it.fD.fN, .slice a1 it.fDeps.length ez1] 52) := ⟨_, rfl⟩
              have hop4 : Below wE1.heap.size wE1 wE4 := by rw [hq4]; exact (Below.refl _ _).alloc (Nat.le_refl _) _
              have HPwE4 := Hid.mk (HPwE1.out.under hop4)
              have hSwE4 : Below (w.heap.size + 1 + 1 + 1) wr wE4 := (hSwE1).trans (hop4.mono (by omega))
              obtain ⟨g4, HG4⟩ : ∃ z, Hid (z = wE1.heap.size) := ⟨_, Hid.mk rfl⟩
              have HB4 : Hid (Bx wE4 g4 [.int .i64 it.fD.fR, .int .i64 it.fD.fN, .slice a1 it.fDeps.length ez1]) := by unfold Hid; rw [HG4.out, hq4]; exact Bx.new _ _ _
              rw [← HG4.out]
              rw [← hq4]
              clear hq4
              refine hK.out _ _ (hSwE4) (fun hHeld => ?_)
              clear hK K
              try simp only [Act.put, sa, s0, s1]
              refine wpAnyH_ready (rs := [5]) (by kernel_rfl) (by simp) ?_
              refine (AllReadyH.cons (o := q31a_83_11_5) rfl (fun K hK => ?_) AllReadyH.nil)
              · skip
                have HX5 := HB4.out.under (show Below wE4.heap.size wE4 wE4 from Below.refl _ _)
                have hf3 := (show Below wE3.heap.size wE3 wE4 from bthen (bthen (Below.refl _ _) hop1) hop4)
                have hc3 := oItem_good.frame HC3.out (fun b hb => hf3.block b (oItem_good.lt HC3.out b hb))
                obtain ⟨rs, hox, hnext⟩ := HPwE4.out.app
                refine step_append_src wE4 rfl _ _ 28 28 rfl 0 52 iT (.agg #[.int .i64 0, .int .i64 0, .slice none 0 0]) 3 40 Tryd.underlying28 HIT.out.1 HIT.out.2.1 HIT.out.2.2.1 HIT.out.2.2.2 rfl (.slice va lk.length vc) (lk).length rs rfl hox (.slice (some ⟨g4, 0, none⟩) 1 1) rfl 1 _ (Src.item Tryd.underlying28 HX5) (by unfold maxLen; omega) (by omega) (Nat.zero_le _) ?_
                intro v5 wE5 ho5 hgr5 hat5
                obtain ⟨lp, HLp⟩ : ∃ z : List MItem, Hid (z = lk ++ [it]) := ⟨_, Hid.mk rfl⟩
                obtain ⟨Fp, ap, cp, rfl, hn5, hb5, hl5⟩ := hnext wE5 v5 _ it F3 ho5 hgr5 hat5 hc3 HN3.out HDJ.out HG3.out lp HLp.out
                have HNp := Hid.mk hn5
                have hSwE5 : Below (w.heap.size + 1 + 1 + 1) wr wE5 := (by have hpS := hSwE4; have hpz5 := HPwE4.out.1.lt; exact hpS.grown hgr5 (by omega) (fun k hk => by have := HPwE4.out.2.2.2.1 k (ownS.blk HPwE4.out.2.1 k hk); omega))
                have q1 := hb5.cell 0 _ rfl
                have qf := hb5.free 0
                have ql := hb5.lt
                clear ho5 hgr5 hat5 hc3 hn5 hb5 hl5 hox hnext
                refine hK.out _ _ (hSwE5) (fun hHeld => ?_)
                clear hK K
                try simp only [Act.put, sa, s0, s1]
                refine tk 6 q31a_83_11_6 (some 56) (v := ?v64) rfl rfl (by kernel_rfl) hHeld (by rfl) (fun _ _ _ x => x) (fun w h => ?y64) ?_; (case y64 => (try dsimp only at h); go_simp; try (with_reducible rfl)); try simp only [Act.put, sa, s0, s1]
                refine wpAnyH_ready (rs := [7]) (by kernel_rfl) (by simp) ?_
                refine (AllReadyH.cons (o := q31a_83_11_7) rfl (fun K hK => ?_) AllReadyH.nil)
                · go_simp
                  obtain ⟨wE7, hq7⟩ : ∃ q, q = wE5.setCell ⟨w.heap.size + 1 + 1 + 1, 0, none⟩ (.slice ap lp.length cp) := ⟨_, rfl⟩
                  rw [← hq7] at HNp
                  have hSwE7 : Below (w.heap.size + 1 + 1 + 1) wr wE7 := by rw [hq7]; exact hSwE5.setCell (Nat.le_refl _) _
                  obtain ⟨wp, hwp⟩ : ∃ q, q = wE7 := ⟨_, rfl⟩
                  rw [← hq7]
                  clear hq7 q1 qf ql
                  refine hK.out _ _ (hSwE7) (fun hHeld => ?_)
                  clear hK K
                  try simp only [Act.put, sa, s0, s1]
                  refine wpAnyH_done (by kernel_rfl) ?_ _
                  have hlp : lp = insAt l q it := by rw [HLp.out]; exact HE.out
                  clear HLp
                  subst hlp
                  rw [← hwp] at HNp ⊢
                  clear hwp y0 y1 y2 v0
                  clear HC3 HN3 HG3 HDJ HB4 HG4 HPk hBk hgk hik
                  have hBW := HNp.out.2.2.2.2.1
                  have hzW : (w.heap.size + 1 + 1 + 1) < wp.heap.size := HNp.out.1.lt
                  have hbW : Below w.heap.size w wp := hb0.trans (hBW.mono (by omega))
                  have hgW := hbg.below hBW (by omega)
                  have hiW := hbi.below hBW (by omega)
                  have hrW := hbr.below hBW (by omega)
                  have j0 := hgW.2 0 _ rfl
                  have j1 := hiW.2 0 _ rfl
                  have j2 := hiW.2 1 _ rfl
                  have j3 := HNp.out.1.cell 0 _ rfl
                  go_wp2_with fail
                  refine (l8At_any [.slice a n c] m [.int .i64 it.fD.fR, .int .i64 it.fD.fN] it.fD wp (rGraph_good.mono (rGraph_good.below HRG.out hbW) hbW.size) HNM.out ⟨rfl, i0, i1, trivial⟩).mono ?_
                  rintro e w5 ⟨z, rfl, hAt, hx5⟩
                  rw [← HLM.out] at hAt
                  have HAT := Hid.mk hAt.has
                  clear hAt j0 j1 j2 j3
                  have hb5 := bthen hbW hx5
                  have hg5 := hgW.under hx5
                  have hr5 := hrW.under hx5
                  have HP5 := Hid.mk (HNp.out.under hx5)
                  have j0 := hg5.2 0 _ rfl
                  have j3 := HP5.out.1.cell 0 _ rfl
                  have hz5 := HP5.out.1.lt
                  by_cases hz : 0 ≤ z
                  · have HOF : Hid (ok = false) := by unfold Hid; rw [HOK.out, ← HAT.out, decide_eq_true hz]; rfl
                    have HPG := Hid.mk (HPF.out HOF.out)
                    go_wp2_with fail
                    refine (l8Copy_any [.slice a n c] m w5 (rGraph_good.mono (rGraph_good.below HRG.out hb5) hb5.size) HNM.out HDM.out).mono ?_
                    rintro e w8 ⟨v8, F8, rfl, ho8, hN8, hge8, hx8⟩
                    obtain ⟨a8, c8, rfl, _⟩ := id (ownS.read oItem_good ho8)
                    have HO8 := Hid.mk ho8
                    have HG8 := Hid.mk hge8
                    clear ho8 hge8
                    have hb8 := bthen hb5 hx8
                    have hr8 := hr5.under hx8
                    have s2 := hr8.cell 0 _ rfl
                    have s3 := hr8.free 0
                    have s4 := hr8.lt
                    go_wp2_with fail
                    refine bodyPost_ret (v := .tuple #[.agg #[.slice a8 m.fItems.length c8], .bool false]) (by simp [results, Tryd.results83, go_sem, *]) rfl ⟨[.slice a8 m.fItems.length c8], by first | rfl | rw [HOF.out], ?_, hb8.setCell (by simp; omega) _⟩
                    rw [HPG.out]
                    have h8 := ownS.frame oItem_good HO8.out (fun b hb => heap_setCell_other w8 ⟨w.heap.size + 1 + 1, 0, none⟩ b (.slice a8 m.fItems.length c8) (by have h := HG8.out b hb; have h2 := (hx5).size; show b ≠ w.heap.size + 1 + 1; omega))
                    exact OutG.mk' h8 hN8 (fun b hb => by have h := HG8.out b hb; omega)
                  · have hza : decide (0 ≤ z) = false := decide_eq_false hz
                    have HOG : Hid (ok = graphP ⟨insAt l q it⟩) := by unfold Hid; rw [HOK.out, ← HAT.out, hza]; rfl
                    obtain ⟨a9, c9, he9, hL9⟩ := ownS.read oItem_good HP5.out.2.1
                    simp only [Value.slice.injEq, true_and] at he9
                    obtain ⟨rfl, rfl⟩ := he9
                    have HWI : Hid (wGraph ⟨insAt l q it⟩ ≤ 1048576 * 4) := by
                      have h1 := sumW_ins (l := l) (p := q) (it := it) wItem
                      have h2 : wItem it ≤ 1048576 := HWIT.out
                      have h3 : (insAt l q it).length = l.length + 1 := insAt_length (by rw [HX.out]; exact hqn)
                      have h4 := HX.out
                      show (insAt l q it).length + sumW wItem (insAt l q it) ≤ _
                      omega
                    have HDI : Hid (∀ k, (h : k < (insAt l q it).length) → (insAt l q it)[k].fDeps.length ≤ 1048576) := ins_deps HDm.out hdi
                    go_wp2_with fail
                    refine (specGraphOk_any [.slice ap (insAt l q it).length cp] ⟨insAt l q it⟩ w5 ⟨_, _, rfl, hL9, trivial⟩ HWI.out HDI.out).mono ?_
                    rw [← HOG.out]
                    rintro e w6 ⟨rfl, hx6⟩
                    have hb6 := bthen hb5 hx6
                    have hg6 := hg5.under hx6
                    have hr6 := hr5.under hx6
                    have HP6 := Hid.mk (HP5.out.under hx6)
                    clear j0 j3 hL9
                    have j0 := hg6.2 0 _ rfl
                    have j3 := HP6.out.1.cell 0 _ rfl
                    have s2 := hr6.cell 0 _ rfl
                    have s3 := hr6.free 0
                    have s4 := hr6.lt
                    have hz6 := HP6.out.1.lt
                    by_cases hok : ok = true
                    · have HPG := Hid.mk (HPT.out hok)
                      subst hok
                      go_wp2_with fail
                      refine bodyPost_ret (v := .tuple #[.agg #[.slice ap (insAt l q it).length cp], .bool true]) (by simp [results, Tryd.results83, go_sem, *]) rfl ⟨[.slice ap (insAt l q it).length cp], rfl, ?_, hb6.setCell (by simp; omega) _⟩
                      rw [HPG.out]
                      have h8 := ownS.frame oItem_good HP6.out.2.1 (fun b hb => heap_setCell_other w6 ⟨w.heap.size + 1 + 1, 0, none⟩ b (.slice ap (insAt l q it).length cp) (by have h := HP6.out.2.2.2.1 b hb; show b ≠ w.heap.size + 1 + 1; omega))
                      exact OutG.mk' h8 HP6.out.2.2.1 (fun b hb => by have h := HP6.out.2.2.2.1 b hb; omega)
                    · have hokf : ok = false := Bool.eq_false_iff.2 hok
                      subst hokf
                      have HOF : Hid (false = false) := rfl
                      clear s2 s3 s4 hok
                      have HPG := Hid.mk (HPF.out HOF.out)
                      go_wp2_with fail
                      refine (l8Copy_any [.slice a n c] m w6 (rGraph_good.mono (rGraph_good.below HRG.out hb6) hb6.size) HNM.out HDM.out).mono ?_
                      rintro e w8 ⟨v8, F8, rfl, ho8, hN8, hge8, hx8⟩
                      obtain ⟨a8, c8, rfl, _⟩ := id (ownS.read oItem_good ho8)
                      have HO8 := Hid.mk ho8
                      have HG8 := Hid.mk hge8
                      clear ho8 hge8
                      have hb8 := bthen hb6 hx8
                      have hr8 := hr6.under hx8
                      have s2 := hr8.cell 0 _ rfl
                      have s3 := hr8.free 0
                      have s4 := hr8.lt
                      go_wp2_with fail
                      refine bodyPost_ret (v := .tuple #[.agg #[.slice a8 m.fItems.length c8], .bool false]) (by simp [results, Tryd.results83, go_sem, *]) rfl ⟨[.slice a8 m.fItems.length c8], by first | rfl | rw [HOF.out], ?_, hb8.setCell (by simp; omega) _⟩
                      rw [HPG.out]
                      have h8 := ownS.frame oItem_good HO8.out (fun b hb => heap_setCell_other w8 ⟨w.heap.size + 1 + 1, 0, none⟩ b (.slice a8 m.fItems.length c8) (by have h := HG8.out b hb; have h2 := ((bthen hx5 hx6)).size; show b ≠ w.heap.size + 1 + 1; omega))
                      exact OutG.mk' h8 hN8 (fun b hb => by have h := HG8.out b hb; omega)
          · go_simp
            have hpz4 := HPwE3.out.1.lt
            obtain ⟨wE4, hq4⟩ : ∃ q, q = wE3.alloc (.cells #[.int .i64 it.fD.fR, .int .i64 it.fD.fN, .slice a1 it.fDeps.length ez1] 52) := ⟨_, rfl⟩
            have hop4 : Below wE3.heap.size wE3 wE4 := by rw [hq4]; exact (Below.refl _ _).alloc (Nat.le_refl _) _
            have HPwE4 := Hid.mk (HPwE3.out.under hop4)
            have hSwE4 : Below (w.heap.size + 1 + 1 + 1) wr wE4 := (hSwE3).trans (hop4.mono (by omega))
            obtain ⟨g4, HG4⟩ : ∃ z, Hid (z = wE3.heap.size) := ⟨_, Hid.mk rfl⟩
            have HB4 : Hid (Bx wE4 g4 [.int .i64 it.fD.fR, .int .i64 it.fD.fN, .slice a1 it.fDeps.length ez1]) := by unfold Hid; rw [HG4.out, hq4]; exact Bx.new _ _ _
            rw [← HG4.out]
            rw [← hq4]
            clear hq4
            refine hK.out _ _ (hSwE4) (fun hHeld => ?_)
            clear hK K
            try simp only [Act.put, sa, s0, s1]
            refine wpAnyH_ready (rs := [1]) (by kernel_rfl) (by simp) ?_
            refine (AllReadyH.cons (o := q31a_83_11_1) rfl (fun K hK => ?_) AllReadyH.nil)
            · skip
              have yq := HPwE4.out.1.cell 0 _ rfl
              go_simp
              obtain ⟨wE1, hq1⟩ : ∃ q, q = wE4 := ⟨_, rfl⟩
              have HPwE1 : Hid (PutSt (w.heap.size + 1 + 1 + 1) w0 (.slice va lk.length vc) lk F wE1) := by rw [hq1]; exact HPwE4
              have hSwE1 : Below (w.heap.size + 1 + 1 + 1) wr wE1 := by rw [hq1]; exact hSwE4
              have hop1 : Below wE4.heap.size wE4 wE1 := by rw [hq1]; exact Below.refl _ _
              rw [← hq1]
              clear hq1 yq
              refine hK.out _ _ (hSwE1) (fun hHeld => ?_)
              clear hK K
              try simp only [Act.put, sa, s0, s1]
              refine wpAnyH_ready (rs := [5]) (by kernel_rfl) (by simp) ?_
              refine (AllReadyH.cons (o := q31a_83_11_5) rfl (fun K hK => ?_) AllReadyH.nil)
              · skip
                have HX5 := HB4.out.under (show Below wE4.heap.size wE4 wE1 from bthen (Below.refl _ _) hop1)
                have hf3 := (show Below wE3.heap.size wE3 wE1 from bthen (bthen (Below.refl _ _) hop4) hop1)
                have hc3 := oItem_good.frame HC3.out (fun b hb => hf3.block b (oItem_good.lt HC3.out b hb))
                obtain ⟨rs, hox, hnext⟩ := HPwE1.out.app
                refine step_append_src wE1 rfl _ _ 28 28 rfl 0 52 iT (.agg #[.int .i64 0, .int .i64 0, .slice none 0 0]) 3 40 Tryd.underlying28 HIT.out.1 HIT.out.2.1 HIT.out.2.2.1 HIT.out.2.2.2 rfl (.slice va lk.length vc) (lk).length rs rfl hox (.slice (some ⟨g4, 0, none⟩) 1 1) rfl 1 _ (Src.item Tryd.underlying28 HX5) (by unfold maxLen; omega) (by omega) (Nat.zero_le _) ?_
                intro v5 wE5 ho5 hgr5 hat5
                obtain ⟨lp, HLp⟩ : ∃ z : List MItem, Hid (z = lk ++ [it]) := ⟨_, Hid.mk rfl⟩
                obtain ⟨Fp, ap, cp, rfl, hn5, hb5, hl5⟩ := hnext wE5 v5 _ it F3 ho5 hgr5 hat5 hc3 HN3.out HDJ.out HG3.out lp HLp.out
                have HNp := Hid.mk hn5
                have hSwE5 : Below (w.heap.size + 1 + 1 + 1) wr wE5 := (by have hpS := hSwE1; have hpz5 := HPwE1.out.1.lt; exact hpS.grown hgr5 (by omega) (fun k hk => by have := HPwE1.out.2.2.2.1 k (ownS.blk HPwE1.out.2.1 k hk); omega))
                have q1 := hb5.cell 0 _ rfl
                have qf := hb5.free 0
                have ql := hb5.lt
                clear ho5 hgr5 hat5 hc3 hn5 hb5 hl5 hox hnext
                refine hK.out _ _ (hSwE5) (fun hHeld => ?_)
                clear hK K
                try simp only [Act.put, sa, s0, s1]
                refine tk 6 q31a_83_11_6 (some 56) (v := ?v65) rfl rfl (by kernel_rfl) hHeld (by rfl) (fun _ _ _ x => x) (fun w h => ?y65) ?_; (case y65 => (try dsimp only at h); go_simp; try (with_reducible rfl)); try simp only [Act.put, sa, s0, s1]
                refine wpAnyH_ready (rs := [7]) (by kernel_rfl) (by simp) ?_
                refine (AllReadyH.cons (o := q31a_83_11_7) rfl (fun K hK => ?_) AllReadyH.nil)
                · go_simp
                  obtain ⟨wE7, hq7⟩ : ∃ q, q = wE5.setCell ⟨w.heap.size + 1 + 1 + 1, 0, none⟩ (.slice ap lp.length cp) := ⟨_, rfl⟩
                  rw [← hq7] at HNp
                  have hSwE7 : Below (w.heap.size + 1 + 1 + 1) wr wE7 := by rw [hq7]; exact hSwE5.setCell (Nat.le_refl _) _
                  obtain ⟨wp, hwp⟩ : ∃ q, q = wE7 := ⟨_, rfl⟩
                  rw [← hq7]
                  clear hq7 q1 qf ql
                  refine hK.out _ _ (hSwE7) (fun hHeld => ?_)
                  clear hK K
                  try simp only [Act.put, sa, s0, s1]
                  refine wpAnyH_done (by kernel_rfl) ?_ _
                  have hlp : lp = insAt l q it := by rw [HLp.out]; exact HE.out
                  clear HLp
                  subst hlp
                  rw [← hwp] at HNp ⊢
                  clear hwp y0 y1 y2 v0
                  clear HC3 HN3 HG3 HDJ HB4 HG4 HPk hBk hgk hik
                  have hBW := HNp.out.2.2.2.2.1
                  have hzW : (w.heap.size + 1 + 1 + 1) < wp.heap.size := HNp.out.1.lt
                  have hbW : Below w.heap.size w wp := hb0.trans (hBW.mono (by omega))
                  have hgW := hbg.below hBW (by omega)
                  have hiW := hbi.below hBW (by omega)
                  have hrW := hbr.below hBW (by omega)
                  have j0 := hgW.2 0 _ rfl
                  have j1 := hiW.2 0 _ rfl
                  have j2 := hiW.2 1 _ rfl
                  have j3 := HNp.out.1.cell 0 _ rfl
                  go_wp2_with fail
                  refine (l8At_any [.slice a n c] m [.int .i64 it.fD.fR, .int .i64 it.fD.fN] it.fD wp (rGraph_good.mono (rGraph_good.below HRG.out hbW) hbW.size) HNM.out ⟨rfl, i0, i1, trivial⟩).mono ?_
                  rintro e w5 ⟨z, rfl, hAt, hx5⟩
                  rw [← HLM.out] at hAt
                  have HAT := Hid.mk hAt.has
                  clear hAt j0 j1 j2 j3
                  have hb5 := bthen hbW hx5
                  have hg5 := hgW.under hx5
                  have hr5 := hrW.under hx5
                  have HP5 := Hid.mk (HNp.out.under hx5)
                  have j0 := hg5.2 0 _ rfl
                  have j3 := HP5.out.1.cell 0 _ rfl
                  have hz5 := HP5.out.1.lt
                  by_cases hz : 0 ≤ z
                  · have HOF : Hid (ok = false) := by unfold Hid; rw [HOK.out, ← HAT.out, decide_eq_true hz]; rfl
                    have HPG := Hid.mk (HPF.out HOF.out)
                    go_wp2_with fail
                    refine (l8Copy_any [.slice a n c] m w5 (rGraph_good.mono (rGraph_good.below HRG.out hb5) hb5.size) HNM.out HDM.out).mono ?_
                    rintro e w8 ⟨v8, F8, rfl, ho8, hN8, hge8, hx8⟩
                    obtain ⟨a8, c8, rfl, _⟩ := id (ownS.read oItem_good ho8)
                    have HO8 := Hid.mk ho8
                    have HG8 := Hid.mk hge8
                    clear ho8 hge8
                    have hb8 := bthen hb5 hx8
                    have hr8 := hr5.under hx8
                    have s2 := hr8.cell 0 _ rfl
                    have s3 := hr8.free 0
                    have s4 := hr8.lt
                    go_wp2_with fail
                    refine bodyPost_ret (v := .tuple #[.agg #[.slice a8 m.fItems.length c8], .bool false]) (by simp [results, Tryd.results83, go_sem, *]) rfl ⟨[.slice a8 m.fItems.length c8], by first | rfl | rw [HOF.out], ?_, hb8.setCell (by simp; omega) _⟩
                    rw [HPG.out]
                    have h8 := ownS.frame oItem_good HO8.out (fun b hb => heap_setCell_other w8 ⟨w.heap.size + 1 + 1, 0, none⟩ b (.slice a8 m.fItems.length c8) (by have h := HG8.out b hb; have h2 := (hx5).size; show b ≠ w.heap.size + 1 + 1; omega))
                    exact OutG.mk' h8 hN8 (fun b hb => by have h := HG8.out b hb; omega)
                  · have hza : decide (0 ≤ z) = false := decide_eq_false hz
                    have HOG : Hid (ok = graphP ⟨insAt l q it⟩) := by unfold Hid; rw [HOK.out, ← HAT.out, hza]; rfl
                    obtain ⟨a9, c9, he9, hL9⟩ := ownS.read oItem_good HP5.out.2.1
                    simp only [Value.slice.injEq, true_and] at he9
                    obtain ⟨rfl, rfl⟩ := he9
                    have HWI : Hid (wGraph ⟨insAt l q it⟩ ≤ 1048576 * 4) := by
                      have h1 := sumW_ins (l := l) (p := q) (it := it) wItem
                      have h2 : wItem it ≤ 1048576 := HWIT.out
                      have h3 : (insAt l q it).length = l.length + 1 := insAt_length (by rw [HX.out]; exact hqn)
                      have h4 := HX.out
                      show (insAt l q it).length + sumW wItem (insAt l q it) ≤ _
                      omega
                    have HDI : Hid (∀ k, (h : k < (insAt l q it).length) → (insAt l q it)[k].fDeps.length ≤ 1048576) := ins_deps HDm.out hdi
                    go_wp2_with fail
                    refine (specGraphOk_any [.slice ap (insAt l q it).length cp] ⟨insAt l q it⟩ w5 ⟨_, _, rfl, hL9, trivial⟩ HWI.out HDI.out).mono ?_
                    rw [← HOG.out]
                    rintro e w6 ⟨rfl, hx6⟩
                    have hb6 := bthen hb5 hx6
                    have hg6 := hg5.under hx6
                    have hr6 := hr5.under hx6
                    have HP6 := Hid.mk (HP5.out.under hx6)
                    clear j0 j3 hL9
                    have j0 := hg6.2 0 _ rfl
                    have j3 := HP6.out.1.cell 0 _ rfl
                    have s2 := hr6.cell 0 _ rfl
                    have s3 := hr6.free 0
                    have s4 := hr6.lt
                    have hz6 := HP6.out.1.lt
                    by_cases hok : ok = true
                    · have HPG := Hid.mk (HPT.out hok)
                      subst hok
                      go_wp2_with fail
                      refine bodyPost_ret (v := .tuple #[.agg #[.slice ap (insAt l q it).length cp], .bool true]) (by simp [results, Tryd.results83, go_sem, *]) rfl ⟨[.slice ap (insAt l q it).length cp], rfl, ?_, hb6.setCell (by simp; omega) _⟩
                      rw [HPG.out]
                      have h8 := ownS.frame oItem_good HP6.out.2.1 (fun b hb => heap_setCell_other w6 ⟨w.heap.size + 1 + 1, 0, none⟩ b (.slice ap (insAt l q it).length cp) (by have h := HP6.out.2.2.2.1 b hb; show b ≠ w.heap.size + 1 + 1; omega))
                      exact OutG.mk' h8 HP6.out.2.2.1 (fun b hb => by have h := HP6.out.2.2.2.1 b hb; omega)
                    · have hokf : ok = false := Bool.eq_false_iff.2 hok
                      subst hokf
                      have HOF : Hid (false = false) := rfl
                      clear s2 s3 s4 hok
                      have HPG := Hid.mk (HPF.out HOF.out)
                      go_wp2_with fail
                      refine (l8Copy_any [.slice a n c] m w6 (rGraph_good.mono (rGraph_good.below HRG.out hb6) hb6.size) HNM.out HDM.out).mono ?_
                      rintro e w8 ⟨v8, F8, rfl, ho8, hN8, hge8, hx8⟩
                      obtain ⟨a8, c8, rfl, _⟩ := id (ownS.read oItem_good ho8)
                      have HO8 := Hid.mk ho8
                      have HG8 := Hid.mk hge8
                      clear ho8 hge8
                      have hb8 := bthen hb6 hx8
                      have hr8 := hr6.under hx8
                      have s2 := hr8.cell 0 _ rfl
                      have s3 := hr8.free 0
                      have s4 := hr8.lt
                      go_wp2_with fail
                      refine bodyPost_ret (v := .tuple #[.agg #[.slice a8 m.fItems.length c8], .bool false]) (by simp [results, Tryd.results83, go_sem, *]) rfl ⟨[.slice a8 m.fItems.length c8], by first | rfl | rw [HOF.out], ?_, hb8.setCell (by simp; omega) _⟩
                      rw [HPG.out]
                      have h8 := ownS.frame oItem_good HO8.out (fun b hb => heap_setCell_other w8 ⟨w.heap.size + 1 + 1, 0, none⟩ b (.slice a8 m.fItems.length c8) (by have h := HG8.out b hb; have h2 := ((bthen hx5 hx6)).size; show b ≠ w.heap.size + 1 + 1; omega))
                      exact OutG.mk' h8 hN8 (fun b hb => by have h := HG8.out b hb; omega)

end Go.Proofs.YtmigamgcmhdncaaDoor
