/-
  Part 11 of the texts that the proof leans on.
-/
import Derived.Test.YtmigamgcmhdncaaDoorStb0
import Derived.Test.YtmigamgcmhdncaaDoorStb3
import Derived.Test.YtmigamgcmhdncaaDoorStb6
import Derived.Test.YtmigamgcmhdncaaDoorStb9
set_option linter.unusedVariables false
set_option linter.unusedSimpArgs false
set_option maxRecDepth 10000

namespace Go.Proofs.YtmigamgcmhdncaaDoor
open Go.RowKit
abbrev q1cf_32_2_0 : Oper := ⟨some 17, .fieldAddr 30 (.tmp 2) 0, 0, "l08_graph.go:84", #[], none⟩
abbrev q1cf_32_2_1 : Oper := ⟨some 18, .load 28 (.tmp 17), 28, "l08_graph.go:84", #[⟨0, .data⟩], none⟩
abbrev q1cf_32_2_2 : Oper := ⟨some 19, .move (.tmp 6), 3, "l08_graph.go:84", #[], none⟩
abbrev q1cf_32_2_3 : Oper := ⟨some 20, .slice 28 (.tmp 18) none (some (.tmp 19)) none, 28, "l08_graph.go:84", #[⟨1, .data⟩, ⟨2, .data⟩], none⟩
abbrev q1cf_32_2_4 : Oper := ⟨some 21, .load 52 (.tmp 3), 52, "l08_graph.go:84", #[], none⟩
abbrev q1cf_32_2_6 : Oper := ⟨some 23, .fieldAddr 30 (.tmp 2) 0, 0, "l08_graph.go:84", #[], none⟩
abbrev q1cf_32_2_7 : Oper := ⟨some 24, .load 28 (.tmp 23), 28, "l08_graph.go:84", #[⟨6, .data⟩], none⟩
abbrev q1cf_32_2_8 : Oper := ⟨some 25, .move (.tmp 6), 3, "l08_graph.go:84", #[], none⟩
abbrev q1cf_32_2_9 : Oper := ⟨some 26, .slice 28 (.tmp 24) (some (.tmp 25)) none none, 28, "l08_graph.go:84", #[⟨7, .data⟩, ⟨8, .data⟩], none⟩
abbrev q1cf_32_2_14 : Oper := ⟨some 8, .alloc 30, 0, "l08_graph.go:84", #[], none⟩
abbrev q1cf_32_2_5 : Oper := ⟨some 22, .buildSlice 28 1 #[(0, .tmp 21)], 28, "l08_graph.go:84", #[⟨4, .data⟩], none⟩
abbrev q1cf_32_2_10 : Oper := ⟨some 27, .buildSlice 122 3 #[(0, .tmp 20), (1, .tmp 22), (2, .tmp 26)], 122, "l08_graph.go:84", #[⟨3, .data⟩, ⟨5, .data⟩, ⟨9, .data⟩], none⟩
abbrev q1cf_32_2_11 : Oper := ⟨some 28, .call { callee := .value (.func 60), args := #[.tmp 27], argTypes := #[122] }, 28, "l08_graph.go:84", #[⟨10, .data⟩], none⟩
abbrev q1cf_32_2_12 : Oper := ⟨some 29, .build 30 #[(0, .tmp 28)], 30, "l08_graph.go:84", #[⟨11, .data⟩], none⟩
abbrev q1cf_32_2_13 : Oper := ⟨some 30, .call { callee := .value (.func 59), args := #[.tmp 29], argTypes := #[30] }, 30, "l08_graph.go:84", #[⟨12, .data⟩, ⟨11, .chain⟩], none⟩
abbrev q1cf_32_2_15 : Oper := ⟨none, .store 30 (.tmp 8) (.tmp 30), 0, "l08_graph.go:84", #[⟨14, .data⟩, ⟨13, .data⟩, ⟨13, .chain⟩, ⟨0, .phase⟩, ⟨1, .phase⟩, ⟨2, .phase⟩, ⟨3, .phase⟩, ⟨4, .phase⟩, ⟨5, .phase⟩, ⟨6, .phase⟩, ⟨7, .phase⟩, ⟨8, .phase⟩, ⟨9, .phase⟩, ⟨10, .phase⟩, ⟨11, .phase⟩, ⟨12, .phase⟩, ⟨13, .phase⟩, ⟨14, .phase⟩], none⟩

theorem ins_deps {l : List MItem} {p : Nat} {it : MItem} {B : Nat} (hl : ∀ k, (h : k < l.length) → l[k].fDeps.length ≤ B) (hi : it.fDeps.length ≤ B) : ∀ k, (h : k < (insAt l p it).length) → (insAt l p it)[k].fDeps.length ≤ B := by
  intro k h
  have hm : (insAt l p it)[k] ∈ insAt l p it := List.getElem_mem h
  have hm2 : (insAt l p it)[k] ∈ l ∨ (insAt l p it)[k] = it := by
    generalize (insAt l p it)[k] = x at hm ⊢
    rcases List.mem_append.1 hm with g | g
    · exact .inl (List.mem_of_mem_take g)
    · rcases List.mem_cons.1 g with g | g
      · exact .inr g
      · exact .inl (List.mem_of_mem_drop g)
  rcases hm2 with g | g
  · obtain ⟨j, hj, hje⟩ := List.mem_iff_getElem.1 g
    rw [← hje]; exact hl j hj
  · rw [g]; exact hi
theorem sumW_ins {l : List MItem} {p : Nat} {it : MItem} (f : MItem → Nat) : sumW f (insAt l p it) = sumW f l + f it := by
  have hap : ∀ a b : List MItem, sumW f (a ++ b) = sumW f a + sumW f b := by
    intro a b
    induction a with
    | nil => simp [sumW]
    | cons x r ih => simp only [List.cons_append, sumW, ih]; omega
  have h : sumW f l = sumW f (l.take p) + sumW f (l.drop p) := by rw [← hap, List.take_append_drop]
  unfold insAt
  rw [hap, h]
  simp only [sumW]
  omega
theorem leaf_one {B : Nat} {w : World} {g : Nat} {it : MItem} {cs : List Value} (hb : Bx w g cs) (hr : rItem B w cs it) (hB : B ≤ w.heap.size) : LeafL 3 rItem w.heap.size w (some ⟨g, 0, none⟩) 1 [it] := by
  refine ⟨by simp, by omega, fun j hj => ?_⟩
  have h0 : j = 0 := by simp at hj; omega
  subst h0
  have hc : cs.length = 3 := by obtain ⟨a2, c2, rfl, _⟩ := hr; rfl
  refine ⟨g, 0, rfl, hb.1, cs, hc, fun i u hu => ?_, rItem_good.mono hr hB⟩
  have h := hb.2 i u hu
  simpa using h

theorem cat3 {w : World} {g n1 n2 c1 c2 : Nat} {a1 a2 am : Option Addr} {l1 l2 : List MItem} {it : MItem} (hb : Bx w g [.slice a1 n1 c1, .slice am 1 1, .slice a2 n2 c2]) (h1 : l1.length = n1) (h2 : l2.length = n2) (i : Nat) (h : i < [(a1, c1, l1), (am, 1, [it]), (a2, c2, l2)].length) :
    w.cell? ⟨g, i, none⟩ = some (.slice [(a1, c1, l1), (am, 1, [it]), (a2, c2, l2)][i].1 [(a1, c1, l1), (am, 1, [it]), (a2, c2, l2)][i].2.2.length [(a1, c1, l1), (am, 1, [it]), (a2, c2, l2)][i].2.1) := by
  have h' : i < 3 := h
  rcases (by omega : i = 0 ∨ i = 1 ∨ i = 2) with rfl | rfl | rfl
  · show w.cell? ⟨g, 0, none⟩ = some (.slice a1 l1.length c1); rw [h1]; exact hb.2 0 _ rfl
  · exact hb.2 1 _ rfl
  · show w.cell? ⟨g, 2, none⟩ = some (.slice a2 l2.length c2); rw [h2]; exact hb.2 2 _ rfl
theorem leaf3 {B : Nat} {w : World} {c1 c2 : Nat} {a1 a2 am : Option Addr} {l1 l2 : List MItem} {it : MItem} (h1 : LeafL 3 rItem B w a1 c1 l1) (hm : LeafL 3 rItem B w am 1 [it]) (h2 : LeafL 3 rItem B w a2 c2 l2) (i : Nat) (h : i < [(a1, c1, l1), (am, 1, [it]), (a2, c2, l2)].length) :
    LeafL 3 rItem B w [(a1, c1, l1), (am, 1, [it]), (a2, c2, l2)][i].1 [(a1, c1, l1), (am, 1, [it]), (a2, c2, l2)][i].2.1 [(a1, c1, l1), (am, 1, [it]), (a2, c2, l2)][i].2.2 := by
  have h' : i < 3 := h
  rcases (by omega : i = 0 ∨ i = 1 ∨ i = 2) with rfl | rfl | rfl
  · exact h1
  · exact hm
  · exact h2
theorem sum3 {n1 n2 c1 c2 : Nat} {a1 a2 am : Option Addr} {l1 l2 : List MItem} {it : MItem} (h1 : l1.length = n1) (h2 : l2.length = n2) (h : n1 + n2 ≤ 8388607) : sumW lenItem [(a1, c1, l1), (am, 1, [it]), (a2, c2, l2)] ≤ 8388608 := by
  simp only [sumW, lenItem, List.length_cons, List.length_nil]; omega
theorem cat_ins {l : List MItem} {p : Nat} {it : MItem} {a1 a2 am : Option Addr} {c1 c2 : Nat} : catItem [(a1, c1, l.take p), (am, 1, [it]), (a2, c2, l.drop p)] = insAt l p it := by simp [catItem, insAt]

set_option maxHeartbeats 8000000 in
theorem implGraphPut_c (cs0 : List Value) (m : MGraph) (cs1 : List Value) (it : MItem) (w : World) (hr : rGraph w.heap.size w cs0 m) (hri : rItem w.heap.size w cs1 it) (hw : wGraph m ≤ 1048576) (hwi : wItem it ≤ 1048576) :
    Calls Tryd.prog 32 #[.agg cs0.toArray, .agg cs1.toArray] w fun e w' => ∃ (cs' : List Value) (F : List Nat), e = .returned (.tuple #[.agg cs'.toArray, .bool (putOk m it)]) ∧ oGraph w' cs' (putG m it) F ∧ F.Nodup ∧ (∀ b, b ∈ F → w.heap.size ≤ b) ∧ Below w.heap.size w w' := by
  have HRG := Hid.mk hr
  have HRI := Hid.mk hri
  obtain ⟨a, c, rfl, hL, _⟩ := hr
  obtain ⟨ai, ci, rfl, i0, i1, i2, _⟩ := hri
  have HDm := Hid.mk (wGraph_deps hw)
  have hdi : it.fDeps.length ≤ 1048576 := by have h : it.fDeps.length + sumW wDot it.fDeps ≤ 1048576 := hwi; omega
  have HPO := Hid.mk (fun p => place_ok (m := m) (it := it) (p := p))
  have HPT : Hid (putOk m it = true → putG m it = ⟨insAt m.fItems (firstGt it.fD m.fItems) it⟩) := fun h => by unfold putG; rw [h]; rfl
  have HPF : Hid (putOk m it = false → putG m it = m) := fun h => by unfold putG; rw [h]; rfl
  have hn0 : m.fItems.length + sumW wItem m.fItems ≤ 1048576 := hw
  obtain ⟨l, hl⟩ : ∃ l, l = m.fItems := ⟨_, rfl⟩
  rw [← hl] at hL HDm HPO HPT HRG hn0 ⊢
  have HME : Hid (m = ⟨l⟩) := by unfold Hid; rw [hl]
  have HWIT := Hid.mk hwi
  have HNM : Hid (m.fItems.length ≤ 2097152) := by unfold Hid; rw [← hl]; omega
  have HDM : Hid (∀ k, (h : k < m.fItems.length) → m.fItems[k].fDeps.length ≤ 1048576) := Hid.mk (wGraph_deps hw)
  clear hw hwi hl
  obtain ⟨n, hx⟩ : ∃ n, n = l.length := ⟨_, rfl⟩
  rw [← hx] at hn0 HRG ⊢
  have HX := Hid.mk hx.symm
  have HL := Hid.mk hL
  have hn : n ≤ 1048576 := by omega
  have hnc : n ≤ c := by have := hL.1; omega
  have hcm : c ≤ 9223372036854775807 := hL.2.1
  clear hL hx i2
  generalize putOk m it = ok at *
  generalize putG m it = pg at *
  go_enter Tryd.func32, Tryd.ntmps32
  go_wp2_with fail
  obtain ⟨w0, hw0⟩ : ∃ wq, wq = ((w.alloc (.cells #[.slice a n c] 30)).alloc (.cells #[.int .i64 it.fD.fR, .int .i64 it.fD.fN, .slice ai it.fDeps.length ci] 52)).alloc (.cells #[.slice none 0 0] 30) := ⟨_, rfl⟩
  have hb0 : Below w.heap.size w w0 := by rw [hw0]; exact (((Below.refl _ _).alloc (Nat.le_refl _) _).alloc (by simp) _).alloc (by simp; omega) _
  have hs0 : w0.heap.size = w.heap.size + 3 := by rw [hw0]; simp
  have hbg0 : Bx w0 w.heap.size [.slice a n c] := by rw [hw0]; exact ((Bx.new _ _ _).alloc _).alloc _
  have hbi0 : Bx w0 (w.heap.size + 1) [.int .i64 it.fD.fR, .int .i64 it.fD.fN, .slice ai it.fDeps.length ci] := by rw [hw0]; have h := (Bx.new (w.alloc (.cells #[.slice a n c] 30)) [.int .i64 it.fD.fR, .int .i64 it.fD.fN, .slice ai it.fDeps.length ci] 52).alloc (.cells #[.slice none 0 0] 30); simpa using h
  have hbr0 : Bw w0 (w.heap.size + 1 + 1) 30 [.slice none 0 0] := by rw [hw0]; exact Bw.new' _ _ _ (by simp)
  rw [← hw0]
  clear hw0
  refine (placeOf_any a n c l [.int .i64 it.fD.fR, .int .i64 it.fD.fN] it.fD w0 HX.out (by omega) ((HL.out.below rItem_good hb0).mono rItem_good hb0.size) ⟨rfl, i0, i1, trivial⟩).mono ?_
  rintro e w1 ⟨p, rfl, hPp, hx1⟩
  have hb1 := bthen hb0 hx1
  have hpn : p ≤ n := by have := hPp.1; have := HX.out; omega
  have HOK := Hid.mk (HPO.out p hPp)
  clear hPp HPO
  generalize thereAt l it.fD p = tb
  have hbg := hbg0.under hx1
  have hbi := hbi0.under hx1
  have hbr := hbr0.under hx1
  have hs1 : w.heap.size + 3 ≤ w1.heap.size := by have := hx1.size; omega
  clear hbg0 hbi0 hbr0 hs0 hx1 hb0
  go_wp2_with fail
  obtain ⟨QQ, HQ⟩ : ∃ Q : Exit → Act → World → Prop, Hid (Q = fun e a' w' => e = .normal ∧ ∃ (y0 y1 y6 y7 y9 y10 y11 y12 y13 y14 y15 y16 y17 y18 y19 y20 y21 y22 y23 y24 y25 y26 y27 y28 y29 y30 y31 y32 y33 y34 y35 y36 : Value) (g8 : Nat) (v8 : Value) (F8 : List Nat), a' = { tmps := #[y0, y1, .pointer (some ⟨w.heap.size, 0, none⟩), .pointer (some ⟨w.heap.size + 1, 0, none⟩), .pointer (some ⟨w.heap.size + 1 + 1, 0, none⟩), .bool false, y6, y7, .pointer (some ⟨g8, 0, none⟩), y9, y10, y11, y12, y13, y14, y15, y16, y17, y18, y19, y20, y21, y22, y23, y24, y25, y26, y27, y28, y29, y30, y31, y32, y33, y34, y35, y36], defers := [] } ∧ Bw w' g8 30 [v8] ∧ ownS 3 52 oItem w' v8 (insAt l p it) F8 ∧ F8.Nodup ∧ (∀ b, b ∈ F8 → w1.heap.size ≤ b ∧ b ≠ g8) ∧ w1.heap.size ≤ g8 ∧ Below w1.heap.size w1 w') := ⟨_, rfl⟩
  have hPan : ∀ x (A : Act) (W : World), ¬ QQ (.panic x) A W := fun x A W h => by rw [HQ.out] at h; cases h.1
  refine Code.wp_mono (Q := QQ) ?mono ?reg
  case reg =>
    have y0 : ∀ W, Below w1.heap.size w1 W → W.cell? ⟨w.heap.size, 0, none⟩ = some (.slice a n c) := fun W h => (hbg.under h).2 0 _ rfl
    have z0 : ∀ W, Below w1.heap.size w1 W → W.cell? ⟨w.heap.size + 1, 0, none⟩ = some (.int .i64 it.fD.fR) := fun W h => (hbi.under h).2 0 _ rfl
    have z1 : ∀ W, Below w1.heap.size w1 W → W.cell? ⟨w.heap.size + 1, 1, none⟩ = some (.int .i64 it.fD.fN) := fun W h => (hbi.under h).2 1 _ rfl
    have z2 : ∀ W, Below w1.heap.size w1 W → W.cell? ⟨w.heap.size + 1, 2, none⟩ = some (.slice ai it.fDeps.length ci) := fun W h => (hbi.under h).2 2 _ rfl
    have HLc := Hid.mk ((HL.out.below rItem_good hb1).mono rItem_good hb1.size)
    have HIc := Hid.mk (rItem_good.below HRI.out hb1)
    have hq0 : (0 : Int) ≤ (p : Int) := by omega
    have hq1 : (p : Int) ≤ (n : Int) := by omega
    have hq2 : (p : Int) ≤ (c : Int) := by omega
    have hq3 : (n : Int) ≤ (c : Int) := by omega
    have HNI : Hid ((insAt l p it).length ≤ 2097152) := by unfold Hid; rw [insAt_length (by rw [HX.out]; exact hpn), HX.out]; omega
    have HDI : Hid (∀ k, (h : k < (insAt l p it).length) → (insAt l p it)[k].fDeps.length ≤ 1048576) := ins_deps HDm.out hdi
    have H1 : Hid ((l.take p).length = p) := by unfold Hid; rw [List.length_take, HX.out]; omega
    have H2 : Hid ((l.drop p).length = n - p) := by unfold Hid; rw [List.length_drop, HX.out]
    cases a with
    | none =>
      have hn00 : n = 0 := by
        by_cases h : n = 0
        · exact h
        · obtain ⟨_, _, h1, _⟩ := HL.out.2.2 0 (by rw [HX.out]; omega)
          cases h1
      have hp00 : p = 0 := by omega
      subst hn00
      subst hp00
      have hl00 : l = [] := List.eq_nil_of_length_eq_zero HX.out
      have HL1 : Hid (LeafL 3 rItem w1.heap.size w1 none c (l.take 0)) := by unfold Hid; rw [hl00]; rw [hl00] at HLc; exact HLc.out
      have HL2 : Hid (LeafL 3 rItem w1.heap.size w1 none c (l.drop 0)) := by unfold Hid; rw [hl00]; rw [hl00] at HLc; exact HLc.out
      clear hl00
      refine wp_region_held_drew (S := fun W => Below w1.heap.size w1 W) (by kernel_rfl) (Below.drew (Below.refl _ _)) (fun hHeld => ?_)
      obtain ⟨wS, hwS⟩ : ∃ wS, wS = w1.drew := ⟨_, rfl⟩
      have hSwS : Below w1.heap.size w1 wS := by rw [hwS]; exact Below.drew (Below.refl _ _)
      rw [← hwS] at hHeld ⊢
      clear hwS
      refine tk 0 q1cf_32_2_0 (some 17) (v := ?v1) rfl rfl (by kernel_rfl) hHeld (by rfl) (fun _ _ _ h => (hPan _ _ _ h).elim) (fun w h => ?y1) ?_; (case y1 => (try dsimp only at h); go_simp; try (with_reducible rfl)); try simp only [Act.put, sa, s0, s1]
      refine tk 1 q1cf_32_2_1 (some 18) (v := ?v2) rfl rfl (by kernel_rfl) hHeld (by rfl) (fun _ _ _ h => (hPan _ _ _ h).elim) (fun w h => ?y2) ?_; (case y2 => (try dsimp only at h); go_simp; try (with_reducible rfl)); try simp only [Act.put, sa, s0, s1]
      refine tk 2 q1cf_32_2_2 (some 19) (v := ?v3) rfl rfl (by kernel_rfl) hHeld (by rfl) (fun _ _ _ h => (hPan _ _ _ h).elim) (fun w h => ?y3) ?_; (case y3 => (try dsimp only at h); go_simp; try (with_reducible rfl)); try simp only [Act.put, sa, s0, s1]
      refine tk 3 q1cf_32_2_3 (some 20) (v := ?v4) rfl rfl (by kernel_rfl) hHeld (by rfl) (fun _ _ _ h => (hPan _ _ _ h).elim) (fun w h => ?y4) ?_; (case y4 => (try dsimp only at h); go_simp; try (with_reducible rfl)); try simp only [Act.put, sa, s0, s1]
      refine tk 4 q1cf_32_2_4 (some 21) (v := ?v5) rfl rfl (by kernel_rfl) hHeld (by rfl) (fun _ _ _ h => (hPan _ _ _ h).elim) (fun w h => ?y5) ?_; (case y5 => (try dsimp only at h); go_simp; try (with_reducible rfl)); try simp only [Act.put, sa, s0, s1]
      refine tk 6 q1cf_32_2_6 (some 23) (v := ?v6) rfl rfl (by kernel_rfl) hHeld (by rfl) (fun _ _ _ h => (hPan _ _ _ h).elim) (fun w h => ?y6) ?_; (case y6 => (try dsimp only at h); go_simp; try (with_reducible rfl)); try simp only [Act.put, sa, s0, s1]
      refine tk 7 q1cf_32_2_7 (some 24) (v := ?v7) rfl rfl (by kernel_rfl) hHeld (by rfl) (fun _ _ _ h => (hPan _ _ _ h).elim) (fun w h => ?y7) ?_; (case y7 => (try dsimp only at h); go_simp; try (with_reducible rfl)); try simp only [Act.put, sa, s0, s1]
      refine tk 8 q1cf_32_2_8 (some 25) (v := ?v8) rfl rfl (by kernel_rfl) hHeld (by rfl) (fun _ _ _ h => (hPan _ _ _ h).elim) (fun w h => ?y8) ?_; (case y8 => (try dsimp only at h); go_simp; try (with_reducible rfl)); try simp only [Act.put, sa, s0, s1]
      refine tk 9 q1cf_32_2_9 (some 26) (v := ?v9) rfl rfl (by kernel_rfl) hHeld (by rfl) (fun _ _ _ h => (hPan _ _ _ h).elim) (fun w h => ?y9) ?_; (case y9 => (try dsimp only at h); go_simp; try (with_reducible rfl)); try simp only [Act.put, sa, s0, s1]
      refine wpAnyH_ready (rs := [5, 14]) (by kernel_rfl) (by simp) ?_
      refine (AllReadyH.cons (o := q1cf_32_2_5) rfl (fun K hK => ?_) (AllReadyH.cons (o := q1cf_32_2_14) rfl (fun K hK => ?_) AllReadyH.nil))
      · go_simp
        obtain ⟨wE5, hq5⟩ : ∃ q, q = wS.alloc (.cells #[.int .i64 it.fD.fR, .int .i64 it.fD.fN, .slice ai it.fDeps.length ci] 52) := ⟨_, rfl⟩
        have hop5 : Below wS.heap.size wS wE5 := by rw [hq5]; exact (Below.refl _ _).alloc (Nat.le_refl _) _
        have hSwE5 := bthen hSwS hop5
        obtain ⟨g5, HG5⟩ : ∃ z, Hid (z = wS.heap.size) := ⟨_, Hid.mk rfl⟩
        have HB5 : Hid (Bx wE5 g5 [.int .i64 it.fD.fR, .int .i64 it.fD.fN, .slice ai it.fDeps.length ci]) := by unfold Hid; rw [HG5.out, hq5]; exact Bx.new _ _ _
        rw [← HG5.out]
        rw [← hq5]
        clear hq5
        refine hK.out _ _ (hSwE5) (fun hHeld => ?_)
        clear hK K
        try simp only [Act.put, sa, s0, s1]
        refine wpAnyH_ready (rs := [10, 14]) (by kernel_rfl) (by simp) ?_
        refine (AllReadyH.cons (o := q1cf_32_2_10) rfl (fun K hK => ?_) (AllReadyH.cons (o := q1cf_32_2_14) rfl (fun K hK => ?_) AllReadyH.nil))
        · go_simp
          obtain ⟨wE10, hq10⟩ : ∃ q, q = wE5.alloc (.cells #[.slice none 0 c, .slice (some ⟨g5, 0, none⟩) 1 1, .slice none 0 c] 28) := ⟨_, rfl⟩
          have hop10 : Below wE5.heap.size wE5 wE10 := by rw [hq10]; exact (Below.refl _ _).alloc (Nat.le_refl _) _
          have hSwE10 := bthen hSwE5 hop10
          obtain ⟨g10, HG10⟩ : ∃ z, Hid (z = wE5.heap.size) := ⟨_, Hid.mk rfl⟩
          have HB10 : Hid (Bx wE10 g10 [.slice none 0 c, .slice (some ⟨g5, 0, none⟩) 1 1, .slice none 0 c]) := by unfold Hid; rw [HG10.out, hq10]; exact Bx.new _ _ _
          rw [← HG10.out]
          rw [← hq10]
          clear hq10
          refine hK.out _ _ (hSwE10) (fun hHeld => ?_)
          clear hK K
          try simp only [Act.put, sa, s0, s1]
          refine wpAnyH_ready (rs := [11, 14]) (by kernel_rfl) (by simp) ?_
          refine (AllReadyH.cons (o := q1cf_32_2_11) rfl (fun K hK => ?_) (AllReadyH.cons (o := q1cf_32_2_14) rfl (fun K hK => ?_) AllReadyH.nil))
          · go_simp
            have hf5 := (show Below wE5.heap.size wE5 wE10 from bthen (Below.refl _ _) hop10)
            have hf10 := (show Below wE10.heap.size wE10 wE10 from Below.refl _ _)
            have hfS := hSwE10
            refine Calls.mono (concatItem_any g10 3 [(none, c, l.take 0), (some ⟨g5, 0, none⟩, 1, [it]), (none, c, l.drop 0)] wE10 rfl (by omega) (HB10.out.under hf10).1 (fun i h => cat3 (HB10.out.under hf10) H1.out H2.out i h) (fun i h => leaf3 ((HL1.out.below rItem_good hfS).mono rItem_good hfS.size) (leaf_one (HB5.out.under hf5) (rItem_good.below HIc.out (hfS.mono hb1.size)) (Nat.le_trans hb1.size hfS.size)) ((HL2.out.below rItem_good hfS).mono rItem_good hfS.size) i h) (sum3 H1.out H2.out (by omega))) ?_
            rintro e wE11 ⟨v11, rfl, hrow11, hop11⟩
            rw [cat_ins] at hrow11
            have hSwE11 := bthen hSwE10 hop11
            obtain ⟨a11, c11, rfl, hL11⟩ := RowR.leaf rItem_good hrow11 hop11.size
            have HL11 := Hid.mk hL11
            clear hrow11 hL11
            go_wp2_with fail
            refine hK.out _ _ (hSwE11) (fun hHeld => ?_)
            clear hK K
            try simp only [Act.put, sa, s0, s1]
            refine tk 12 q1cf_32_2_12 (some 29) (v := ?v10) rfl rfl (by kernel_rfl) hHeld (by rfl) (fun _ _ _ h => (hPan _ _ _ h).elim) (fun w h => ?y10) ?_; (case y10 => (try dsimp only at h); go_simp; try (with_reducible rfl)); try simp only [Act.put, sa, s0, s1]
            refine wpAnyH_ready (rs := [13, 14]) (by kernel_rfl) (by simp) ?_
            refine (AllReadyH.cons (o := q1cf_32_2_13) rfl (fun K hK => ?_) (AllReadyH.cons (o := q1cf_32_2_14) rfl (fun K hK => ?_) AllReadyH.nil))
            · go_simp
              have hf11 := (show Below wE11.heap.size wE11 wE11 from Below.refl _ _)
              refine Calls.mono (copyGraph_any [.slice a11 (insAt l 0 it).length c11] ⟨insAt l 0 it⟩ wE11 ⟨a11, c11, rfl, (HL11.out.below rItem_good hf11).mono rItem_good hf11.size, trivial⟩ HNI.out HDI.out) ?_
              rintro e wE13 ⟨cs13, F13, rfl, ho13, hN13, hge13, hop13⟩
              have hSwE13 := bthen hSwE11 hop13
              have hgeS : ∀ b, b ∈ F13 → w1.heap.size ≤ b := fun b hb => Nat.le_trans (Below.size hSwE11) (hge13 b hb)
              obtain ⟨v13, F0, rfl, ho13, rfl⟩ := ho13
              replace ho13 : ownS 3 52 oItem wE13 v13 (insAt l 0 it) F0 := ho13
              obtain ⟨a13, c13, rfl, _⟩ := id (ownS.read oItem_good ho13)
              have HO13 := Hid.mk ho13
              have HN13 := Hid.mk hN13
              have HGE13 := Hid.mk hge13
              have HGES := Hid.mk hgeS
              clear ho13 hN13 hge13 hgeS
              go_wp2_with fail
              refine hK.out _ _ (hSwE13) (fun hHeld => ?_)
              clear hK K
              try simp only [Act.put, sa, s0, s1]
              refine wpAnyH_ready (rs := [14]) (by kernel_rfl) (by simp) ?_
              refine (AllReadyH.cons (o := q1cf_32_2_14) rfl (fun K hK => ?_) AllReadyH.nil)
              · go_simp
                obtain ⟨wE14, hq14⟩ : ∃ q, q = wE13.alloc (.cells #[.slice none 0 0] 30) := ⟨_, rfl⟩
                have hop14 : Below wE13.heap.size wE13 wE14 := by rw [hq14]; exact (Below.refl _ _).alloc (Nat.le_refl _) _
                have hSwE14 := bthen hSwE13 hop14
                obtain ⟨g14, HG14⟩ : ∃ z, Hid (z = wE13.heap.size) := ⟨_, Hid.mk rfl⟩
                have HB14 : Hid (Bw wE14 g14 30 [.slice none 0 0]) := by unfold Hid; rw [HG14.out, hq14]; exact Bw.new _ _ _
                have HGw : Hid (w1.heap.size ≤ g14) := by unfold Hid; rw [HG14.out]; exact Below.size hSwE13
                rw [← HG14.out]
                rw [← hq14]
                clear hq14
                refine hK.out _ _ (hSwE14) (fun hHeld => ?_)
                clear hK K
                try simp only [Act.put, sa, s0, s1]
                refine wpAnyH_ready (rs := [15]) (by kernel_rfl) (by simp) ?_
                refine (AllReadyH.cons (o := q1cf_32_2_15) rfl (fun K hK => ?_) AllReadyH.nil)
                · skip
                  have hb14 := HB14.out.under (show Below wE14.heap.size wE14 wE14 from Below.refl _ _)
                  have s0 := hb14.cell 0 _ rfl
                  have sf0 := hb14.free 0
                  have hl14 := hb14.lt
                  go_simp
                  obtain ⟨wE15, hq15⟩ : ∃ q, q = wE14.setCell ⟨g14, 0, none⟩ (.slice a13 (insAt l 0 it).length c13) := ⟨_, rfl⟩
                  have hT15 : Turn [g14] wE14 wE15 := by rw [hq15]; exact (Turn.refl _ _).setCell (by simp) _
                  have hbx15 : Bw wE15 g14 30 [(.slice a13 (insAt l 0 it).length c13)] := by rw [hq15]; exact hb14.put 0 _
                  have hSwE15 : Below w1.heap.size w1 wE15 := (hSwE14).trans (hT15.below (fun k hk => by simp at hk; subst hk; exact HGw.out) (Below.size hSwE14))
                  have hf13 := (show Below wE13.heap.size wE13 wE14 from bthen (Below.refl _ _) hop14)
                  have hf14 := (show Below wE14.heap.size wE14 wE14 from Below.refl _ _)
                  rw [← hq15]
                  clear hq15 s0 sf0
                  refine hK.out _ _ (hSwE15) (fun hHeld => ?_)
                  clear hK K
                  try simp only [Act.put, sa, s0, s1]
                  refine wpAnyH_done (by kernel_rfl) ?_ _
                  rw [HQ.out]
                  have hne : ∀ b, b ∈ F0 ++ [] → b ≠ g14 := fun b hb h => by have h1 := HGE13.out b hb; have h2 : b < wE13.heap.size := (by rw [List.append_nil] at hb; exact ownS.lt oItem_good HO13.out b hb); have h3 := HB14.out.lt; have h4 := HG14.out; have h5 := hop5.size; have h6 := hop10.size; have h7 := hop11.size; have h8 := hop13.size; have h9 := hop14.size; omega
                  have ho15 : ownS 3 52 oItem wE15 (.slice a13 (insAt l 0 it).length c13) (insAt l 0 it) F0 := ownS.frame oItem_good (ownS.frame oItem_good HO13.out (fun b hb => hf13.block b (ownS.lt oItem_good HO13.out b hb))) (fun b hb => hT15.block b (Nat.lt_of_lt_of_le (ownS.lt oItem_good HO13.out b hb) hf13.size) (by intro h; simp at h; exact hne b (by simpa using hb) h))
                  exact ⟨rfl, _, _, _, _, _, _, _, _, _, _, _, _, _, _, _, _, _, _, _, _, _, _, _, _, _, _, _, _, _, _, _, _, g14, _, F0, rfl, hbx15, ho15, by simpa using HN13.out, fun b hb => ⟨HGES.out b (by simpa using hb), hne b (by simpa using hb)⟩, HGw.out, hSwE15⟩
            · go_simp
              obtain ⟨wE14, hq14⟩ : ∃ q, q = wE11.alloc (.cells #[.slice none 0 0] 30) := ⟨_, rfl⟩
              have hop14 : Below wE11.heap.size wE11 wE14 := by rw [hq14]; exact (Below.refl _ _).alloc (Nat.le_refl _) _
              have hSwE14 := bthen hSwE11 hop14
              obtain ⟨g14, HG14⟩ : ∃ z, Hid (z = wE11.heap.size) := ⟨_, Hid.mk rfl⟩
              have HB14 : Hid (Bw wE14 g14 30 [.slice none 0 0]) := by unfold Hid; rw [HG14.out, hq14]; exact Bw.new _ _ _
              have HGw : Hid (w1.heap.size ≤ g14) := by unfold Hid; rw [HG14.out]; exact Below.size hSwE11
              rw [← HG14.out]
              rw [← hq14]
              clear hq14
              refine hK.out _ _ (hSwE14) (fun hHeld => ?_)
              clear hK K
              try simp only [Act.put, sa, s0, s1]
              refine wpAnyH_ready (rs := [13]) (by kernel_rfl) (by simp) ?_
              refine (AllReadyH.cons (o := q1cf_32_2_13) rfl (fun K hK => ?_) AllReadyH.nil)
              · go_simp
                have hf11 := (show Below wE11.heap.size wE11 wE14 from bthen (Below.refl _ _) hop14)
                refine Calls.mono (copyGraph_any [.slice a11 (insAt l 0 it).length c11] ⟨insAt l 0 it⟩ wE14 ⟨a11, c11, rfl, (HL11.out.below rItem_good hf11).mono rItem_good hf11.size, trivial⟩ HNI.out HDI.out) ?_
                rintro e wE13 ⟨cs13, F13, rfl, ho13, hN13, hge13, hop13⟩
                have hSwE13 := bthen hSwE14 hop13
                have hgeS : ∀ b, b ∈ F13 → w1.heap.size ≤ b := fun b hb => Nat.le_trans (Below.size hSwE14) (hge13 b hb)
                obtain ⟨v13, F0, rfl, ho13, rfl⟩ := ho13
                replace ho13 : ownS 3 52 oItem wE13 v13 (insAt l 0 it) F0 := ho13
                obtain ⟨a13, c13, rfl, _⟩ := id (ownS.read oItem_good ho13)
                have HO13 := Hid.mk ho13
                have HN13 := Hid.mk hN13
                have HGE13 := Hid.mk hge13
                have HGES := Hid.mk hgeS
                clear ho13 hN13 hge13 hgeS
                go_wp2_with fail
                refine hK.out _ _ (hSwE13) (fun hHeld => ?_)
                clear hK K
                try simp only [Act.put, sa, s0, s1]
                refine wpAnyH_ready (rs := [15]) (by kernel_rfl) (by simp) ?_
                refine (AllReadyH.cons (o := q1cf_32_2_15) rfl (fun K hK => ?_) AllReadyH.nil)
                · skip
                  have hb14 := HB14.out.under (show Below wE14.heap.size wE14 wE13 from bthen (Below.refl _ _) hop13)
                  have s0 := hb14.cell 0 _ rfl
                  have sf0 := hb14.free 0
                  have hl14 := hb14.lt
                  go_simp
                  obtain ⟨wE15, hq15⟩ : ∃ q, q = wE13.setCell ⟨g14, 0, none⟩ (.slice a13 (insAt l 0 it).length c13) := ⟨_, rfl⟩
                  have hT15 : Turn [g14] wE13 wE15 := by rw [hq15]; exact (Turn.refl _ _).setCell (by simp) _
                  have hbx15 : Bw wE15 g14 30 [(.slice a13 (insAt l 0 it).length c13)] := by rw [hq15]; exact hb14.put 0 _
                  have hSwE15 : Below w1.heap.size w1 wE15 := (hSwE13).trans (hT15.below (fun k hk => by simp at hk; subst hk; exact HGw.out) (Below.size hSwE13))
                  have hf13 := (show Below wE13.heap.size wE13 wE13 from Below.refl _ _)
                  have hf14 := (show Below wE14.heap.size wE14 wE13 from bthen (Below.refl _ _) hop13)
                  rw [← hq15]
                  clear hq15 s0 sf0
                  refine hK.out _ _ (hSwE15) (fun hHeld => ?_)
                  clear hK K
                  try simp only [Act.put, sa, s0, s1]
                  refine wpAnyH_done (by kernel_rfl) ?_ _
                  rw [HQ.out]
                  have hne : ∀ b, b ∈ F0 ++ [] → b ≠ g14 := fun b hb h => by have h1 := HGE13.out b hb; have h2 : b < wE13.heap.size := (by rw [List.append_nil] at hb; exact ownS.lt oItem_good HO13.out b hb); have h3 := HB14.out.lt; have h4 := HG14.out; have h5 := hop5.size; have h6 := hop10.size; have h7 := hop11.size; have h8 := hop13.size; have h9 := hop14.size; omega
                  have ho15 : ownS 3 52 oItem wE15 (.slice a13 (insAt l 0 it).length c13) (insAt l 0 it) F0 := ownS.frame oItem_good (ownS.frame oItem_good HO13.out (fun b hb => hf13.block b (ownS.lt oItem_good HO13.out b hb))) (fun b hb => hT15.block b (Nat.lt_of_lt_of_le (ownS.lt oItem_good HO13.out b hb) hf13.size) (by intro h; simp at h; exact hne b (by simpa using hb) h))
                  exact ⟨rfl, _, _, _, _, _, _, _, _, _, _, _, _, _, _, _, _, _, _, _, _, _, _, _, _, _, _, _, _, _, _, _, _, g14, _, F0, rfl, hbx15, ho15, by simpa using HN13.out, fun b hb => ⟨HGES.out b (by simpa using hb), hne b (by simpa using hb)⟩, HGw.out, hSwE15⟩
          · go_simp
            obtain ⟨wE14, hq14⟩ : ∃ q, q = wE10.alloc (.cells #[.slice none 0 0] 30) := ⟨_, rfl⟩
            have hop14 : Below wE10.heap.size wE10 wE14 := by rw [hq14]; exact (Below.refl _ _).alloc (Nat.le_refl _) _
            have hSwE14 := bthen hSwE10 hop14
            obtain ⟨g14, HG14⟩ : ∃ z, Hid (z = wE10.heap.size) := ⟨_, Hid.mk rfl⟩
            have HB14 : Hid (Bw wE14 g14 30 [.slice none 0 0]) := by unfold Hid; rw [HG14.out, hq14]; exact Bw.new _ _ _
            have HGw : Hid (w1.heap.size ≤ g14) := by unfold Hid; rw [HG14.out]; exact Below.size hSwE10
            rw [← HG14.out]
            rw [← hq14]
            clear hq14
            refine hK.out _ _ (hSwE14) (fun hHeld => ?_)
            clear hK K
            try simp only [Act.put, sa, s0, s1]
            refine wpAnyH_ready (rs := [11]) (by kernel_rfl) (by simp) ?_
            refine (AllReadyH.cons (o := q1cf_32_2_11) rfl (fun K hK => ?_) AllReadyH.nil)
            · go_simp
              have hf5 := (show Below wE5.heap.size wE5 wE14 from bthen (bthen (Below.refl _ _) hop10) hop14)
              have hf10 := (show Below wE10.heap.size wE10 wE14 from bthen (Below.refl _ _) hop14)
              have hfS := hSwE14
              refine Calls.mono (concatItem_any g10 3 [(none, c, l.take 0), (some ⟨g5, 0, none⟩, 1, [it]), (none, c, l.drop 0)] wE14 rfl (by omega) (HB10.out.under hf10).1 (fun i h => cat3 (HB10.out.under hf10) H1.out H2.out i h) (fun i h => leaf3 ((HL1.out.below rItem_good hfS).mono rItem_good hfS.size) (leaf_one (HB5.out.under hf5) (rItem_good.below HIc.out (hfS.mono hb1.size)) (Nat.le_trans hb1.size hfS.size)) ((HL2.out.below rItem_good hfS).mono rItem_good hfS.size) i h) (sum3 H1.out H2.out (by omega))) ?_
              rintro e wE11 ⟨v11, rfl, hrow11, hop11⟩
              rw [cat_ins] at hrow11
              have hSwE11 := bthen hSwE14 hop11
              obtain ⟨a11, c11, rfl, hL11⟩ := RowR.leaf rItem_good hrow11 hop11.size
              have HL11 := Hid.mk hL11
              clear hrow11 hL11
              go_wp2_with fail
              refine hK.out _ _ (hSwE11) (fun hHeld => ?_)
              clear hK K
              try simp only [Act.put, sa, s0, s1]
              refine tk 12 q1cf_32_2_12 (some 29) (v := ?v11) rfl rfl (by kernel_rfl) hHeld (by rfl) (fun _ _ _ h => (hPan _ _ _ h).elim) (fun w h => ?y11) ?_; (case y11 => (try dsimp only at h); go_simp; try (with_reducible rfl)); try simp only [Act.put, sa, s0, s1]
              refine wpAnyH_ready (rs := [13]) (by kernel_rfl) (by simp) ?_
              refine (AllReadyH.cons (o := q1cf_32_2_13) rfl (fun K hK => ?_) AllReadyH.nil)
              · go_simp
                have hf11 := (show Below wE11.heap.size wE11 wE11 from Below.refl _ _)
                refine Calls.mono (copyGraph_any [.slice a11 (insAt l 0 it).length c11] ⟨insAt l 0 it⟩ wE11 ⟨a11, c11, rfl, (HL11.out.below rItem_good hf11).mono rItem_good hf11.size, trivial⟩ HNI.out HDI.out) ?_
                rintro e wE13 ⟨cs13, F13, rfl, ho13, hN13, hge13, hop13⟩
                have hSwE13 := bthen hSwE11 hop13
                have hgeS : ∀ b, b ∈ F13 → w1.heap.size ≤ b := fun b hb => Nat.le_trans (Below.size hSwE11) (hge13 b hb)
                obtain ⟨v13, F0, rfl, ho13, rfl⟩ := ho13
                replace ho13 : ownS 3 52 oItem wE13 v13 (insAt l 0 it) F0 := ho13
                obtain ⟨a13, c13, rfl, _⟩ := id (ownS.read oItem_good ho13)
                have HO13 := Hid.mk ho13
                have HN13 := Hid.mk hN13
                have HGE13 := Hid.mk hge13
                have HGES := Hid.mk hgeS
                clear ho13 hN13 hge13 hgeS
                go_wp2_with fail
                refine hK.out _ _ (hSwE13) (fun hHeld => ?_)
                clear hK K
                try simp only [Act.put, sa, s0, s1]
                refine wpAnyH_ready (rs := [15]) (by kernel_rfl) (by simp) ?_
                refine (AllReadyH.cons (o := q1cf_32_2_15) rfl (fun K hK => ?_) AllReadyH.nil)
                · skip
                  have hb14 := HB14.out.under (show Below wE14.heap.size wE14 wE13 from bthen (bthen (Below.refl _ _) hop11) hop13)
                  have s0 := hb14.cell 0 _ rfl
                  have sf0 := hb14.free 0
                  have hl14 := hb14.lt
                  go_simp
                  obtain ⟨wE15, hq15⟩ : ∃ q, q = wE13.setCell ⟨g14, 0, none⟩ (.slice a13 (insAt l 0 it).length c13) := ⟨_, rfl⟩
                  have hT15 : Turn [g14] wE13 wE15 := by rw [hq15]; exact (Turn.refl _ _).setCell (by simp) _
                  have hbx15 : Bw wE15 g14 30 [(.slice a13 (insAt l 0 it).length c13)] := by rw [hq15]; exact hb14.put 0 _
                  have hSwE15 : Below w1.heap.size w1 wE15 := (hSwE13).trans (hT15.below (fun k hk => by simp at hk; subst hk; exact HGw.out) (Below.size hSwE13))
                  have hf13 := (show Below wE13.heap.size wE13 wE13 from Below.refl _ _)
                  have hf14 := (show Below wE14.heap.size wE14 wE13 from bthen (bthen (Below.refl _ _) hop11) hop13)
                  rw [← hq15]
                  clear hq15 s0 sf0
                  refine hK.out _ _ (hSwE15) (fun hHeld => ?_)
                  clear hK K
                  try simp only [Act.put, sa, s0, s1]
                  refine wpAnyH_done (by kernel_rfl) ?_ _
                  rw [HQ.out]
                  have hne : ∀ b, b ∈ F0 ++ [] → b ≠ g14 := fun b hb h => by have h1 := HGE13.out b hb; have h2 : b < wE13.heap.size := (by rw [List.append_nil] at hb; exact ownS.lt oItem_good HO13.out b hb); have h3 := HB14.out.lt; have h4 := HG14.out; have h5 := hop5.size; have h6 := hop10.size; have h7 := hop11.size; have h8 := hop13.size; have h9 := hop14.size; omega
                  have ho15 : ownS 3 52 oItem wE15 (.slice a13 (insAt l 0 it).length c13) (insAt l 0 it) F0 := ownS.frame oItem_good (ownS.frame oItem_good HO13.out (fun b hb => hf13.block b (ownS.lt oItem_good HO13.out b hb))) (fun b hb => hT15.block b (Nat.lt_of_lt_of_le (ownS.lt oItem_good HO13.out b hb) hf13.size) (by intro h; simp at h; exact hne b (by simpa using hb) h))
                  exact ⟨rfl, _, _, _, _, _, _, _, _, _, _, _, _, _, _, _, _, _, _, _, _, _, _, _, _, _, _, _, _, _, _, _, _, g14, _, F0, rfl, hbx15, ho15, by simpa using HN13.out, fun b hb => ⟨HGES.out b (by simpa using hb), hne b (by simpa using hb)⟩, HGw.out, hSwE15⟩
        · go_simp
          obtain ⟨wE14, hq14⟩ : ∃ q, q = wE5.alloc (.cells #[.slice none 0 0] 30) := ⟨_, rfl⟩
          have hop14 : Below wE5.heap.size wE5 wE14 := by rw [hq14]; exact (Below.refl _ _).alloc (Nat.le_refl _) _
          have hSwE14 := bthen hSwE5 hop14
          obtain ⟨g14, HG14⟩ : ∃ z, Hid (z = wE5.heap.size) := ⟨_, Hid.mk rfl⟩
          have HB14 : Hid (Bw wE14 g14 30 [.slice none 0 0]) := by unfold Hid; rw [HG14.out, hq14]; exact Bw.new _ _ _
          have HGw : Hid (w1.heap.size ≤ g14) := by unfold Hid; rw [HG14.out]; exact Below.size hSwE5
          rw [← HG14.out]
          rw [← hq14]
          clear hq14
          refine hK.out _ _ (hSwE14) (fun hHeld => ?_)
          clear hK K
          try simp only [Act.put, sa, s0, s1]
          refine wpAnyH_ready (rs := [10]) (by kernel_rfl) (by simp) ?_
          refine (AllReadyH.cons (o := q1cf_32_2_10) rfl (fun K hK => ?_) AllReadyH.nil)
          · go_simp
            obtain ⟨wE10, hq10⟩ : ∃ q, q = wE14.alloc (.cells #[.slice none 0 c, .slice (some ⟨g5, 0, none⟩) 1 1, .slice none 0 c] 28) := ⟨_, rfl⟩
            have hop10 : Below wE14.heap.size wE14 wE10 := by rw [hq10]; exact (Below.refl _ _).alloc (Nat.le_refl _) _
            have hSwE10 := bthen hSwE14 hop10
            obtain ⟨g10, HG10⟩ : ∃ z, Hid (z = wE14.heap.size) := ⟨_, Hid.mk rfl⟩
            have HB10 : Hid (Bx wE10 g10 [.slice none 0 c, .slice (some ⟨g5, 0, none⟩) 1 1, .slice none 0 c]) := by unfold Hid; rw [HG10.out, hq10]; exact Bx.new _ _ _
            rw [← HG10.out]
            rw [← hq10]
            clear hq10
            refine hK.out _ _ (hSwE10) (fun hHeld => ?_)
            clear hK K
            try simp only [Act.put, sa, s0, s1]
            refine wpAnyH_ready (rs := [11]) (by kernel_rfl) (by simp) ?_
            refine (AllReadyH.cons (o := q1cf_32_2_11) rfl (fun K hK => ?_) AllReadyH.nil)
            · go_simp
              have hf5 := (show Below wE5.heap.size wE5 wE10 from bthen (bthen (Below.refl _ _) hop14) hop10)
              have hf10 := (show Below wE10.heap.size wE10 wE10 from Below.refl _ _)
              have hfS := hSwE10
              refine Calls.mono (concatItem_any g10 3 [(none, c, l.take 0), (some ⟨g5, 0, none⟩, 1, [it]), (none, c, l.drop 0)] wE10 rfl (by omega) (HB10.out.under hf10).1 (fun i h => cat3 (HB10.out.under hf10) H1.out H2.out i h) (fun i h => leaf3 ((HL1.out.below rItem_good hfS).mono rItem_good hfS.size) (leaf_one (HB5.out.under hf5) (rItem_good.below HIc.out (hfS.mono hb1.size)) (Nat.le_trans hb1.size hfS.size)) ((HL2.out.below rItem_good hfS).mono rItem_good hfS.size) i h) (sum3 H1.out H2.out (by omega))) ?_
              rintro e wE11 ⟨v11, rfl, hrow11, hop11⟩
              rw [cat_ins] at hrow11
              have hSwE11 := bthen hSwE10 hop11
              obtain ⟨a11, c11, rfl, hL11⟩ := RowR.leaf rItem_good hrow11 hop11.size
              have HL11 := Hid.mk hL11
              clear hrow11 hL11
              go_wp2_with fail
              refine hK.out _ _ (hSwE11) (fun hHeld => ?_)
              clear hK K
              try simp only [Act.put, sa, s0, s1]
              refine tk 12 q1cf_32_2_12 (some 29) (v := ?v12) rfl rfl (by kernel_rfl) hHeld (by rfl) (fun _ _ _ h => (hPan _ _ _ h).elim) (fun w h => ?y12) ?_; (case y12 => (try dsimp only at h); go_simp; try (with_reducible rfl)); try simp only [Act.put, sa, s0, s1]
              refine wpAnyH_ready (rs := [13]) (by kernel_rfl) (by simp) ?_
              refine (AllReadyH.cons (o := q1cf_32_2_13) rfl (fun K hK => ?_) AllReadyH.nil)
              · go_simp
                have hf11 := (show Below wE11.heap.size wE11 wE11 from Below.refl _ _)
                refine Calls.mono (copyGraph_any [.slice a11 (insAt l 0 it).length c11] ⟨insAt l 0 it⟩ wE11 ⟨a11, c11, rfl, (HL11.out.below rItem_good hf11).mono rItem_good hf11.size, trivial⟩ HNI.out HDI.out) ?_
                rintro e wE13 ⟨cs13, F13, rfl, ho13, hN13, hge13, hop13⟩
                have hSwE13 := bthen hSwE11 hop13
                have hgeS : ∀ b, b ∈ F13 → w1.heap.size ≤ b := fun b hb => Nat.le_trans (Below.size hSwE11) (hge13 b hb)
                obtain ⟨v13, F0, rfl, ho13, rfl⟩ := ho13
                replace ho13 : ownS 3 52 oItem wE13 v13 (insAt l 0 it) F0 := ho13
                obtain ⟨a13, c13, rfl, _⟩ := id (ownS.read oItem_good ho13)
                have HO13 := Hid.mk ho13
                have HN13 := Hid.mk hN13
                have HGE13 := Hid.mk hge13
                have HGES := Hid.mk hgeS
                clear ho13 hN13 hge13 hgeS
                go_wp2_with fail
                refine hK.out _ _ (hSwE13) (fun hHeld => ?_)
                clear hK K
                try simp only [Act.put, sa, s0, s1]
                refine wpAnyH_ready (rs := [15]) (by kernel_rfl) (by simp) ?_
                refine (AllReadyH.cons (o := q1cf_32_2_15) rfl (fun K hK => ?_) AllReadyH.nil)
                · skip
                  have hb14 := HB14.out.under (show Below wE14.heap.size wE14 wE13 from bthen (bthen (bthen (Below.refl _ _) hop10) hop11) hop13)
                  have s0 := hb14.cell 0 _ rfl
                  have sf0 := hb14.free 0
                  have hl14 := hb14.lt
                  go_simp
                  obtain ⟨wE15, hq15⟩ : ∃ q, q = wE13.setCell ⟨g14, 0, none⟩ (.slice a13 (insAt l 0 it).length c13) := ⟨_, rfl⟩
                  have hT15 : Turn [g14] wE13 wE15 := by rw [hq15]; exact (Turn.refl _ _).setCell (by simp) _
                  have hbx15 : Bw wE15 g14 30 [(.slice a13 (insAt l 0 it).length c13)] := by rw [hq15]; exact hb14.put 0 _
                  have hSwE15 : Below w1.heap.size w1 wE15 := (hSwE13).trans (hT15.below (fun k hk => by simp at hk; subst hk; exact HGw.out) (Below.size hSwE13))
                  have hf13 := (show Below wE13.heap.size wE13 wE13 from Below.refl _ _)
                  have hf14 := (show Below wE14.heap.size wE14 wE13 from bthen (bthen (bthen (Below.refl _ _) hop10) hop11) hop13)
                  rw [← hq15]
                  clear hq15 s0 sf0
                  refine hK.out _ _ (hSwE15) (fun hHeld => ?_)
                  clear hK K
                  try simp only [Act.put, sa, s0, s1]
                  refine wpAnyH_done (by kernel_rfl) ?_ _
                  rw [HQ.out]
                  have hne : ∀ b, b ∈ F0 ++ [] → b ≠ g14 := fun b hb h => by have h1 := HGE13.out b hb; have h2 : b < wE13.heap.size := (by rw [List.append_nil] at hb; exact ownS.lt oItem_good HO13.out b hb); have h3 := HB14.out.lt; have h4 := HG14.out; have h5 := hop5.size; have h6 := hop10.size; have h7 := hop11.size; have h8 := hop13.size; have h9 := hop14.size; omega
                  have ho15 : ownS 3 52 oItem wE15 (.slice a13 (insAt l 0 it).length c13) (insAt l 0 it) F0 := ownS.frame oItem_good (ownS.frame oItem_good HO13.out (fun b hb => hf13.block b (ownS.lt oItem_good HO13.out b hb))) (fun b hb => hT15.block b (Nat.lt_of_lt_of_le (ownS.lt oItem_good HO13.out b hb) hf13.size) (by intro h; simp at h; exact hne b (by simpa using hb) h))
                  exact ⟨rfl, _, _, _, _, _, _, _, _, _, _, _, _, _, _, _, _, _, _, _, _, _, _, _, _, _, _, _, _, _, _, _, _, g14, _, F0, rfl, hbx15, ho15, by simpa using HN13.out, fun b hb => ⟨HGES.out b (by simpa using hb), hne b (by simpa using hb)⟩, HGw.out, hSwE15⟩
      · go_simp
        obtain ⟨wE14, hq14⟩ : ∃ q, q = wS.alloc (.cells #[.slice none 0 0] 30) := ⟨_, rfl⟩
        have hop14 : Below wS.heap.size wS wE14 := by rw [hq14]; exact (Below.refl _ _).alloc (Nat.le_refl _) _
        have hSwE14 := bthen hSwS hop14
        obtain ⟨g14, HG14⟩ : ∃ z, Hid (z = wS.heap.size) := ⟨_, Hid.mk rfl⟩
        have HB14 : Hid (Bw wE14 g14 30 [.slice none 0 0]) := by unfold Hid; rw [HG14.out, hq14]; exact Bw.new _ _ _
        have HGw : Hid (w1.heap.size ≤ g14) := by unfold Hid; rw [HG14.out]; exact Below.size hSwS
        rw [← HG14.out]
        rw [← hq14]
        clear hq14
        refine hK.out _ _ (hSwE14) (fun hHeld => ?_)
        clear hK K
        try simp only [Act.put, sa, s0, s1]
        refine wpAnyH_ready (rs := [5]) (by kernel_rfl) (by simp) ?_
        refine (AllReadyH.cons (o := q1cf_32_2_5) rfl (fun K hK => ?_) AllReadyH.nil)
        · go_simp
          obtain ⟨wE5, hq5⟩ : ∃ q, q = wE14.alloc (.cells #[.int .i64 it.fD.fR, .int .i64 it.fD.fN, .slice ai it.fDeps.length ci] 52) := ⟨_, rfl⟩
          have hop5 : Below wE14.heap.size wE14 wE5 := by rw [hq5]; exact (Below.refl _ _).alloc (Nat.le_refl _) _
          have hSwE5 := bthen hSwE14 hop5
          obtain ⟨g5, HG5⟩ : ∃ z, Hid (z = wE14.heap.size) := ⟨_, Hid.mk rfl⟩
          have HB5 : Hid (Bx wE5 g5 [.int .i64 it.fD.fR, .int .i64 it.fD.fN, .slice ai it.fDeps.length ci]) := by unfold Hid; rw [HG5.out, hq5]; exact Bx.new _ _ _
          rw [← HG5.out]
          rw [← hq5]
          clear hq5
          refine hK.out _ _ (hSwE5) (fun hHeld => ?_)
          clear hK K
          try simp only [Act.put, sa, s0, s1]
          refine wpAnyH_ready (rs := [10]) (by kernel_rfl) (by simp) ?_
          refine (AllReadyH.cons (o := q1cf_32_2_10) rfl (fun K hK => ?_) AllReadyH.nil)
          · go_simp
            obtain ⟨wE10, hq10⟩ : ∃ q, q = wE5.alloc (.cells #[.slice none 0 c, .slice (some ⟨g5, 0, none⟩) 1 1, .slice none 0 c] 28) := ⟨_, rfl⟩
            have hop10 : Below wE5.heap.size wE5 wE10 := by rw [hq10]; exact (Below.refl _ _).alloc (Nat.le_refl _) _
            have hSwE10 := bthen hSwE5 hop10
            obtain ⟨g10, HG10⟩ : ∃ z, Hid (z = wE5.heap.size) := ⟨_, Hid.mk rfl⟩
            have HB10 : Hid (Bx wE10 g10 [.slice none 0 c, .slice (some ⟨g5, 0, none⟩) 1 1, .slice none 0 c]) := by unfold Hid; rw [HG10.out, hq10]; exact Bx.new _ _ _
            rw [← HG10.out]
            rw [← hq10]
            clear hq10
            refine hK.out _ _ (hSwE10) (fun hHeld => ?_)
            clear hK K
            try simp only [Act.put, sa, s0, s1]
            refine wpAnyH_ready (rs := [11]) (by kernel_rfl) (by simp) ?_
            refine (AllReadyH.cons (o := q1cf_32_2_11) rfl (fun K hK => ?_) AllReadyH.nil)
            · go_simp
              have hf5 := (show Below wE5.heap.size wE5 wE10 from bthen (Below.refl _ _) hop10)
              have hf10 := (show Below wE10.heap.size wE10 wE10 from Below.refl _ _)
              have hfS := hSwE10
              refine Calls.mono (concatItem_any g10 3 [(none, c, l.take 0), (some ⟨g5, 0, none⟩, 1, [it]), (none, c, l.drop 0)] wE10 rfl (by omega) (HB10.out.under hf10).1 (fun i h => cat3 (HB10.out.under hf10) H1.out H2.out i h) (fun i h => leaf3 ((HL1.out.below rItem_good hfS).mono rItem_good hfS.size) (leaf_one (HB5.out.under hf5) (rItem_good.below HIc.out (hfS.mono hb1.size)) (Nat.le_trans hb1.size hfS.size)) ((HL2.out.below rItem_good hfS).mono rItem_good hfS.size) i h) (sum3 H1.out H2.out (by omega))) ?_
              rintro e wE11 ⟨v11, rfl, hrow11, hop11⟩
              rw [cat_ins] at hrow11
              have hSwE11 := bthen hSwE10 hop11
              obtain ⟨a11, c11, rfl, hL11⟩ := RowR.leaf rItem_good hrow11 hop11.size
              have HL11 := Hid.mk hL11
              clear hrow11 hL11
              go_wp2_with fail
              refine hK.out _ _ (hSwE11) (fun hHeld => ?_)
              clear hK K
              try simp only [Act.put, sa, s0, s1]
              refine tk 12 q1cf_32_2_12 (some 29) (v := ?v13) rfl rfl (by kernel_rfl) hHeld (by rfl) (fun _ _ _ h => (hPan _ _ _ h).elim) (fun w h => ?y13) ?_; (case y13 => (try dsimp only at h); go_simp; try (with_reducible rfl)); try simp only [Act.put, sa, s0, s1]
              refine wpAnyH_ready (rs := [13]) (by kernel_rfl) (by simp) ?_
              refine (AllReadyH.cons (o := q1cf_32_2_13) rfl (fun K hK => ?_) AllReadyH.nil)
              · go_simp
                have hf11 := (show Below wE11.heap.size wE11 wE11 from Below.refl _ _)
                refine Calls.mono (copyGraph_any [.slice a11 (insAt l 0 it).length c11] ⟨insAt l 0 it⟩ wE11 ⟨a11, c11, rfl, (HL11.out.below rItem_good hf11).mono rItem_good hf11.size, trivial⟩ HNI.out HDI.out) ?_
                rintro e wE13 ⟨cs13, F13, rfl, ho13, hN13, hge13, hop13⟩
                have hSwE13 := bthen hSwE11 hop13
                have hgeS : ∀ b, b ∈ F13 → w1.heap.size ≤ b := fun b hb => Nat.le_trans (Below.size hSwE11) (hge13 b hb)
                obtain ⟨v13, F0, rfl, ho13, rfl⟩ := ho13
                replace ho13 : ownS 3 52 oItem wE13 v13 (insAt l 0 it) F0 := ho13
                obtain ⟨a13, c13, rfl, _⟩ := id (ownS.read oItem_good ho13)
                have HO13 := Hid.mk ho13
                have HN13 := Hid.mk hN13
                have HGE13 := Hid.mk hge13
                have HGES := Hid.mk hgeS
                clear ho13 hN13 hge13 hgeS
                go_wp2_with fail
                refine hK.out _ _ (hSwE13) (fun hHeld => ?_)
                clear hK K
                try simp only [Act.put, sa, s0, s1]
                refine wpAnyH_ready (rs := [15]) (by kernel_rfl) (by simp) ?_
                refine (AllReadyH.cons (o := q1cf_32_2_15) rfl (fun K hK => ?_) AllReadyH.nil)
                · skip
                  have hb14 := HB14.out.under (show Below wE14.heap.size wE14 wE13 from bthen (bthen (bthen (bthen (Below.refl _ _) hop5) hop10) hop11) hop13)
                  have s0 := hb14.cell 0 _ rfl
                  have sf0 := hb14.free 0
                  have hl14 := hb14.lt
                  go_simp
                  obtain ⟨wE15, hq15⟩ : ∃ q, q = wE13.setCell ⟨g14, 0, none⟩ (.slice a13 (insAt l 0 it).length c13) := ⟨_, rfl⟩
                  have hT15 : Turn [g14] wE13 wE15 := by rw [hq15]; exact (Turn.refl _ _).setCell (by simp) _
                  have hbx15 : Bw wE15 g14 30 [(.slice a13 (insAt l 0 it).length c13)] := by rw [hq15]; exact hb14.put 0 _
                  have hSwE15 : Below w1.heap.size w1 wE15 := (hSwE13).trans (hT15.below (fun k hk => by simp at hk; subst hk; exact HGw.out) (Below.size hSwE13))
                  have hf13 := (show Below wE13.heap.size wE13 wE13 from Below.refl _ _)
                  have hf14 := (show Below wE14.heap.size wE14 wE13 from bthen (bthen (bthen (bthen (Below.refl _ _) hop5) hop10) hop11) hop13)
                  rw [← hq15]
                  clear hq15 s0 sf0
                  refine hK.out _ _ (hSwE15) (fun hHeld => ?_)
                  clear hK K
                  try simp only [Act.put, sa, s0, s1]
                  refine wpAnyH_done (by kernel_rfl) ?_ _
                  rw [HQ.out]
                  have hne : ∀ b, b ∈ F0 ++ [] → b ≠ g14 := fun b hb h => by have h1 := HGE13.out b hb; have h2 : b < wE13.heap.size := (by rw [List.append_nil] at hb; exact ownS.lt oItem_good HO13.out b hb); have h3 := HB14.out.lt; have h4 := HG14.out; have h5 := hop5.size; have h6 := hop10.size; have h7 := hop11.size; have h8 := hop13.size; have h9 := hop14.size; omega
                  have ho15 : ownS 3 52 oItem wE15 (.slice a13 (insAt l 0 it).length c13) (insAt l 0 it) F0 := ownS.frame oItem_good (ownS.frame oItem_good HO13.out (fun b hb => hf13.block b (ownS.lt oItem_good HO13.out b hb))) (fun b hb => hT15.block b (Nat.lt_of_lt_of_le (ownS.lt oItem_good HO13.out b hb) hf13.size) (by intro h; simp at h; exact hne b (by simpa using hb) h))
                  exact ⟨rfl, _, _, _, _, _, _, _, _, _, _, _, _, _, _, _, _, _, _, _, _, _, _, _, _, _, _, _, _, _, _, _, _, g14, _, F0, rfl, hbx15, ho15, by simpa using HN13.out, fun b hb => ⟨HGES.out b (by simpa using hb), hne b (by simpa using hb)⟩, HGw.out, hSwE15⟩
    | some ad =>
      by_cases hn00 : n = 0
      · have hp00 : p = 0 := by omega
        subst hn00
        subst hp00
        have hl00 : l = [] := List.eq_nil_of_length_eq_zero HX.out
        have HL1 : Hid (LeafL 3 rItem w1.heap.size w1 (some ad) c (l.take 0)) := by unfold Hid; rw [hl00]; rw [hl00] at HLc; exact HLc.out
        have HL2 : Hid (LeafL 3 rItem w1.heap.size w1 (some ad) c (l.drop 0)) := by unfold Hid; rw [hl00]; rw [hl00] at HLc; exact HLc.out
        clear hl00
        have hadd : ad.add 0 = ad := rfl
        refine wp_region_held_drew (S := fun W => Below w1.heap.size w1 W) (by kernel_rfl) (Below.drew (Below.refl _ _)) (fun hHeld => ?_)
        obtain ⟨wS, hwS⟩ : ∃ wS, wS = w1.drew := ⟨_, rfl⟩
        have hSwS : Below w1.heap.size w1 wS := by rw [hwS]; exact Below.drew (Below.refl _ _)
        rw [← hwS] at hHeld ⊢
        clear hwS
        refine tk 0 q1cf_32_2_0 (some 17) (v := ?v14) rfl rfl (by kernel_rfl) hHeld (by rfl) (fun _ _ _ h => (hPan _ _ _ h).elim) (fun w h => ?y14) ?_; (case y14 => (try dsimp only at h); go_simp; try (with_reducible rfl)); try simp only [Act.put, sa, s0, s1]
        refine tk 1 q1cf_32_2_1 (some 18) (v := ?v15) rfl rfl (by kernel_rfl) hHeld (by rfl) (fun _ _ _ h => (hPan _ _ _ h).elim) (fun w h => ?y15) ?_; (case y15 => (try dsimp only at h); go_simp; try (with_reducible rfl)); try simp only [Act.put, sa, s0, s1]
        refine tk 2 q1cf_32_2_2 (some 19) (v := ?v16) rfl rfl (by kernel_rfl) hHeld (by rfl) (fun _ _ _ h => (hPan _ _ _ h).elim) (fun w h => ?y16) ?_; (case y16 => (try dsimp only at h); go_simp; try (with_reducible rfl)); try simp only [Act.put, sa, s0, s1]
        refine tk 3 q1cf_32_2_3 (some 20) (v := ?v17) rfl rfl (by kernel_rfl) hHeld (by rfl) (fun _ _ _ h => (hPan _ _ _ h).elim) (fun w h => ?y17) ?_; (case y17 => (try dsimp only at h); go_simp; try (with_reducible rfl)); try simp only [Act.put, sa, s0, s1]
        refine tk 4 q1cf_32_2_4 (some 21) (v := ?v18) rfl rfl (by kernel_rfl) hHeld (by rfl) (fun _ _ _ h => (hPan _ _ _ h).elim) (fun w h => ?y18) ?_; (case y18 => (try dsimp only at h); go_simp; try (with_reducible rfl)); try simp only [Act.put, sa, s0, s1]
        refine tk 6 q1cf_32_2_6 (some 23) (v := ?v19) rfl rfl (by kernel_rfl) hHeld (by rfl) (fun _ _ _ h => (hPan _ _ _ h).elim) (fun w h => ?y19) ?_; (case y19 => (try dsimp only at h); go_simp; try (with_reducible rfl)); try simp only [Act.put, sa, s0, s1]
        refine tk 7 q1cf_32_2_7 (some 24) (v := ?v20) rfl rfl (by kernel_rfl) hHeld (by rfl) (fun _ _ _ h => (hPan _ _ _ h).elim) (fun w h => ?y20) ?_; (case y20 => (try dsimp only at h); go_simp; try (with_reducible rfl)); try simp only [Act.put, sa, s0, s1]
        refine tk 8 q1cf_32_2_8 (some 25) (v := ?v21) rfl rfl (by kernel_rfl) hHeld (by rfl) (fun _ _ _ h => (hPan _ _ _ h).elim) (fun w h => ?y21) ?_; (case y21 => (try dsimp only at h); go_simp; try (with_reducible rfl)); try simp only [Act.put, sa, s0, s1]
        refine tk 9 q1cf_32_2_9 (some 26) (v := ?v22) rfl rfl (by kernel_rfl) hHeld (by rfl) (fun _ _ _ h => (hPan _ _ _ h).elim) (fun w h => ?y22) ?_; (case y22 => (try dsimp only at h); go_simp; try (with_reducible rfl)); try simp only [Act.put, sa, s0, s1]
        refine wpAnyH_ready (rs := [5, 14]) (by kernel_rfl) (by simp) ?_
        refine (AllReadyH.cons (o := q1cf_32_2_5) rfl (fun K hK => ?_) (AllReadyH.cons (o := q1cf_32_2_14) rfl (fun K hK => ?_) AllReadyH.nil))
        · go_simp
          obtain ⟨wE5, hq5⟩ : ∃ q, q = wS.alloc (.cells #[.int .i64 it.fD.fR, .int .i64 it.fD.fN, .slice ai it.fDeps.length ci] 52) := ⟨_, rfl⟩
          have hop5 : Below wS.heap.size wS wE5 := by rw [hq5]; exact (Below.refl _ _).alloc (Nat.le_refl _) _
          have hSwE5 := bthen hSwS hop5
          obtain ⟨g5, HG5⟩ : ∃ z, Hid (z = wS.heap.size) := ⟨_, Hid.mk rfl⟩
          have HB5 : Hid (Bx wE5 g5 [.int .i64 it.fD.fR, .int .i64 it.fD.fN, .slice ai it.fDeps.length ci]) := by unfold Hid; rw [HG5.out, hq5]; exact Bx.new _ _ _
          rw [← HG5.out]
          rw [← hq5]
          clear hq5
          refine hK.out _ _ (hSwE5) (fun hHeld => ?_)
          clear hK K
          try simp only [Act.put, sa, s0, s1]
          refine wpAnyH_ready (rs := [10, 14]) (by kernel_rfl) (by simp) ?_
          refine (AllReadyH.cons (o := q1cf_32_2_10) rfl (fun K hK => ?_) (AllReadyH.cons (o := q1cf_32_2_14) rfl (fun K hK => ?_) AllReadyH.nil))
          · go_simp
            obtain ⟨wE10, hq10⟩ : ∃ q, q = wE5.alloc (.cells #[.slice (some ad) 0 c, .slice (some ⟨g5, 0, none⟩) 1 1, .slice (some ad) 0 c] 28) := ⟨_, rfl⟩
            have hop10 : Below wE5.heap.size wE5 wE10 := by rw [hq10]; exact (Below.refl _ _).alloc (Nat.le_refl _) _
            have hSwE10 := bthen hSwE5 hop10
            obtain ⟨g10, HG10⟩ : ∃ z, Hid (z = wE5.heap.size) := ⟨_, Hid.mk rfl⟩
            have HB10 : Hid (Bx wE10 g10 [.slice (some ad) 0 c, .slice (some ⟨g5, 0, none⟩) 1 1, .slice (some ad) 0 c]) := by unfold Hid; rw [HG10.out, hq10]; exact Bx.new _ _ _
            rw [← HG10.out]
            rw [← hq10]
            clear hq10
            refine hK.out _ _ (hSwE10) (fun hHeld => ?_)
            clear hK K
            try simp only [Act.put, sa, s0, s1]
            refine wpAnyH_ready (rs := [11, 14]) (by kernel_rfl) (by simp) ?_
            refine (AllReadyH.cons (o := q1cf_32_2_11) rfl (fun K hK => ?_) (AllReadyH.cons (o := q1cf_32_2_14) rfl (fun K hK => ?_) AllReadyH.nil))
            · go_simp
              have hf5 := (show Below wE5.heap.size wE5 wE10 from bthen (Below.refl _ _) hop10)
              have hf10 := (show Below wE10.heap.size wE10 wE10 from Below.refl _ _)
              have hfS := hSwE10
              refine Calls.mono (concatItem_any g10 3 [((some ad), c, l.take 0), (some ⟨g5, 0, none⟩, 1, [it]), ((some ad), c, l.drop 0)] wE10 rfl (by omega) (HB10.out.under hf10).1 (fun i h => cat3 (HB10.out.under hf10) H1.out H2.out i h) (fun i h => leaf3 ((HL1.out.below rItem_good hfS).mono rItem_good hfS.size) (leaf_one (HB5.out.under hf5) (rItem_good.below HIc.out (hfS.mono hb1.size)) (Nat.le_trans hb1.size hfS.size)) ((HL2.out.below rItem_good hfS).mono rItem_good hfS.size) i h) (sum3 H1.out H2.out (by omega))) ?_
              rintro e wE11 ⟨v11, rfl, hrow11, hop11⟩
              rw [cat_ins] at hrow11
              have hSwE11 := bthen hSwE10 hop11
              obtain ⟨a11, c11, rfl, hL11⟩ := RowR.leaf rItem_good hrow11 hop11.size
              have HL11 := Hid.mk hL11
              clear hrow11 hL11
              go_wp2_with fail
              refine hK.out _ _ (hSwE11) (fun hHeld => ?_)
              clear hK K
              try simp only [Act.put, sa, s0, s1]
              refine tk 12 q1cf_32_2_12 (some 29) (v := ?v23) rfl rfl (by kernel_rfl) hHeld (by rfl) (fun _ _ _ h => (hPan _ _ _ h).elim) (fun w h => ?y23) ?_; (case y23 => (try dsimp only at h); go_simp; try (with_reducible rfl)); try simp only [Act.put, sa, s0, s1]
              refine wpAnyH_ready (rs := [13, 14]) (by kernel_rfl) (by simp) ?_
              refine (AllReadyH.cons (o := q1cf_32_2_13) rfl (fun K hK => ?_) (AllReadyH.cons (o := q1cf_32_2_14) rfl (fun K hK => ?_) AllReadyH.nil))
              · go_simp
                have hf11 := (show Below wE11.heap.size wE11 wE11 from Below.refl _ _)
                refine Calls.mono (copyGraph_any [.slice a11 (insAt l 0 it).length c11] ⟨insAt l 0 it⟩ wE11 ⟨a11, c11, rfl, (HL11.out.below rItem_good hf11).mono rItem_good hf11.size, trivial⟩ HNI.out HDI.out) ?_
                rintro e wE13 ⟨cs13, F13, rfl, ho13, hN13, hge13, hop13⟩
                have hSwE13 := bthen hSwE11 hop13
                have hgeS : ∀ b, b ∈ F13 → w1.heap.size ≤ b := fun b hb => Nat.le_trans (Below.size hSwE11) (hge13 b hb)
                obtain ⟨v13, F0, rfl, ho13, rfl⟩ := ho13
                replace ho13 : ownS 3 52 oItem wE13 v13 (insAt l 0 it) F0 := ho13
                obtain ⟨a13, c13, rfl, _⟩ := id (ownS.read oItem_good ho13)
                have HO13 := Hid.mk ho13
                have HN13 := Hid.mk hN13
                have HGE13 := Hid.mk hge13
                have HGES := Hid.mk hgeS
                clear ho13 hN13 hge13 hgeS
                go_wp2_with fail
                refine hK.out _ _ (hSwE13) (fun hHeld => ?_)
                clear hK K
                try simp only [Act.put, sa, s0, s1]
                refine wpAnyH_ready (rs := [14]) (by kernel_rfl) (by simp) ?_
                refine (AllReadyH.cons (o := q1cf_32_2_14) rfl (fun K hK => ?_) AllReadyH.nil)
                · go_simp
                  obtain ⟨wE14, hq14⟩ : ∃ q, q = wE13.alloc (.cells #[.slice none 0 0] 30) := ⟨_, rfl⟩
                  have hop14 : Below wE13.heap.size wE13 wE14 := by rw [hq14]; exact (Below.refl _ _).alloc (Nat.le_refl _) _
                  have hSwE14 := bthen hSwE13 hop14
                  obtain ⟨g14, HG14⟩ : ∃ z, Hid (z = wE13.heap.size) := ⟨_, Hid.mk rfl⟩
                  have HB14 : Hid (Bw wE14 g14 30 [.slice none 0 0]) := by unfold Hid; rw [HG14.out, hq14]; exact Bw.new _ _ _
                  have HGw : Hid (w1.heap.size ≤ g14) := by unfold Hid; rw [HG14.out]; exact Below.size hSwE13
                  rw [← HG14.out]
                  rw [← hq14]
                  clear hq14
                  refine hK.out _ _ (hSwE14) (fun hHeld => ?_)
                  clear hK K
                  try simp only [Act.put, sa, s0, s1]
                  refine wpAnyH_ready (rs := [15]) (by kernel_rfl) (by simp) ?_
                  refine (AllReadyH.cons (o := q1cf_32_2_15) rfl (fun K hK => ?_) AllReadyH.nil)
                  · skip
                    have hb14 := HB14.out.under (show Below wE14.heap.size wE14 wE14 from Below.refl _ _)
                    have s0 := hb14.cell 0 _ rfl
                    have sf0 := hb14.free 0
                    have hl14 := hb14.lt
                    go_simp
                    obtain ⟨wE15, hq15⟩ : ∃ q, q = wE14.setCell ⟨g14, 0, none⟩ (.slice a13 (insAt l 0 it).length c13) := ⟨_, rfl⟩
                    have hT15 : Turn [g14] wE14 wE15 := by rw [hq15]; exact (Turn.refl _ _).setCell (by simp) _
                    have hbx15 : Bw wE15 g14 30 [(.slice a13 (insAt l 0 it).length c13)] := by rw [hq15]; exact hb14.put 0 _
                    have hSwE15 : Below w1.heap.size w1 wE15 := (hSwE14).trans (hT15.below (fun k hk => by simp at hk; subst hk; exact HGw.out) (Below.size hSwE14))
                    have hf13 := (show Below wE13.heap.size wE13 wE14 from bthen (Below.refl _ _) hop14)
                    have hf14 := (show Below wE14.heap.size wE14 wE14 from Below.refl _ _)
                    rw [← hq15]
                    clear hq15 s0 sf0
                    refine hK.out _ _ (hSwE15) (fun hHeld => ?_)
                    clear hK K
                    try simp only [Act.put, sa, s0, s1]
                    refine wpAnyH_done (by kernel_rfl) ?_ _
                    rw [HQ.out]
                    have hne : ∀ b, b ∈ F0 ++ [] → b ≠ g14 := fun b hb h => by have h1 := HGE13.out b hb; have h2 : b < wE13.heap.size := (by rw [List.append_nil] at hb; exact ownS.lt oItem_good HO13.out b hb); have h3 := HB14.out.lt; have h4 := HG14.out; have h5 := hop5.size; have h6 := hop10.size; have h7 := hop11.size; have h8 := hop13.size; have h9 := hop14.size; omega
                    have ho15 : ownS 3 52 oItem wE15 (.slice a13 (insAt l 0 it).length c13) (insAt l 0 it) F0 := ownS.frame oItem_good (ownS.frame oItem_good HO13.out (fun b hb => hf13.block b (ownS.lt oItem_good HO13.out b hb))) (fun b hb => hT15.block b (Nat.lt_of_lt_of_le (ownS.lt oItem_good HO13.out b hb) hf13.size) (by intro h; simp at h; exact hne b (by simpa using hb) h))
                    exact ⟨rfl, _, _, _, _, _, _, _, _, _, _, _, _, _, _, _, _, _, _, _, _, _, _, _, _, _, _, _, _, _, _, _, _, g14, _, F0, rfl, hbx15, ho15, by simpa using HN13.out, fun b hb => ⟨HGES.out b (by simpa using hb), hne b (by simpa using hb)⟩, HGw.out, hSwE15⟩
              · go_simp
                obtain ⟨wE14, hq14⟩ : ∃ q, q = wE11.alloc (.cells #[.slice none 0 0] 30) := ⟨_, rfl⟩
                have hop14 : Below wE11.heap.size wE11 wE14 := by rw [hq14]; exact (Below.refl _ _).alloc (Nat.le_refl _) _
                have hSwE14 := bthen hSwE11 hop14
                obtain ⟨g14, HG14⟩ : ∃ z, Hid (z = wE11.heap.size) := ⟨_, Hid.mk rfl⟩
                have HB14 : Hid (Bw wE14 g14 30 [.slice none 0 0]) := by unfold Hid; rw [HG14.out, hq14]; exact Bw.new _ _ _
                have HGw : Hid (w1.heap.size ≤ g14) := by unfold Hid; rw [HG14.out]; exact Below.size hSwE11
                rw [← HG14.out]
                rw [← hq14]
                clear hq14
                refine hK.out _ _ (hSwE14) (fun hHeld => ?_)
                clear hK K
                try simp only [Act.put, sa, s0, s1]
                refine wpAnyH_ready (rs := [13]) (by kernel_rfl) (by simp) ?_
                refine (AllReadyH.cons (o := q1cf_32_2_13) rfl (fun K hK => ?_) AllReadyH.nil)
                · go_simp
                  have hf11 := (show Below wE11.heap.size wE11 wE14 from bthen (Below.refl _ _) hop14)
                  refine Calls.mono (copyGraph_any [.slice a11 (insAt l 0 it).length c11] ⟨insAt l 0 it⟩ wE14 ⟨a11, c11, rfl, (HL11.out.below rItem_good hf11).mono rItem_good hf11.size, trivial⟩ HNI.out HDI.out) ?_
                  rintro e wE13 ⟨cs13, F13, rfl, ho13, hN13, hge13, hop13⟩
                  have hSwE13 := bthen hSwE14 hop13
                  have hgeS : ∀ b, b ∈ F13 → w1.heap.size ≤ b := fun b hb => Nat.le_trans (Below.size hSwE14) (hge13 b hb)
                  obtain ⟨v13, F0, rfl, ho13, rfl⟩ := ho13
                  replace ho13 : ownS 3 52 oItem wE13 v13 (insAt l 0 it) F0 := ho13
                  obtain ⟨a13, c13, rfl, _⟩ := id (ownS.read oItem_good ho13)
                  have HO13 := Hid.mk ho13
                  have HN13 := Hid.mk hN13
                  have HGE13 := Hid.mk hge13
                  have HGES := Hid.mk hgeS
                  clear ho13 hN13 hge13 hgeS
                  go_wp2_with fail
                  refine hK.out _ _ (hSwE13) (fun hHeld => ?_)
                  clear hK K
                  try simp only [Act.put, sa, s0, s1]
                  refine wpAnyH_ready (rs := [15]) (by kernel_rfl) (by simp) ?_
                  refine (AllReadyH.cons (o := q1cf_32_2_15) rfl (fun K hK => ?_) AllReadyH.nil)
                  · skip
                    have hb14 := HB14.out.under (show Below wE14.heap.size wE14 wE13 from bthen (Below.refl _ _) hop13)
                    have s0 := hb14.cell 0 _ rfl
                    have sf0 := hb14.free 0
                    have hl14 := hb14.lt
                    go_simp
                    obtain ⟨wE15, hq15⟩ : ∃ q, q = wE13.setCell ⟨g14, 0, none⟩ (.slice a13 (insAt l 0 it).length c13) := ⟨_, rfl⟩
                    have hT15 : Turn [g14] wE13 wE15 := by rw [hq15]; exact (Turn.refl _ _).setCell (by simp) _
                    have hbx15 : Bw wE15 g14 30 [(.slice a13 (insAt l 0 it).length c13)] := by rw [hq15]; exact hb14.put 0 _
                    have hSwE15 : Below w1.heap.size w1 wE15 := (hSwE13).trans (hT15.below (fun k hk => by simp at hk; subst hk; exact HGw.out) (Below.size hSwE13))
                    have hf13 := (show Below wE13.heap.size wE13 wE13 from Below.refl _ _)
                    have hf14 := (show Below wE14.heap.size wE14 wE13 from bthen (Below.refl _ _) hop13)
                    rw [← hq15]
                    clear hq15 s0 sf0
                    refine hK.out _ _ (hSwE15) (fun hHeld => ?_)
                    clear hK K
                    try simp only [Act.put, sa, s0, s1]
                    refine wpAnyH_done (by kernel_rfl) ?_ _
                    rw [HQ.out]
                    have hne : ∀ b, b ∈ F0 ++ [] → b ≠ g14 := fun b hb h => by have h1 := HGE13.out b hb; have h2 : b < wE13.heap.size := (by rw [List.append_nil] at hb; exact ownS.lt oItem_good HO13.out b hb); have h3 := HB14.out.lt; have h4 := HG14.out; have h5 := hop5.size; have h6 := hop10.size; have h7 := hop11.size; have h8 := hop13.size; have h9 := hop14.size; omega
                    have ho15 : ownS 3 52 oItem wE15 (.slice a13 (insAt l 0 it).length c13) (insAt l 0 it) F0 := ownS.frame oItem_good (ownS.frame oItem_good HO13.out (fun b hb => hf13.block b (ownS.lt oItem_good HO13.out b hb))) (fun b hb => hT15.block b (Nat.lt_of_lt_of_le (ownS.lt oItem_good HO13.out b hb) hf13.size) (by intro h; simp at h; exact hne b (by simpa using hb) h))
                    exact ⟨rfl, _, _, _, _, _, _, _, _, _, _, _, _, _, _, _, _, _, _, _, _, _, _, _, _, _, _, _, _, _, _, _, _, g14, _, F0, rfl, hbx15, ho15, by simpa using HN13.out, fun b hb => ⟨HGES.out b (by simpa using hb), hne b (by simpa using hb)⟩, HGw.out, hSwE15⟩
            · go_simp
              obtain ⟨wE14, hq14⟩ : ∃ q, q = wE10.alloc (.cells #[.slice none 0 0] 30) := ⟨_, rfl⟩
              have hop14 : Below wE10.heap.size wE10 wE14 := by rw [hq14]; exact (Below.refl _ _).alloc (Nat.le_refl _) _
              have hSwE14 := bthen hSwE10 hop14
              obtain ⟨g14, HG14⟩ : ∃ z, Hid (z = wE10.heap.size) := ⟨_, Hid.mk rfl⟩
              have HB14 : Hid (Bw wE14 g14 30 [.slice none 0 0]) := by unfold Hid; rw [HG14.out, hq14]; exact Bw.new _ _ _
              have HGw : Hid (w1.heap.size ≤ g14) := by unfold Hid; rw [HG14.out]; exact Below.size hSwE10
              rw [← HG14.out]
              rw [← hq14]
              clear hq14
              refine hK.out _ _ (hSwE14) (fun hHeld => ?_)
              clear hK K
              try simp only [Act.put, sa, s0, s1]
              refine wpAnyH_ready (rs := [11]) (by kernel_rfl) (by simp) ?_
              refine (AllReadyH.cons (o := q1cf_32_2_11) rfl (fun K hK => ?_) AllReadyH.nil)
              · go_simp
                have hf5 := (show Below wE5.heap.size wE5 wE14 from bthen (bthen (Below.refl _ _) hop10) hop14)
                have hf10 := (show Below wE10.heap.size wE10 wE14 from bthen (Below.refl _ _) hop14)
                have hfS := hSwE14
                refine Calls.mono (concatItem_any g10 3 [((some ad), c, l.take 0), (some ⟨g5, 0, none⟩, 1, [it]), ((some ad), c, l.drop 0)] wE14 rfl (by omega) (HB10.out.under hf10).1 (fun i h => cat3 (HB10.out.under hf10) H1.out H2.out i h) (fun i h => leaf3 ((HL1.out.below rItem_good hfS).mono rItem_good hfS.size) (leaf_one (HB5.out.under hf5) (rItem_good.below HIc.out (hfS.mono hb1.size)) (Nat.le_trans hb1.size hfS.size)) ((HL2.out.below rItem_good hfS).mono rItem_good hfS.size) i h) (sum3 H1.out H2.out (by omega))) ?_
                rintro e wE11 ⟨v11, rfl, hrow11, hop11⟩
                rw [cat_ins] at hrow11
                have hSwE11 := bthen hSwE14 hop11
                obtain ⟨a11, c11, rfl, hL11⟩ := RowR.leaf rItem_good hrow11 hop11.size
                have HL11 := Hid.mk hL11
                clear hrow11 hL11
                go_wp2_with fail
                refine hK.out _ _ (hSwE11) (fun hHeld => ?_)
                clear hK K
                try simp only [Act.put, sa, s0, s1]
                refine tk 12 q1cf_32_2_12 (some 29) (v := ?v24) rfl rfl (by kernel_rfl) hHeld (by rfl) (fun _ _ _ h => (hPan _ _ _ h).elim) (fun w h => ?y24) ?_; (case y24 => (try dsimp only at h); go_simp; try (with_reducible rfl)); try simp only [Act.put, sa, s0, s1]
                refine wpAnyH_ready (rs := [13]) (by kernel_rfl) (by simp) ?_
                refine (AllReadyH.cons (o := q1cf_32_2_13) rfl (fun K hK => ?_) AllReadyH.nil)
                · go_simp
                  have hf11 := (show Below wE11.heap.size wE11 wE11 from Below.refl _ _)
                  refine Calls.mono (copyGraph_any [.slice a11 (insAt l 0 it).length c11] ⟨insAt l 0 it⟩ wE11 ⟨a11, c11, rfl, (HL11.out.below rItem_good hf11).mono rItem_good hf11.size, trivial⟩ HNI.out HDI.out) ?_
                  rintro e wE13 ⟨cs13, F13, rfl, ho13, hN13, hge13, hop13⟩
                  have hSwE13 := bthen hSwE11 hop13
                  have hgeS : ∀ b, b ∈ F13 → w1.heap.size ≤ b := fun b hb => Nat.le_trans (Below.size hSwE11) (hge13 b hb)
                  obtain ⟨v13, F0, rfl, ho13, rfl⟩ := ho13
                  replace ho13 : ownS 3 52 oItem wE13 v13 (insAt l 0 it) F0 := ho13
                  obtain ⟨a13, c13, rfl, _⟩ := id (ownS.read oItem_good ho13)
                  have HO13 := Hid.mk ho13
                  have HN13 := Hid.mk hN13
                  have HGE13 := Hid.mk hge13
                  have HGES := Hid.mk hgeS
                  clear ho13 hN13 hge13 hgeS
                  go_wp2_with fail
                  refine hK.out _ _ (hSwE13) (fun hHeld => ?_)
                  clear hK K
                  try simp only [Act.put, sa, s0, s1]
                  refine wpAnyH_ready (rs := [15]) (by kernel_rfl) (by simp) ?_
                  refine (AllReadyH.cons (o := q1cf_32_2_15) rfl (fun K hK => ?_) AllReadyH.nil)
                  · skip
                    have hb14 := HB14.out.under (show Below wE14.heap.size wE14 wE13 from bthen (bthen (Below.refl _ _) hop11) hop13)
                    have s0 := hb14.cell 0 _ rfl
                    have sf0 := hb14.free 0
                    have hl14 := hb14.lt
                    go_simp
                    obtain ⟨wE15, hq15⟩ : ∃ q, q = wE13.setCell ⟨g14, 0, none⟩ (.slice a13 (insAt l 0 it).length c13) := ⟨_, rfl⟩
                    have hT15 : Turn [g14] wE13 wE15 := by rw [hq15]; exact (Turn.refl _ _).setCell (by simp) _
                    have hbx15 : Bw wE15 g14 30 [(.slice a13 (insAt l 0 it).length c13)] := by rw [hq15]; exact hb14.put 0 _
                    have hSwE15 : Below w1.heap.size w1 wE15 := (hSwE13).trans (hT15.below (fun k hk => by simp at hk; subst hk; exact HGw.out) (Below.size hSwE13))
                    have hf13 := (show Below wE13.heap.size wE13 wE13 from Below.refl _ _)
                    have hf14 := (show Below wE14.heap.size wE14 wE13 from bthen (bthen (Below.refl _ _) hop11) hop13)
                    rw [← hq15]
                    clear hq15 s0 sf0
                    refine hK.out _ _ (hSwE15) (fun hHeld => ?_)
                    clear hK K
                    try simp only [Act.put, sa, s0, s1]
                    refine wpAnyH_done (by kernel_rfl) ?_ _
                    rw [HQ.out]
                    have hne : ∀ b, b ∈ F0 ++ [] → b ≠ g14 := fun b hb h => by have h1 := HGE13.out b hb; have h2 : b < wE13.heap.size := (by rw [List.append_nil] at hb; exact ownS.lt oItem_good HO13.out b hb); have h3 := HB14.out.lt; have h4 := HG14.out; have h5 := hop5.size; have h6 := hop10.size; have h7 := hop11.size; have h8 := hop13.size; have h9 := hop14.size; omega
                    have ho15 : ownS 3 52 oItem wE15 (.slice a13 (insAt l 0 it).length c13) (insAt l 0 it) F0 := ownS.frame oItem_good (ownS.frame oItem_good HO13.out (fun b hb => hf13.block b (ownS.lt oItem_good HO13.out b hb))) (fun b hb => hT15.block b (Nat.lt_of_lt_of_le (ownS.lt oItem_good HO13.out b hb) hf13.size) (by intro h; simp at h; exact hne b (by simpa using hb) h))
                    exact ⟨rfl, _, _, _, _, _, _, _, _, _, _, _, _, _, _, _, _, _, _, _, _, _, _, _, _, _, _, _, _, _, _, _, _, g14, _, F0, rfl, hbx15, ho15, by simpa using HN13.out, fun b hb => ⟨HGES.out b (by simpa using hb), hne b (by simpa using hb)⟩, HGw.out, hSwE15⟩
          · go_simp
            obtain ⟨wE14, hq14⟩ : ∃ q, q = wE5.alloc (.cells #[.slice none 0 0] 30) := ⟨_, rfl⟩
            have hop14 : Below wE5.heap.size wE5 wE14 := by rw [hq14]; exact (Below.refl _ _).alloc (Nat.le_refl _) _
            have hSwE14 := bthen hSwE5 hop14
            obtain ⟨g14, HG14⟩ : ∃ z, Hid (z = wE5.heap.size) := ⟨_, Hid.mk rfl⟩
            have HB14 : Hid (Bw wE14 g14 30 [.slice none 0 0]) := by unfold Hid; rw [HG14.out, hq14]; exact Bw.new _ _ _
            have HGw : Hid (w1.heap.size ≤ g14) := by unfold Hid; rw [HG14.out]; exact Below.size hSwE5
            rw [← HG14.out]
            rw [← hq14]
            clear hq14
            refine hK.out _ _ (hSwE14) (fun hHeld => ?_)
            clear hK K
            try simp only [Act.put, sa, s0, s1]
            refine wpAnyH_ready (rs := [10]) (by kernel_rfl) (by simp) ?_
            refine (AllReadyH.cons (o := q1cf_32_2_10) rfl (fun K hK => ?_) AllReadyH.nil)
            · go_simp
              obtain ⟨wE10, hq10⟩ : ∃ q, q = wE14.alloc (.cells #[.slice (some ad) 0 c, .slice (some ⟨g5, 0, none⟩) 1 1, .slice (some ad) 0 c] 28) := ⟨_, rfl⟩
              have hop10 : Below wE14.heap.size wE14 wE10 := by rw [hq10]; exact (Below.refl _ _).alloc (Nat.le_refl _) _
              have hSwE10 := bthen hSwE14 hop10
              obtain ⟨g10, HG10⟩ : ∃ z, Hid (z = wE14.heap.size) := ⟨_, Hid.mk rfl⟩
              have HB10 : Hid (Bx wE10 g10 [.slice (some ad) 0 c, .slice (some ⟨g5, 0, none⟩) 1 1, .slice (some ad) 0 c]) := by unfold Hid; rw [HG10.out, hq10]; exact Bx.new _ _ _
              rw [← HG10.out]
              rw [← hq10]
              clear hq10
              refine hK.out _ _ (hSwE10) (fun hHeld => ?_)
              clear hK K
              try simp only [Act.put, sa, s0, s1]
              refine wpAnyH_ready (rs := [11]) (by kernel_rfl) (by simp) ?_
              refine (AllReadyH.cons (o := q1cf_32_2_11) rfl (fun K hK => ?_) AllReadyH.nil)
              · go_simp
                have hf5 := (show Below wE5.heap.size wE5 wE10 from bthen (bthen (Below.refl _ _) hop14) hop10)
                have hf10 := (show Below wE10.heap.size wE10 wE10 from Below.refl _ _)
                have hfS := hSwE10
                refine Calls.mono (concatItem_any g10 3 [((some ad), c, l.take 0), (some ⟨g5, 0, none⟩, 1, [it]), ((some ad), c, l.drop 0)] wE10 rfl (by omega) (HB10.out.under hf10).1 (fun i h => cat3 (HB10.out.under hf10) H1.out H2.out i h) (fun i h => leaf3 ((HL1.out.below rItem_good hfS).mono rItem_good hfS.size) (leaf_one (HB5.out.under hf5) (rItem_good.below HIc.out (hfS.mono hb1.size)) (Nat.le_trans hb1.size hfS.size)) ((HL2.out.below rItem_good hfS).mono rItem_good hfS.size) i h) (sum3 H1.out H2.out (by omega))) ?_
                rintro e wE11 ⟨v11, rfl, hrow11, hop11⟩
                rw [cat_ins] at hrow11
                have hSwE11 := bthen hSwE10 hop11
                obtain ⟨a11, c11, rfl, hL11⟩ := RowR.leaf rItem_good hrow11 hop11.size
                have HL11 := Hid.mk hL11
                clear hrow11 hL11
                go_wp2_with fail
                refine hK.out _ _ (hSwE11) (fun hHeld => ?_)
                clear hK K
                try simp only [Act.put, sa, s0, s1]
                refine tk 12 q1cf_32_2_12 (some 29) (v := ?v25) rfl rfl (by kernel_rfl) hHeld (by rfl) (fun _ _ _ h => (hPan _ _ _ h).elim) (fun w h => ?y25) ?_; (case y25 => (try dsimp only at h); go_simp; try (with_reducible rfl)); try simp only [Act.put, sa, s0, s1]
                refine wpAnyH_ready (rs := [13]) (by kernel_rfl) (by simp) ?_
                refine (AllReadyH.cons (o := q1cf_32_2_13) rfl (fun K hK => ?_) AllReadyH.nil)
                · go_simp
                  have hf11 := (show Below wE11.heap.size wE11 wE11 from Below.refl _ _)
                  refine Calls.mono (copyGraph_any [.slice a11 (insAt l 0 it).length c11] ⟨insAt l 0 it⟩ wE11 ⟨a11, c11, rfl, (HL11.out.below rItem_good hf11).mono rItem_good hf11.size, trivial⟩ HNI.out HDI.out) ?_
                  rintro e wE13 ⟨cs13, F13, rfl, ho13, hN13, hge13, hop13⟩
                  have hSwE13 := bthen hSwE11 hop13
                  have hgeS : ∀ b, b ∈ F13 → w1.heap.size ≤ b := fun b hb => Nat.le_trans (Below.size hSwE11) (hge13 b hb)
                  obtain ⟨v13, F0, rfl, ho13, rfl⟩ := ho13
                  replace ho13 : ownS 3 52 oItem wE13 v13 (insAt l 0 it) F0 := ho13
                  obtain ⟨a13, c13, rfl, _⟩ := id (ownS.read oItem_good ho13)
                  have HO13 := Hid.mk ho13
                  have HN13 := Hid.mk hN13
                  have HGE13 := Hid.mk hge13
                  have HGES := Hid.mk hgeS
                  clear ho13 hN13 hge13 hgeS
                  go_wp2_with fail
                  refine hK.out _ _ (hSwE13) (fun hHeld => ?_)
                  clear hK K
                  try simp only [Act.put, sa, s0, s1]
                  refine wpAnyH_ready (rs := [15]) (by kernel_rfl) (by simp) ?_
                  refine (AllReadyH.cons (o := q1cf_32_2_15) rfl (fun K hK => ?_) AllReadyH.nil)
                  · skip
                    have hb14 := HB14.out.under (show Below wE14.heap.size wE14 wE13 from bthen (bthen (bthen (Below.refl _ _) hop10) hop11) hop13)
                    have s0 := hb14.cell 0 _ rfl
                    have sf0 := hb14.free 0
                    have hl14 := hb14.lt
                    go_simp
                    obtain ⟨wE15, hq15⟩ : ∃ q, q = wE13.setCell ⟨g14, 0, none⟩ (.slice a13 (insAt l 0 it).length c13) := ⟨_, rfl⟩
                    have hT15 : Turn [g14] wE13 wE15 := by rw [hq15]; exact (Turn.refl _ _).setCell (by simp) _
                    have hbx15 : Bw wE15 g14 30 [(.slice a13 (insAt l 0 it).length c13)] := by rw [hq15]; exact hb14.put 0 _
                    have hSwE15 : Below w1.heap.size w1 wE15 := (hSwE13).trans (hT15.below (fun k hk => by simp at hk; subst hk; exact HGw.out) (Below.size hSwE13))
                    have hf13 := (show Below wE13.heap.size wE13 wE13 from Below.refl _ _)
                    have hf14 := (show Below wE14.heap.size wE14 wE13 from bthen (bthen (bthen (Below.refl _ _) hop10) hop11) hop13)
                    rw [← hq15]
                    clear hq15 s0 sf0
                    refine hK.out _ _ (hSwE15) (fun hHeld => ?_)
                    clear hK K
                    try simp only [Act.put, sa, s0, s1]
                    refine wpAnyH_done (by kernel_rfl) ?_ _
                    rw [HQ.out]
                    have hne : ∀ b, b ∈ F0 ++ [] → b ≠ g14 := fun b hb h => by have h1 := HGE13.out b hb; have h2 : b < wE13.heap.size := (by rw [List.append_nil] at hb; exact ownS.lt oItem_good HO13.out b hb); have h3 := HB14.out.lt; have h4 := HG14.out; have h5 := hop5.size; have h6 := hop10.size; have h7 := hop11.size; have h8 := hop13.size; have h9 := hop14.size; omega
                    have ho15 : ownS 3 52 oItem wE15 (.slice a13 (insAt l 0 it).length c13) (insAt l 0 it) F0 := ownS.frame oItem_good (ownS.frame oItem_good HO13.out (fun b hb => hf13.block b (ownS.lt oItem_good HO13.out b hb))) (fun b hb => hT15.block b (Nat.lt_of_lt_of_le (ownS.lt oItem_good HO13.out b hb) hf13.size) (by intro h; simp at h; exact hne b (by simpa using hb) h))
                    exact ⟨rfl, _, _, _, _, _, _, _, _, _, _, _, _, _, _, _, _, _, _, _, _, _, _, _, _, _, _, _, _, _, _, _, _, g14, _, F0, rfl, hbx15, ho15, by simpa using HN13.out, fun b hb => ⟨HGES.out b (by simpa using hb), hne b (by simpa using hb)⟩, HGw.out, hSwE15⟩
        · go_simp
          obtain ⟨wE14, hq14⟩ : ∃ q, q = wS.alloc (.cells #[.slice none 0 0] 30) := ⟨_, rfl⟩
          have hop14 : Below wS.heap.size wS wE14 := by rw [hq14]; exact (Below.refl _ _).alloc (Nat.le_refl _) _
          have hSwE14 := bthen hSwS hop14
          obtain ⟨g14, HG14⟩ : ∃ z, Hid (z = wS.heap.size) := ⟨_, Hid.mk rfl⟩
          have HB14 : Hid (Bw wE14 g14 30 [.slice none 0 0]) := by unfold Hid; rw [HG14.out, hq14]; exact Bw.new _ _ _
          have HGw : Hid (w1.heap.size ≤ g14) := by unfold Hid; rw [HG14.out]; exact Below.size hSwS
          rw [← HG14.out]
          rw [← hq14]
          clear hq14
          refine hK.out _ _ (hSwE14) (fun hHeld => ?_)
          clear hK K
          try simp only [Act.put, sa, s0, s1]
          refine wpAnyH_ready (rs := [5]) (by kernel_rfl) (by simp) ?_
          refine (AllReadyH.cons (o := q1cf_32_2_5) rfl (fun K hK => ?_) AllReadyH.nil)
          · go_simp
            obtain ⟨wE5, hq5⟩ : ∃ q, q = wE14.alloc (.cells #[.int .i64 it.fD.fR, .int .i64 it.fD.fN, .slice ai it.fDeps.length ci] 52) := ⟨_, rfl⟩
            have hop5 : Below wE14.heap.size wE14 wE5 := by rw [hq5]; exact (Below.refl _ _).alloc (Nat.le_refl _) _
            have hSwE5 := bthen hSwE14 hop5
            obtain ⟨g5, HG5⟩ : ∃ z, Hid (z = wE14.heap.size) := ⟨_, Hid.mk rfl⟩
            have HB5 : Hid (Bx wE5 g5 [.int .i64 it.fD.fR, .int .i64 it.fD.fN, .slice ai it.fDeps.length ci]) := by unfold Hid; rw [HG5.out, hq5]; exact Bx.new _ _ _
            rw [← HG5.out]
            rw [← hq5]
            clear hq5
            refine hK.out _ _ (hSwE5) (fun hHeld => ?_)
            clear hK K
            try simp only [Act.put, sa, s0, s1]
            refine wpAnyH_ready (rs := [10]) (by kernel_rfl) (by simp) ?_
            refine (AllReadyH.cons (o := q1cf_32_2_10) rfl (fun K hK => ?_) AllReadyH.nil)
            · go_simp
              obtain ⟨wE10, hq10⟩ : ∃ q, q = wE5.alloc (.cells #[.slice (some ad) 0 c, .slice (some ⟨g5, 0, none⟩) 1 1, .slice (some ad) 0 c] 28) := ⟨_, rfl⟩
              have hop10 : Below wE5.heap.size wE5 wE10 := by rw [hq10]; exact (Below.refl _ _).alloc (Nat.le_refl _) _
              have hSwE10 := bthen hSwE5 hop10
              obtain ⟨g10, HG10⟩ : ∃ z, Hid (z = wE5.heap.size) := ⟨_, Hid.mk rfl⟩
              have HB10 : Hid (Bx wE10 g10 [.slice (some ad) 0 c, .slice (some ⟨g5, 0, none⟩) 1 1, .slice (some ad) 0 c]) := by unfold Hid; rw [HG10.out, hq10]; exact Bx.new _ _ _
              rw [← HG10.out]
              rw [← hq10]
              clear hq10
              refine hK.out _ _ (hSwE10) (fun hHeld => ?_)
              clear hK K
              try simp only [Act.put, sa, s0, s1]
              refine wpAnyH_ready (rs := [11]) (by kernel_rfl) (by simp) ?_
              refine (AllReadyH.cons (o := q1cf_32_2_11) rfl (fun K hK => ?_) AllReadyH.nil)
              · go_simp
                have hf5 := (show Below wE5.heap.size wE5 wE10 from bthen (Below.refl _ _) hop10)
                have hf10 := (show Below wE10.heap.size wE10 wE10 from Below.refl _ _)
                have hfS := hSwE10
                refine Calls.mono (concatItem_any g10 3 [((some ad), c, l.take 0), (some ⟨g5, 0, none⟩, 1, [it]), ((some ad), c, l.drop 0)] wE10 rfl (by omega) (HB10.out.under hf10).1 (fun i h => cat3 (HB10.out.under hf10) H1.out H2.out i h) (fun i h => leaf3 ((HL1.out.below rItem_good hfS).mono rItem_good hfS.size) (leaf_one (HB5.out.under hf5) (rItem_good.below HIc.out (hfS.mono hb1.size)) (Nat.le_trans hb1.size hfS.size)) ((HL2.out.below rItem_good hfS).mono rItem_good hfS.size) i h) (sum3 H1.out H2.out (by omega))) ?_
                rintro e wE11 ⟨v11, rfl, hrow11, hop11⟩
                rw [cat_ins] at hrow11
                have hSwE11 := bthen hSwE10 hop11
                obtain ⟨a11, c11, rfl, hL11⟩ := RowR.leaf rItem_good hrow11 hop11.size
                have HL11 := Hid.mk hL11
                clear hrow11 hL11
                go_wp2_with fail
                refine hK.out _ _ (hSwE11) (fun hHeld => ?_)
                clear hK K
                try simp only [Act.put, sa, s0, s1]
                refine tk 12 q1cf_32_2_12 (some 29) (v := ?v26) rfl rfl (by kernel_rfl) hHeld (by rfl) (fun _ _ _ h => (hPan _ _ _ h).elim) (fun w h => ?y26) ?_; (case y26 => (try dsimp only at h); go_simp; try (with_reducible rfl)); try simp only [Act.put, sa, s0, s1]
                refine wpAnyH_ready (rs := [13]) (by kernel_rfl) (by simp) ?_
                refine (AllReadyH.cons (o := q1cf_32_2_13) rfl (fun K hK => ?_) AllReadyH.nil)
                · go_simp
                  have hf11 := (show Below wE11.heap.size wE11 wE11 from Below.refl _ _)
                  refine Calls.mono (copyGraph_any [.slice a11 (insAt l 0 it).length c11] ⟨insAt l 0 it⟩ wE11 ⟨a11, c11, rfl, (HL11.out.below rItem_good hf11).mono rItem_good hf11.size, trivial⟩ HNI.out HDI.out) ?_
                  rintro e wE13 ⟨cs13, F13, rfl, ho13, hN13, hge13, hop13⟩
                  have hSwE13 := bthen hSwE11 hop13
                  have hgeS : ∀ b, b ∈ F13 → w1.heap.size ≤ b := fun b hb => Nat.le_trans (Below.size hSwE11) (hge13 b hb)
                  obtain ⟨v13, F0, rfl, ho13, rfl⟩ := ho13
                  replace ho13 : ownS 3 52 oItem wE13 v13 (insAt l 0 it) F0 := ho13
                  obtain ⟨a13, c13, rfl, _⟩ := id (ownS.read oItem_good ho13)
                  have HO13 := Hid.mk ho13
                  have HN13 := Hid.mk hN13
                  have HGE13 := Hid.mk hge13
                  have HGES := Hid.mk hgeS
                  clear ho13 hN13 hge13 hgeS
                  go_wp2_with fail
                  refine hK.out _ _ (hSwE13) (fun hHeld => ?_)
                  clear hK K
                  try simp only [Act.put, sa, s0, s1]
                  refine wpAnyH_ready (rs := [15]) (by kernel_rfl) (by simp) ?_
                  refine (AllReadyH.cons (o := q1cf_32_2_15) rfl (fun K hK => ?_) AllReadyH.nil)
                  · skip
                    have hb14 := HB14.out.under (show Below wE14.heap.size wE14 wE13 from bthen (bthen (bthen (bthen (Below.refl _ _) hop5) hop10) hop11) hop13)
                    have s0 := hb14.cell 0 _ rfl
                    have sf0 := hb14.free 0
                    have hl14 := hb14.lt
                    go_simp
                    obtain ⟨wE15, hq15⟩ : ∃ q, q = wE13.setCell ⟨g14, 0, none⟩ (.slice a13 (insAt l 0 it).length c13) := ⟨_, rfl⟩
                    have hT15 : Turn [g14] wE13 wE15 := by rw [hq15]; exact (Turn.refl _ _).setCell (by simp) _
                    have hbx15 : Bw wE15 g14 30 [(.slice a13 (insAt l 0 it).length c13)] := by rw [hq15]; exact hb14.put 0 _
                    have hSwE15 : Below w1.heap.size w1 wE15 := (hSwE13).trans (hT15.below (fun k hk => by simp at hk; subst hk; exact HGw.out) (Below.size hSwE13))
                    have hf13 := (show Below wE13.heap.size wE13 wE13 from Below.refl _ _)
                    have hf14 := (show Below wE14.heap.size wE14 wE13 from bthen (bthen (bthen (bthen (Below.refl _ _) hop5) hop10) hop11) hop13)
                    rw [← hq15]
                    clear hq15 s0 sf0
                    refine hK.out _ _ (hSwE15) (fun hHeld => ?_)
                    clear hK K
                    try simp only [Act.put, sa, s0, s1]
                    refine wpAnyH_done (by kernel_rfl) ?_ _
                    rw [HQ.out]
                    have hne : ∀ b, b ∈ F0 ++ [] → b ≠ g14 := fun b hb h => by have h1 := HGE13.out b hb; have h2 : b < wE13.heap.size := (by rw [List.append_nil] at hb; exact ownS.lt oItem_good HO13.out b hb); have h3 := HB14.out.lt; have h4 := HG14.out; have h5 := hop5.size; have h6 := hop10.size; have h7 := hop11.size; have h8 := hop13.size; have h9 := hop14.size; omega
                    have ho15 : ownS 3 52 oItem wE15 (.slice a13 (insAt l 0 it).length c13) (insAt l 0 it) F0 := ownS.frame oItem_good (ownS.frame oItem_good HO13.out (fun b hb => hf13.block b (ownS.lt oItem_good HO13.out b hb))) (fun b hb => hT15.block b (Nat.lt_of_lt_of_le (ownS.lt oItem_good HO13.out b hb) hf13.size) (by intro h; simp at h; exact hne b (by simpa using hb) h))
                    exact ⟨rfl, _, _, _, _, _, _, _, _, _, _, _, _, _, _, _, _, _, _, _, _, _, _, _, _, _, _, _, _, _, _, _, _, g14, _, F0, rfl, hbx15, ho15, by simpa using HN13.out, fun b hb => ⟨HGES.out b (by simpa using hb), hne b (by simpa using hb)⟩, HGw.out, hSwE15⟩
      obtain ⟨b0, o0, had, _⟩ := HLc.out.2.2 0 (by rw [HX.out]; omega)
      simp only [Option.some.injEq] at had
      subst had
      have HL1 : Hid (LeafL 3 rItem w1.heap.size w1 (some ⟨b0, o0, none⟩) c (l.take p)) := by
        have h := LeafL.part HLc.out (f := 0) (m := p) (c' := c) (by rw [HX.out]; omega) (by omega) hcm
        unfold Hid
        simpa using h
      by_cases hcp : c = p
      · have hnp : n = p := by omega
        subst hcp
        subst hnp
        have HL2 : Hid (LeafL 3 rItem w1.heap.size w1 (some ⟨b0, o0, none⟩) 0 (l.drop n)) := by
          have h : l.drop n = [] := List.drop_of_length_le (by rw [HX.out]; omega)
          unfold Hid
          rw [h]
          exact ⟨Nat.zero_le _, by omega, fun j hj => by simp at hj⟩
        have H3 : Hid ((l.drop n).length = 0) := by unfold Hid; rw [H2.out]; omega
        refine wp_region_held_drew (S := fun W => Below w1.heap.size w1 W) (by kernel_rfl) (Below.drew (Below.refl _ _)) (fun hHeld => ?_)
        obtain ⟨wS, hwS⟩ : ∃ wS, wS = w1.drew := ⟨_, rfl⟩
        have hSwS : Below w1.heap.size w1 wS := by rw [hwS]; exact Below.drew (Below.refl _ _)
        rw [← hwS] at hHeld ⊢
        clear hwS
        refine tk 0 q1cf_32_2_0 (some 17) (v := ?v27) rfl rfl (by kernel_rfl) hHeld (by rfl) (fun _ _ _ h => (hPan _ _ _ h).elim) (fun w h => ?y27) ?_; (case y27 => (try dsimp only at h); go_simp; try (with_reducible rfl)); try simp only [Act.put, sa, s0, s1]
        refine tk 1 q1cf_32_2_1 (some 18) (v := ?v28) rfl rfl (by kernel_rfl) hHeld (by rfl) (fun _ _ _ h => (hPan _ _ _ h).elim) (fun w h => ?y28) ?_; (case y28 => (try dsimp only at h); go_simp; try (with_reducible rfl)); try simp only [Act.put, sa, s0, s1]
        refine tk 2 q1cf_32_2_2 (some 19) (v := ?v29) rfl rfl (by kernel_rfl) hHeld (by rfl) (fun _ _ _ h => (hPan _ _ _ h).elim) (fun w h => ?y29) ?_; (case y29 => (try dsimp only at h); go_simp; try (with_reducible rfl)); try simp only [Act.put, sa, s0, s1]
        refine tk 3 q1cf_32_2_3 (some 20) (v := ?v30) rfl rfl (by kernel_rfl) hHeld (by rfl) (fun _ _ _ h => (hPan _ _ _ h).elim) (fun w h => ?y30) ?_; (case y30 => (try dsimp only at h); go_simp; try (with_reducible rfl)); try simp only [Act.put, sa, s0, s1]
        refine tk 4 q1cf_32_2_4 (some 21) (v := ?v31) rfl rfl (by kernel_rfl) hHeld (by rfl) (fun _ _ _ h => (hPan _ _ _ h).elim) (fun w h => ?y31) ?_; (case y31 => (try dsimp only at h); go_simp; try (with_reducible rfl)); try simp only [Act.put, sa, s0, s1]
        refine tk 6 q1cf_32_2_6 (some 23) (v := ?v32) rfl rfl (by kernel_rfl) hHeld (by rfl) (fun _ _ _ h => (hPan _ _ _ h).elim) (fun w h => ?y32) ?_; (case y32 => (try dsimp only at h); go_simp; try (with_reducible rfl)); try simp only [Act.put, sa, s0, s1]
        refine tk 7 q1cf_32_2_7 (some 24) (v := ?v33) rfl rfl (by kernel_rfl) hHeld (by rfl) (fun _ _ _ h => (hPan _ _ _ h).elim) (fun w h => ?y33) ?_; (case y33 => (try dsimp only at h); go_simp; try (with_reducible rfl)); try simp only [Act.put, sa, s0, s1]
        refine tk 8 q1cf_32_2_8 (some 25) (v := ?v34) rfl rfl (by kernel_rfl) hHeld (by rfl) (fun _ _ _ h => (hPan _ _ _ h).elim) (fun w h => ?y34) ?_; (case y34 => (try dsimp only at h); go_simp; try (with_reducible rfl)); try simp only [Act.put, sa, s0, s1]
        refine tk 9 q1cf_32_2_9 (some 26) (v := ?v35) rfl rfl (by kernel_rfl) hHeld (by rfl) (fun _ _ _ h => (hPan _ _ _ h).elim) (fun w h => ?y35) ?_; (case y35 => (try dsimp only at h); go_simp; try (with_reducible rfl)); try simp only [Act.put, sa, s0, s1]
        refine wpAnyH_ready (rs := [5, 14]) (by kernel_rfl) (by simp) ?_
        refine (AllReadyH.cons (o := q1cf_32_2_5) rfl (fun K hK => ?_) (AllReadyH.cons (o := q1cf_32_2_14) rfl (fun K hK => ?_) AllReadyH.nil))
        · go_simp
          obtain ⟨wE5, hq5⟩ : ∃ q, q = wS.alloc (.cells #[.int .i64 it.fD.fR, .int .i64 it.fD.fN, .slice ai it.fDeps.length ci] 52) := ⟨_, rfl⟩
          have hop5 : Below wS.heap.size wS wE5 := by rw [hq5]; exact (Below.refl _ _).alloc (Nat.le_refl _) _
          have hSwE5 := bthen hSwS hop5
          obtain ⟨g5, HG5⟩ : ∃ z, Hid (z = wS.heap.size) := ⟨_, Hid.mk rfl⟩
          have HB5 : Hid (Bx wE5 g5 [.int .i64 it.fD.fR, .int .i64 it.fD.fN, .slice ai it.fDeps.length ci]) := by unfold Hid; rw [HG5.out, hq5]; exact Bx.new _ _ _
          rw [← HG5.out]
          rw [← hq5]
          clear hq5
          refine hK.out _ _ (hSwE5) (fun hHeld => ?_)
          clear hK K
          try simp only [Act.put, sa, s0, s1]
          refine wpAnyH_ready (rs := [10, 14]) (by kernel_rfl) (by simp) ?_
          refine (AllReadyH.cons (o := q1cf_32_2_10) rfl (fun K hK => ?_) (AllReadyH.cons (o := q1cf_32_2_14) rfl (fun K hK => ?_) AllReadyH.nil))
          · go_simp
            obtain ⟨wE10, hq10⟩ : ∃ q, q = wE5.alloc (.cells #[.slice (some ⟨b0, o0, none⟩) n n, .slice (some ⟨g5, 0, none⟩) 1 1, .slice (some ⟨b0, o0, none⟩) 0 0] 28) := ⟨_, rfl⟩
            have hop10 : Below wE5.heap.size wE5 wE10 := by rw [hq10]; exact (Below.refl _ _).alloc (Nat.le_refl _) _
            have hSwE10 := bthen hSwE5 hop10
            obtain ⟨g10, HG10⟩ : ∃ z, Hid (z = wE5.heap.size) := ⟨_, Hid.mk rfl⟩
            have HB10 : Hid (Bx wE10 g10 [.slice (some ⟨b0, o0, none⟩) n n, .slice (some ⟨g5, 0, none⟩) 1 1, .slice (some ⟨b0, o0, none⟩) 0 0]) := by unfold Hid; rw [HG10.out, hq10]; exact Bx.new _ _ _
            rw [← HG10.out]
            rw [← hq10]
            clear hq10
            refine hK.out _ _ (hSwE10) (fun hHeld => ?_)
            clear hK K
            try simp only [Act.put, sa, s0, s1]
            refine wpAnyH_ready (rs := [11, 14]) (by kernel_rfl) (by simp) ?_
            refine (AllReadyH.cons (o := q1cf_32_2_11) rfl (fun K hK => ?_) (AllReadyH.cons (o := q1cf_32_2_14) rfl (fun K hK => ?_) AllReadyH.nil))
            · go_simp
              have hf5 := (show Below wE5.heap.size wE5 wE10 from bthen (Below.refl _ _) hop10)
              have hf10 := (show Below wE10.heap.size wE10 wE10 from Below.refl _ _)
              have hfS := hSwE10
              refine Calls.mono (concatItem_any g10 3 [((some ⟨b0, o0, none⟩), n, l.take n), (some ⟨g5, 0, none⟩, 1, [it]), ((some ⟨b0, o0, none⟩), 0, l.drop n)] wE10 rfl (by omega) (HB10.out.under hf10).1 (fun i h => cat3 (HB10.out.under hf10) H1.out H3.out i h) (fun i h => leaf3 ((HL1.out.below rItem_good hfS).mono rItem_good hfS.size) (leaf_one (HB5.out.under hf5) (rItem_good.below HIc.out (hfS.mono hb1.size)) (Nat.le_trans hb1.size hfS.size)) ((HL2.out.below rItem_good hfS).mono rItem_good hfS.size) i h) (sum3 H1.out H3.out (by omega))) ?_
              rintro e wE11 ⟨v11, rfl, hrow11, hop11⟩
              rw [cat_ins] at hrow11
              have hSwE11 := bthen hSwE10 hop11
              obtain ⟨a11, c11, rfl, hL11⟩ := RowR.leaf rItem_good hrow11 hop11.size
              have HL11 := Hid.mk hL11
              clear hrow11 hL11
              go_wp2_with fail
              refine hK.out _ _ (hSwE11) (fun hHeld => ?_)
              clear hK K
              try simp only [Act.put, sa, s0, s1]
              refine tk 12 q1cf_32_2_12 (some 29) (v := ?v36) rfl rfl (by kernel_rfl) hHeld (by rfl) (fun _ _ _ h => (hPan _ _ _ h).elim) (fun w h => ?y36) ?_; (case y36 => (try dsimp only at h); go_simp; try (with_reducible rfl)); try simp only [Act.put, sa, s0, s1]
              refine wpAnyH_ready (rs := [13, 14]) (by kernel_rfl) (by simp) ?_
              refine (AllReadyH.cons (o := q1cf_32_2_13) rfl (fun K hK => ?_) (AllReadyH.cons (o := q1cf_32_2_14) rfl (fun K hK => ?_) AllReadyH.nil))
              · go_simp
                have hf11 := (show Below wE11.heap.size wE11 wE11 from Below.refl _ _)
                refine Calls.mono (copyGraph_any [.slice a11 (insAt l n it).length c11] ⟨insAt l n it⟩ wE11 ⟨a11, c11, rfl, (HL11.out.below rItem_good hf11).mono rItem_good hf11.size, trivial⟩ HNI.out HDI.out) ?_
                rintro e wE13 ⟨cs13, F13, rfl, ho13, hN13, hge13, hop13⟩
                have hSwE13 := bthen hSwE11 hop13
                have hgeS : ∀ b, b ∈ F13 → w1.heap.size ≤ b := fun b hb => Nat.le_trans (Below.size hSwE11) (hge13 b hb)
                obtain ⟨v13, F0, rfl, ho13, rfl⟩ := ho13
                replace ho13 : ownS 3 52 oItem wE13 v13 (insAt l n it) F0 := ho13
                obtain ⟨a13, c13, rfl, _⟩ := id (ownS.read oItem_good ho13)
                have HO13 := Hid.mk ho13
                have HN13 := Hid.mk hN13
                have HGE13 := Hid.mk hge13
                have HGES := Hid.mk hgeS
                clear ho13 hN13 hge13 hgeS
                go_wp2_with fail
                refine hK.out _ _ (hSwE13) (fun hHeld => ?_)
                clear hK K
                try simp only [Act.put, sa, s0, s1]
                refine wpAnyH_ready (rs := [14]) (by kernel_rfl) (by simp) ?_
                refine (AllReadyH.cons (o := q1cf_32_2_14) rfl (fun K hK => ?_) AllReadyH.nil)
                · go_simp
                  obtain ⟨wE14, hq14⟩ : ∃ q, q = wE13.alloc (.cells #[.slice none 0 0] 30) := ⟨_, rfl⟩
                  have hop14 : Below wE13.heap.size wE13 wE14 := by rw [hq14]; exact (Below.refl _ _).alloc (Nat.le_refl _) _
                  have hSwE14 := bthen hSwE13 hop14
                  obtain ⟨g14, HG14⟩ : ∃ z, Hid (z = wE13.heap.size) := ⟨_, Hid.mk rfl⟩
                  have HB14 : Hid (Bw wE14 g14 30 [.slice none 0 0]) := by unfold Hid; rw [HG14.out, hq14]; exact Bw.new _ _ _
                  have HGw : Hid (w1.heap.size ≤ g14) := by unfold Hid; rw [HG14.out]; exact Below.size hSwE13
                  rw [← HG14.out]
                  rw [← hq14]
                  clear hq14
                  refine hK.out _ _ (hSwE14) (fun hHeld => ?_)
                  clear hK K
                  try simp only [Act.put, sa, s0, s1]
                  refine wpAnyH_ready (rs := [15]) (by kernel_rfl) (by simp) ?_
                  refine (AllReadyH.cons (o := q1cf_32_2_15) rfl (fun K hK => ?_) AllReadyH.nil)
                  · skip
                    have hb14 := HB14.out.under (show Below wE14.heap.size wE14 wE14 from Below.refl _ _)
                    have s0 := hb14.cell 0 _ rfl
                    have sf0 := hb14.free 0
                    have hl14 := hb14.lt
                    go_simp
                    obtain ⟨wE15, hq15⟩ : ∃ q, q = wE14.setCell ⟨g14, 0, none⟩ (.slice a13 (insAt l n it).length c13) := ⟨_, rfl⟩
                    have hT15 : Turn [g14] wE14 wE15 := by rw [hq15]; exact (Turn.refl _ _).setCell (by simp) _
                    have hbx15 : Bw wE15 g14 30 [(.slice a13 (insAt l n it).length c13)] := by rw [hq15]; exact hb14.put 0 _
                    have hSwE15 : Below w1.heap.size w1 wE15 := (hSwE14).trans (hT15.below (fun k hk => by simp at hk; subst hk; exact HGw.out) (Below.size hSwE14))
                    have hf13 := (show Below wE13.heap.size wE13 wE14 from bthen (Below.refl _ _) hop14)
                    have hf14 := (show Below wE14.heap.size wE14 wE14 from Below.refl _ _)
                    rw [← hq15]
                    clear hq15 s0 sf0
                    refine hK.out _ _ (hSwE15) (fun hHeld => ?_)
                    clear hK K
                    try simp only [Act.put, sa, s0, s1]
                    refine wpAnyH_done (by kernel_rfl) ?_ _
                    rw [HQ.out]
                    have hne : ∀ b, b ∈ F0 ++ [] → b ≠ g14 := fun b hb h => by have h1 := HGE13.out b hb; have h2 : b < wE13.heap.size := (by rw [List.append_nil] at hb; exact ownS.lt oItem_good HO13.out b hb); have h3 := HB14.out.lt; have h4 := HG14.out; have h5 := hop5.size; have h6 := hop10.size; have h7 := hop11.size; have h8 := hop13.size; have h9 := hop14.size; omega
                    have ho15 : ownS 3 52 oItem wE15 (.slice a13 (insAt l n it).length c13) (insAt l n it) F0 := ownS.frame oItem_good (ownS.frame oItem_good HO13.out (fun b hb => hf13.block b (ownS.lt oItem_good HO13.out b hb))) (fun b hb => hT15.block b (Nat.lt_of_lt_of_le (ownS.lt oItem_good HO13.out b hb) hf13.size) (by intro h; simp at h; exact hne b (by simpa using hb) h))
                    exact ⟨rfl, _, _, _, _, _, _, _, _, _, _, _, _, _, _, _, _, _, _, _, _, _, _, _, _, _, _, _, _, _, _, _, _, g14, _, F0, rfl, hbx15, ho15, by simpa using HN13.out, fun b hb => ⟨HGES.out b (by simpa using hb), hne b (by simpa using hb)⟩, HGw.out, hSwE15⟩
              · go_simp
                obtain ⟨wE14, hq14⟩ : ∃ q, q = wE11.alloc (.cells #[.slice none 0 0] 30) := ⟨_, rfl⟩
                have hop14 : Below wE11.heap.size wE11 wE14 := by rw [hq14]; exact (Below.refl _ _).alloc (Nat.le_refl _) _
                have hSwE14 := bthen hSwE11 hop14
                obtain ⟨g14, HG14⟩ : ∃ z, Hid (z = wE11.heap.size) := ⟨_, Hid.mk rfl⟩
                have HB14 : Hid (Bw wE14 g14 30 [.slice none 0 0]) := by unfold Hid; rw [HG14.out, hq14]; exact Bw.new _ _ _
                have HGw : Hid (w1.heap.size ≤ g14) := by unfold Hid; rw [HG14.out]; exact Below.size hSwE11
                rw [← HG14.out]
                rw [← hq14]
                clear hq14
                refine hK.out _ _ (hSwE14) (fun hHeld => ?_)
                clear hK K
                try simp only [Act.put, sa, s0, s1]
                refine wpAnyH_ready (rs := [13]) (by kernel_rfl) (by simp) ?_
                refine (AllReadyH.cons (o := q1cf_32_2_13) rfl (fun K hK => ?_) AllReadyH.nil)
                · go_simp
                  have hf11 := (show Below wE11.heap.size wE11 wE14 from bthen (Below.refl _ _) hop14)
                  refine Calls.mono (copyGraph_any [.slice a11 (insAt l n it).length c11] ⟨insAt l n it⟩ wE14 ⟨a11, c11, rfl, (HL11.out.below rItem_good hf11).mono rItem_good hf11.size, trivial⟩ HNI.out HDI.out) ?_
                  rintro e wE13 ⟨cs13, F13, rfl, ho13, hN13, hge13, hop13⟩
                  have hSwE13 := bthen hSwE14 hop13
                  have hgeS : ∀ b, b ∈ F13 → w1.heap.size ≤ b := fun b hb => Nat.le_trans (Below.size hSwE14) (hge13 b hb)
                  obtain ⟨v13, F0, rfl, ho13, rfl⟩ := ho13
                  replace ho13 : ownS 3 52 oItem wE13 v13 (insAt l n it) F0 := ho13
                  obtain ⟨a13, c13, rfl, _⟩ := id (ownS.read oItem_good ho13)
                  have HO13 := Hid.mk ho13
                  have HN13 := Hid.mk hN13
                  have HGE13 := Hid.mk hge13
                  have HGES := Hid.mk hgeS
                  clear ho13 hN13 hge13 hgeS
                  go_wp2_with fail
                  refine hK.out _ _ (hSwE13) (fun hHeld => ?_)
                  clear hK K
                  try simp only [Act.put, sa, s0, s1]
                  refine wpAnyH_ready (rs := [15]) (by kernel_rfl) (by simp) ?_
                  refine (AllReadyH.cons (o := q1cf_32_2_15) rfl (fun K hK => ?_) AllReadyH.nil)
                  · skip
                    have hb14 := HB14.out.under (show Below wE14.heap.size wE14 wE13 from bthen (Below.refl _ _) hop13)
                    have s0 := hb14.cell 0 _ rfl
                    have sf0 := hb14.free 0
                    have hl14 := hb14.lt
                    go_simp
                    obtain ⟨wE15, hq15⟩ : ∃ q, q = wE13.setCell ⟨g14, 0, none⟩ (.slice a13 (insAt l n it).length c13) := ⟨_, rfl⟩
                    have hT15 : Turn [g14] wE13 wE15 := by rw [hq15]; exact (Turn.refl _ _).setCell (by simp) _
                    have hbx15 : Bw wE15 g14 30 [(.slice a13 (insAt l n it).length c13)] := by rw [hq15]; exact hb14.put 0 _
                    have hSwE15 : Below w1.heap.size w1 wE15 := (hSwE13).trans (hT15.below (fun k hk => by simp at hk; subst hk; exact HGw.out) (Below.size hSwE13))
                    have hf13 := (show Below wE13.heap.size wE13 wE13 from Below.refl _ _)
                    have hf14 := (show Below wE14.heap.size wE14 wE13 from bthen (Below.refl _ _) hop13)
                    rw [← hq15]
                    clear hq15 s0 sf0
                    refine hK.out _ _ (hSwE15) (fun hHeld => ?_)
                    clear hK K
                    try simp only [Act.put, sa, s0, s1]
                    refine wpAnyH_done (by kernel_rfl) ?_ _
                    rw [HQ.out]
                    have hne : ∀ b, b ∈ F0 ++ [] → b ≠ g14 := fun b hb h => by have h1 := HGE13.out b hb; have h2 : b < wE13.heap.size := (by rw [List.append_nil] at hb; exact ownS.lt oItem_good HO13.out b hb); have h3 := HB14.out.lt; have h4 := HG14.out; have h5 := hop5.size; have h6 := hop10.size; have h7 := hop11.size; have h8 := hop13.size; have h9 := hop14.size; omega
                    have ho15 : ownS 3 52 oItem wE15 (.slice a13 (insAt l n it).length c13) (insAt l n it) F0 := ownS.frame oItem_good (ownS.frame oItem_good HO13.out (fun b hb => hf13.block b (ownS.lt oItem_good HO13.out b hb))) (fun b hb => hT15.block b (Nat.lt_of_lt_of_le (ownS.lt oItem_good HO13.out b hb) hf13.size) (by intro h; simp at h; exact hne b (by simpa using hb) h))
                    exact ⟨rfl, _, _, _, _, _, _, _, _, _, _, _, _, _, _, _, _, _, _, _, _, _, _, _, _, _, _, _, _, _, _, _, _, g14, _, F0, rfl, hbx15, ho15, by simpa using HN13.out, fun b hb => ⟨HGES.out b (by simpa using hb), hne b (by simpa using hb)⟩, HGw.out, hSwE15⟩
            · go_simp
              obtain ⟨wE14, hq14⟩ : ∃ q, q = wE10.alloc (.cells #[.slice none 0 0] 30) := ⟨_, rfl⟩
              have hop14 : Below wE10.heap.size wE10 wE14 := by rw [hq14]; exact (Below.refl _ _).alloc (Nat.le_refl _) _
              have hSwE14 := bthen hSwE10 hop14
              obtain ⟨g14, HG14⟩ : ∃ z, Hid (z = wE10.heap.size) := ⟨_, Hid.mk rfl⟩
              have HB14 : Hid (Bw wE14 g14 30 [.slice none 0 0]) := by unfold Hid; rw [HG14.out, hq14]; exact Bw.new _ _ _
              have HGw : Hid (w1.heap.size ≤ g14) := by unfold Hid; rw [HG14.out]; exact Below.size hSwE10
              rw [← HG14.out]
              rw [← hq14]
              clear hq14
              refine hK.out _ _ (hSwE14) (fun hHeld => ?_)
              clear hK K
              try simp only [Act.put, sa, s0, s1]
              refine wpAnyH_ready (rs := [11]) (by kernel_rfl) (by simp) ?_
              refine (AllReadyH.cons (o := q1cf_32_2_11) rfl (fun K hK => ?_) AllReadyH.nil)
              · go_simp
                have hf5 := (show Below wE5.heap.size wE5 wE14 from bthen (bthen (Below.refl _ _) hop10) hop14)
                have hf10 := (show Below wE10.heap.size wE10 wE14 from bthen (Below.refl _ _) hop14)
                have hfS := hSwE14
                refine Calls.mono (concatItem_any g10 3 [((some ⟨b0, o0, none⟩), n, l.take n), (some ⟨g5, 0, none⟩, 1, [it]), ((some ⟨b0, o0, none⟩), 0, l.drop n)] wE14 rfl (by omega) (HB10.out.under hf10).1 (fun i h => cat3 (HB10.out.under hf10) H1.out H3.out i h) (fun i h => leaf3 ((HL1.out.below rItem_good hfS).mono rItem_good hfS.size) (leaf_one (HB5.out.under hf5) (rItem_good.below HIc.out (hfS.mono hb1.size)) (Nat.le_trans hb1.size hfS.size)) ((HL2.out.below rItem_good hfS).mono rItem_good hfS.size) i h) (sum3 H1.out H3.out (by omega))) ?_
                rintro e wE11 ⟨v11, rfl, hrow11, hop11⟩
                rw [cat_ins] at hrow11
                have hSwE11 := bthen hSwE14 hop11
                obtain ⟨a11, c11, rfl, hL11⟩ := RowR.leaf rItem_good hrow11 hop11.size
                have HL11 := Hid.mk hL11
                clear hrow11 hL11
                go_wp2_with fail
                refine hK.out _ _ (hSwE11) (fun hHeld => ?_)
                clear hK K
                try simp only [Act.put, sa, s0, s1]
                refine tk 12 q1cf_32_2_12 (some 29) (v := ?v37) rfl rfl (by kernel_rfl) hHeld (by rfl) (fun _ _ _ h => (hPan _ _ _ h).elim) (fun w h => ?y37) ?_; (case y37 => (try dsimp only at h); go_simp; try (with_reducible rfl)); try simp only [Act.put, sa, s0, s1]
                refine wpAnyH_ready (rs := [13]) (by kernel_rfl) (by simp) ?_
                refine (AllReadyH.cons (o := q1cf_32_2_13) rfl (fun K hK => ?_) AllReadyH.nil)
                · go_simp
                  have hf11 := (show Below wE11.heap.size wE11 wE11 from Below.refl _ _)
                  refine Calls.mono (copyGraph_any [.slice a11 (insAt l n it).length c11] ⟨insAt l n it⟩ wE11 ⟨a11, c11, rfl, (HL11.out.below rItem_good hf11).mono rItem_good hf11.size, trivial⟩ HNI.out HDI.out) ?_
                  rintro e wE13 ⟨cs13, F13, rfl, ho13, hN13, hge13, hop13⟩
                  have hSwE13 := bthen hSwE11 hop13
                  have hgeS : ∀ b, b ∈ F13 → w1.heap.size ≤ b := fun b hb => Nat.le_trans (Below.size hSwE11) (hge13 b hb)
                  obtain ⟨v13, F0, rfl, ho13, rfl⟩ := ho13
                  replace ho13 : ownS 3 52 oItem wE13 v13 (insAt l n it) F0 := ho13
                  obtain ⟨a13, c13, rfl, _⟩ := id (ownS.read oItem_good ho13)
                  have HO13 := Hid.mk ho13
                  have HN13 := Hid.mk hN13
                  have HGE13 := Hid.mk hge13
                  have HGES := Hid.mk hgeS
                  clear ho13 hN13 hge13 hgeS
                  go_wp2_with fail
                  refine hK.out _ _ (hSwE13) (fun hHeld => ?_)
                  clear hK K
                  try simp only [Act.put, sa, s0, s1]
                  refine wpAnyH_ready (rs := [15]) (by kernel_rfl) (by simp) ?_
                  refine (AllReadyH.cons (o := q1cf_32_2_15) rfl (fun K hK => ?_) AllReadyH.nil)
                  · skip
                    have hb14 := HB14.out.under (show Below wE14.heap.size wE14 wE13 from bthen (bthen (Below.refl _ _) hop11) hop13)
                    have s0 := hb14.cell 0 _ rfl
                    have sf0 := hb14.free 0
                    have hl14 := hb14.lt
                    go_simp
                    obtain ⟨wE15, hq15⟩ : ∃ q, q = wE13.setCell ⟨g14, 0, none⟩ (.slice a13 (insAt l n it).length c13) := ⟨_, rfl⟩
                    have hT15 : Turn [g14] wE13 wE15 := by rw [hq15]; exact (Turn.refl _ _).setCell (by simp) _
                    have hbx15 : Bw wE15 g14 30 [(.slice a13 (insAt l n it).length c13)] := by rw [hq15]; exact hb14.put 0 _
                    have hSwE15 : Below w1.heap.size w1 wE15 := (hSwE13).trans (hT15.below (fun k hk => by simp at hk; subst hk; exact HGw.out) (Below.size hSwE13))
                    have hf13 := (show Below wE13.heap.size wE13 wE13 from Below.refl _ _)
                    have hf14 := (show Below wE14.heap.size wE14 wE13 from bthen (bthen (Below.refl _ _) hop11) hop13)
                    rw [← hq15]
                    clear hq15 s0 sf0
                    refine hK.out _ _ (hSwE15) (fun hHeld => ?_)
                    clear hK K
                    try simp only [Act.put, sa, s0, s1]
                    refine wpAnyH_done (by kernel_rfl) ?_ _
                    rw [HQ.out]
                    have hne : ∀ b, b ∈ F0 ++ [] → b ≠ g14 := fun b hb h => by have h1 := HGE13.out b hb; have h2 : b < wE13.heap.size := (by rw [List.append_nil] at hb; exact ownS.lt oItem_good HO13.out b hb); have h3 := HB14.out.lt; have h4 := HG14.out; have h5 := hop5.size; have h6 := hop10.size; have h7 := hop11.size; have h8 := hop13.size; have h9 := hop14.size; omega
                    have ho15 : ownS 3 52 oItem wE15 (.slice a13 (insAt l n it).length c13) (insAt l n it) F0 := ownS.frame oItem_good (ownS.frame oItem_good HO13.out (fun b hb => hf13.block b (ownS.lt oItem_good HO13.out b hb))) (fun b hb => hT15.block b (Nat.lt_of_lt_of_le (ownS.lt oItem_good HO13.out b hb) hf13.size) (by intro h; simp at h; exact hne b (by simpa using hb) h))
                    exact ⟨rfl, _, _, _, _, _, _, _, _, _, _, _, _, _, _, _, _, _, _, _, _, _, _, _, _, _, _, _, _, _, _, _, _, g14, _, F0, rfl, hbx15, ho15, by simpa using HN13.out, fun b hb => ⟨HGES.out b (by simpa using hb), hne b (by simpa using hb)⟩, HGw.out, hSwE15⟩
          · go_simp
            obtain ⟨wE14, hq14⟩ : ∃ q, q = wE5.alloc (.cells #[.slice none 0 0] 30) := ⟨_, rfl⟩
            have hop14 : Below wE5.heap.size wE5 wE14 := by rw [hq14]; exact (Below.refl _ _).alloc (Nat.le_refl _) _
            have hSwE14 := bthen hSwE5 hop14
            obtain ⟨g14, HG14⟩ : ∃ z, Hid (z = wE5.heap.size) := ⟨_, Hid.mk rfl⟩
            have HB14 : Hid (Bw wE14 g14 30 [.slice none 0 0]) := by unfold Hid; rw [HG14.out, hq14]; exact Bw.new _ _ _
            have HGw : Hid (w1.heap.size ≤ g14) := by unfold Hid; rw [HG14.out]; exact Below.size hSwE5
            rw [← HG14.out]
            rw [← hq14]
            clear hq14
            refine hK.out _ _ (hSwE14) (fun hHeld => ?_)
            clear hK K
            try simp only [Act.put, sa, s0, s1]
            refine wpAnyH_ready (rs := [10]) (by kernel_rfl) (by simp) ?_
            refine (AllReadyH.cons (o := q1cf_32_2_10) rfl (fun K hK => ?_) AllReadyH.nil)
            · go_simp
              obtain ⟨wE10, hq10⟩ : ∃ q, q = wE14.alloc (.cells #[.slice (some ⟨b0, o0, none⟩) n n, .slice (some ⟨g5, 0, none⟩) 1 1, .slice (some ⟨b0, o0, none⟩) 0 0] 28) := ⟨_, rfl⟩
              have hop10 : Below wE14.heap.size wE14 wE10 := by rw [hq10]; exact (Below.refl _ _).alloc (Nat.le_refl _) _
              have hSwE10 := bthen hSwE14 hop10
              obtain ⟨g10, HG10⟩ : ∃ z, Hid (z = wE14.heap.size) := ⟨_, Hid.mk rfl⟩
              have HB10 : Hid (Bx wE10 g10 [.slice (some ⟨b0, o0, none⟩) n n, .slice (some ⟨g5, 0, none⟩) 1 1, .slice (some ⟨b0, o0, none⟩) 0 0]) := by unfold Hid; rw [HG10.out, hq10]; exact Bx.new _ _ _
              rw [← HG10.out]
              rw [← hq10]
              clear hq10
              refine hK.out _ _ (hSwE10) (fun hHeld => ?_)
              clear hK K
              try simp only [Act.put, sa, s0, s1]
              refine wpAnyH_ready (rs := [11]) (by kernel_rfl) (by simp) ?_
              refine (AllReadyH.cons (o := q1cf_32_2_11) rfl (fun K hK => ?_) AllReadyH.nil)
              · go_simp
                have hf5 := (show Below wE5.heap.size wE5 wE10 from bthen (bthen (Below.refl _ _) hop14) hop10)
                have hf10 := (show Below wE10.heap.size wE10 wE10 from Below.refl _ _)
                have hfS := hSwE10
                refine Calls.mono (concatItem_any g10 3 [((some ⟨b0, o0, none⟩), n, l.take n), (some ⟨g5, 0, none⟩, 1, [it]), ((some ⟨b0, o0, none⟩), 0, l.drop n)] wE10 rfl (by omega) (HB10.out.under hf10).1 (fun i h => cat3 (HB10.out.under hf10) H1.out H3.out i h) (fun i h => leaf3 ((HL1.out.below rItem_good hfS).mono rItem_good hfS.size) (leaf_one (HB5.out.under hf5) (rItem_good.below HIc.out (hfS.mono hb1.size)) (Nat.le_trans hb1.size hfS.size)) ((HL2.out.below rItem_good hfS).mono rItem_good hfS.size) i h) (sum3 H1.out H3.out (by omega))) ?_
                rintro e wE11 ⟨v11, rfl, hrow11, hop11⟩
                rw [cat_ins] at hrow11
                have hSwE11 := bthen hSwE10 hop11
                obtain ⟨a11, c11, rfl, hL11⟩ := RowR.leaf rItem_good hrow11 hop11.size
                have HL11 := Hid.mk hL11
                clear hrow11 hL11
                go_wp2_with fail
                refine hK.out _ _ (hSwE11) (fun hHeld => ?_)
                clear hK K
                try simp only [Act.put, sa, s0, s1]
                refine tk 12 q1cf_32_2_12 (some 29) (v := ?v38) rfl rfl (by kernel_rfl) hHeld (by rfl) (fun _ _ _ h => (hPan _ _ _ h).elim) (fun w h => ?y38) ?_; (case y38 => (try dsimp only at h); go_simp; try (with_reducible rfl)); try simp only [Act.put, sa, s0, s1]
                refine wpAnyH_ready (rs := [13]) (by kernel_rfl) (by simp) ?_
                refine (AllReadyH.cons (o := q1cf_32_2_13) rfl (fun K hK => ?_) AllReadyH.nil)
                · go_simp
                  have hf11 := (show Below wE11.heap.size wE11 wE11 from Below.refl _ _)
                  refine Calls.mono (copyGraph_any [.slice a11 (insAt l n it).length c11] ⟨insAt l n it⟩ wE11 ⟨a11, c11, rfl, (HL11.out.below rItem_good hf11).mono rItem_good hf11.size, trivial⟩ HNI.out HDI.out) ?_
                  rintro e wE13 ⟨cs13, F13, rfl, ho13, hN13, hge13, hop13⟩
                  have hSwE13 := bthen hSwE11 hop13
                  have hgeS : ∀ b, b ∈ F13 → w1.heap.size ≤ b := fun b hb => Nat.le_trans (Below.size hSwE11) (hge13 b hb)
                  obtain ⟨v13, F0, rfl, ho13, rfl⟩ := ho13
                  replace ho13 : ownS 3 52 oItem wE13 v13 (insAt l n it) F0 := ho13
                  obtain ⟨a13, c13, rfl, _⟩ := id (ownS.read oItem_good ho13)
                  have HO13 := Hid.mk ho13
                  have HN13 := Hid.mk hN13
                  have HGE13 := Hid.mk hge13
                  have HGES := Hid.mk hgeS
                  clear ho13 hN13 hge13 hgeS
                  go_wp2_with fail
                  refine hK.out _ _ (hSwE13) (fun hHeld => ?_)
                  clear hK K
                  try simp only [Act.put, sa, s0, s1]
                  refine wpAnyH_ready (rs := [15]) (by kernel_rfl) (by simp) ?_
                  refine (AllReadyH.cons (o := q1cf_32_2_15) rfl (fun K hK => ?_) AllReadyH.nil)
                  · skip
                    have hb14 := HB14.out.under (show Below wE14.heap.size wE14 wE13 from bthen (bthen (bthen (Below.refl _ _) hop10) hop11) hop13)
                    have s0 := hb14.cell 0 _ rfl
                    have sf0 := hb14.free 0
                    have hl14 := hb14.lt
                    go_simp
                    obtain ⟨wE15, hq15⟩ : ∃ q, q = wE13.setCell ⟨g14, 0, none⟩ (.slice a13 (insAt l n it).length c13) := ⟨_, rfl⟩
                    have hT15 : Turn [g14] wE13 wE15 := by rw [hq15]; exact (Turn.refl _ _).setCell (by simp) _
                    have hbx15 : Bw wE15 g14 30 [(.slice a13 (insAt l n it).length c13)] := by rw [hq15]; exact hb14.put 0 _
                    have hSwE15 : Below w1.heap.size w1 wE15 := (hSwE13).trans (hT15.below (fun k hk => by simp at hk; subst hk; exact HGw.out) (Below.size hSwE13))
                    have hf13 := (show Below wE13.heap.size wE13 wE13 from Below.refl _ _)
                    have hf14 := (show Below wE14.heap.size wE14 wE13 from bthen (bthen (bthen (Below.refl _ _) hop10) hop11) hop13)
                    rw [← hq15]
                    clear hq15 s0 sf0
                    refine hK.out _ _ (hSwE15) (fun hHeld => ?_)
                    clear hK K
                    try simp only [Act.put, sa, s0, s1]
                    refine wpAnyH_done (by kernel_rfl) ?_ _
                    rw [HQ.out]
                    have hne : ∀ b, b ∈ F0 ++ [] → b ≠ g14 := fun b hb h => by have h1 := HGE13.out b hb; have h2 : b < wE13.heap.size := (by rw [List.append_nil] at hb; exact ownS.lt oItem_good HO13.out b hb); have h3 := HB14.out.lt; have h4 := HG14.out; have h5 := hop5.size; have h6 := hop10.size; have h7 := hop11.size; have h8 := hop13.size; have h9 := hop14.size; omega
                    have ho15 : ownS 3 52 oItem wE15 (.slice a13 (insAt l n it).length c13) (insAt l n it) F0 := ownS.frame oItem_good (ownS.frame oItem_good HO13.out (fun b hb => hf13.block b (ownS.lt oItem_good HO13.out b hb))) (fun b hb => hT15.block b (Nat.lt_of_lt_of_le (ownS.lt oItem_good HO13.out b hb) hf13.size) (by intro h; simp at h; exact hne b (by simpa using hb) h))
                    exact ⟨rfl, _, _, _, _, _, _, _, _, _, _, _, _, _, _, _, _, _, _, _, _, _, _, _, _, _, _, _, _, _, _, _, _, g14, _, F0, rfl, hbx15, ho15, by simpa using HN13.out, fun b hb => ⟨HGES.out b (by simpa using hb), hne b (by simpa using hb)⟩, HGw.out, hSwE15⟩
        · go_simp
          obtain ⟨wE14, hq14⟩ : ∃ q, q = wS.alloc (.cells #[.slice none 0 0] 30) := ⟨_, rfl⟩
          have hop14 : Below wS.heap.size wS wE14 := by rw [hq14]; exact (Below.refl _ _).alloc (Nat.le_refl _) _
          have hSwE14 := bthen hSwS hop14
          obtain ⟨g14, HG14⟩ : ∃ z, Hid (z = wS.heap.size) := ⟨_, Hid.mk rfl⟩
          have HB14 : Hid (Bw wE14 g14 30 [.slice none 0 0]) := by unfold Hid; rw [HG14.out, hq14]; exact Bw.new _ _ _
          have HGw : Hid (w1.heap.size ≤ g14) := by unfold Hid; rw [HG14.out]; exact Below.size hSwS
          rw [← HG14.out]
          rw [← hq14]
          clear hq14
          refine hK.out _ _ (hSwE14) (fun hHeld => ?_)
          clear hK K
          try simp only [Act.put, sa, s0, s1]
          refine wpAnyH_ready (rs := [5]) (by kernel_rfl) (by simp) ?_
          refine (AllReadyH.cons (o := q1cf_32_2_5) rfl (fun K hK => ?_) AllReadyH.nil)
          · go_simp
            obtain ⟨wE5, hq5⟩ : ∃ q, q = wE14.alloc (.cells #[.int .i64 it.fD.fR, .int .i64 it.fD.fN, .slice ai it.fDeps.length ci] 52) := ⟨_, rfl⟩
            have hop5 : Below wE14.heap.size wE14 wE5 := by rw [hq5]; exact (Below.refl _ _).alloc (Nat.le_refl _) _
            have hSwE5 := bthen hSwE14 hop5
            obtain ⟨g5, HG5⟩ : ∃ z, Hid (z = wE14.heap.size) := ⟨_, Hid.mk rfl⟩
            have HB5 : Hid (Bx wE5 g5 [.int .i64 it.fD.fR, .int .i64 it.fD.fN, .slice ai it.fDeps.length ci]) := by unfold Hid; rw [HG5.out, hq5]; exact Bx.new _ _ _
            rw [← HG5.out]
            rw [← hq5]
            clear hq5
            refine hK.out _ _ (hSwE5) (fun hHeld => ?_)
            clear hK K
            try simp only [Act.put, sa, s0, s1]
            refine wpAnyH_ready (rs := [10]) (by kernel_rfl) (by simp) ?_
            refine (AllReadyH.cons (o := q1cf_32_2_10) rfl (fun K hK => ?_) AllReadyH.nil)
            · go_simp
              obtain ⟨wE10, hq10⟩ : ∃ q, q = wE5.alloc (.cells #[.slice (some ⟨b0, o0, none⟩) n n, .slice (some ⟨g5, 0, none⟩) 1 1, .slice (some ⟨b0, o0, none⟩) 0 0] 28) := ⟨_, rfl⟩
              have hop10 : Below wE5.heap.size wE5 wE10 := by rw [hq10]; exact (Below.refl _ _).alloc (Nat.le_refl _) _
              have hSwE10 := bthen hSwE5 hop10
              obtain ⟨g10, HG10⟩ : ∃ z, Hid (z = wE5.heap.size) := ⟨_, Hid.mk rfl⟩
              have HB10 : Hid (Bx wE10 g10 [.slice (some ⟨b0, o0, none⟩) n n, .slice (some ⟨g5, 0, none⟩) 1 1, .slice (some ⟨b0, o0, none⟩) 0 0]) := by unfold Hid; rw [HG10.out, hq10]; exact Bx.new _ _ _
              rw [← HG10.out]
              rw [← hq10]
              clear hq10
              refine hK.out _ _ (hSwE10) (fun hHeld => ?_)
              clear hK K
              try simp only [Act.put, sa, s0, s1]
              refine wpAnyH_ready (rs := [11]) (by kernel_rfl) (by simp) ?_
              refine (AllReadyH.cons (o := q1cf_32_2_11) rfl (fun K hK => ?_) AllReadyH.nil)
              · go_simp
                have hf5 := (show Below wE5.heap.size wE5 wE10 from bthen (Below.refl _ _) hop10)
                have hf10 := (show Below wE10.heap.size wE10 wE10 from Below.refl _ _)
                have hfS := hSwE10
                refine Calls.mono (concatItem_any g10 3 [((some ⟨b0, o0, none⟩), n, l.take n), (some ⟨g5, 0, none⟩, 1, [it]), ((some ⟨b0, o0, none⟩), 0, l.drop n)] wE10 rfl (by omega) (HB10.out.under hf10).1 (fun i h => cat3 (HB10.out.under hf10) H1.out H3.out i h) (fun i h => leaf3 ((HL1.out.below rItem_good hfS).mono rItem_good hfS.size) (leaf_one (HB5.out.under hf5) (rItem_good.below HIc.out (hfS.mono hb1.size)) (Nat.le_trans hb1.size hfS.size)) ((HL2.out.below rItem_good hfS).mono rItem_good hfS.size) i h) (sum3 H1.out H3.out (by omega))) ?_
                rintro e wE11 ⟨v11, rfl, hrow11, hop11⟩
                rw [cat_ins] at hrow11
                have hSwE11 := bthen hSwE10 hop11
                obtain ⟨a11, c11, rfl, hL11⟩ := RowR.leaf rItem_good hrow11 hop11.size
                have HL11 := Hid.mk hL11
                clear hrow11 hL11
                go_wp2_with fail
                refine hK.out _ _ (hSwE11) (fun hHeld => ?_)
                clear hK K
                try simp only [Act.put, sa, s0, s1]
                refine tk 12 q1cf_32_2_12 (some 29) (v := ?v39) rfl rfl (by kernel_rfl) hHeld (by rfl) (fun _ _ _ h => (hPan _ _ _ h).elim) (fun w h => ?y39) ?_; (case y39 => (try dsimp only at h); go_simp; try (with_reducible rfl)); try simp only [Act.put, sa, s0, s1]
                refine wpAnyH_ready (rs := [13]) (by kernel_rfl) (by simp) ?_
                refine (AllReadyH.cons (o := q1cf_32_2_13) rfl (fun K hK => ?_) AllReadyH.nil)
                · go_simp
                  have hf11 := (show Below wE11.heap.size wE11 wE11 from Below.refl _ _)
                  refine Calls.mono (copyGraph_any [.slice a11 (insAt l n it).length c11] ⟨insAt l n it⟩ wE11 ⟨a11, c11, rfl, (HL11.out.below rItem_good hf11).mono rItem_good hf11.size, trivial⟩ HNI.out HDI.out) ?_
                  rintro e wE13 ⟨cs13, F13, rfl, ho13, hN13, hge13, hop13⟩
                  have hSwE13 := bthen hSwE11 hop13
                  have hgeS : ∀ b, b ∈ F13 → w1.heap.size ≤ b := fun b hb => Nat.le_trans (Below.size hSwE11) (hge13 b hb)
                  obtain ⟨v13, F0, rfl, ho13, rfl⟩ := ho13
                  replace ho13 : ownS 3 52 oItem wE13 v13 (insAt l n it) F0 := ho13
                  obtain ⟨a13, c13, rfl, _⟩ := id (ownS.read oItem_good ho13)
                  have HO13 := Hid.mk ho13
                  have HN13 := Hid.mk hN13
                  have HGE13 := Hid.mk hge13
                  have HGES := Hid.mk hgeS
                  clear ho13 hN13 hge13 hgeS
                  go_wp2_with fail
                  refine hK.out _ _ (hSwE13) (fun hHeld => ?_)
                  clear hK K
                  try simp only [Act.put, sa, s0, s1]
                  refine wpAnyH_ready (rs := [15]) (by kernel_rfl) (by simp) ?_
                  refine (AllReadyH.cons (o := q1cf_32_2_15) rfl (fun K hK => ?_) AllReadyH.nil)
                  · skip
                    have hb14 := HB14.out.under (show Below wE14.heap.size wE14 wE13 from bthen (bthen (bthen (bthen (Below.refl _ _) hop5) hop10) hop11) hop13)
                    have s0 := hb14.cell 0 _ rfl
                    have sf0 := hb14.free 0
                    have hl14 := hb14.lt
                    go_simp
                    obtain ⟨wE15, hq15⟩ : ∃ q, q = wE13.setCell ⟨g14, 0, none⟩ (.slice a13 (insAt l n it).length c13) := ⟨_, rfl⟩
                    have hT15 : Turn [g14] wE13 wE15 := by rw [hq15]; exact (Turn.refl _ _).setCell (by simp) _
                    have hbx15 : Bw wE15 g14 30 [(.slice a13 (insAt l n it).length c13)] := by rw [hq15]; exact hb14.put 0 _
                    have hSwE15 : Below w1.heap.size w1 wE15 := (hSwE13).trans (hT15.below (fun k hk => by simp at hk; subst hk; exact HGw.out) (Below.size hSwE13))
                    have hf13 := (show Below wE13.heap.size wE13 wE13 from Below.refl _ _)
                    have hf14 := (show Below wE14.heap.size wE14 wE13 from bthen (bthen (bthen (bthen (Below.refl _ _) hop5) hop10) hop11) hop13)
                    rw [← hq15]
                    clear hq15 s0 sf0
                    refine hK.out _ _ (hSwE15) (fun hHeld => ?_)
                    clear hK K
                    try simp only [Act.put, sa, s0, s1]
                    refine wpAnyH_done (by kernel_rfl) ?_ _
                    rw [HQ.out]
                    have hne : ∀ b, b ∈ F0 ++ [] → b ≠ g14 := fun b hb h => by have h1 := HGE13.out b hb; have h2 : b < wE13.heap.size := (by rw [List.append_nil] at hb; exact ownS.lt oItem_good HO13.out b hb); have h3 := HB14.out.lt; have h4 := HG14.out; have h5 := hop5.size; have h6 := hop10.size; have h7 := hop11.size; have h8 := hop13.size; have h9 := hop14.size; omega
                    have ho15 : ownS 3 52 oItem wE15 (.slice a13 (insAt l n it).length c13) (insAt l n it) F0 := ownS.frame oItem_good (ownS.frame oItem_good HO13.out (fun b hb => hf13.block b (ownS.lt oItem_good HO13.out b hb))) (fun b hb => hT15.block b (Nat.lt_of_lt_of_le (ownS.lt oItem_good HO13.out b hb) hf13.size) (by intro h; simp at h; exact hne b (by simpa using hb) h))
                    exact ⟨rfl, _, _, _, _, _, _, _, _, _, _, _, _, _, _, _, _, _, _, _, _, _, _, _, _, _, _, _, _, _, _, _, _, g14, _, F0, rfl, hbx15, ho15, by simpa using HN13.out, fun b hb => ⟨HGES.out b (by simpa using hb), hne b (by simpa using hb)⟩, HGw.out, hSwE15⟩
      · have HL2 : Hid (LeafL 3 rItem w1.heap.size w1 (some ⟨b0, o0 + p * 3, none⟩) (c - p) (l.drop p)) := by
          have h := LeafL.part HLc.out (f := p) (m := n - p) (c' := c - p) (by rw [HX.out]; omega) (by omega) (by omega)
          rw [List.take_of_length_le (by rw [List.length_drop, HX.out]; omega)] at h
          exact h
        have hcp2 : decide (c = p) = false := decide_eq_false hcp
        have hcp3 : (c == p) = false := beq_eq_false_iff_ne.2 hcp
        refine wp_region_held_drew (S := fun W => Below w1.heap.size w1 W) (by kernel_rfl) (Below.drew (Below.refl _ _)) (fun hHeld => ?_)
        obtain ⟨wS, hwS⟩ : ∃ wS, wS = w1.drew := ⟨_, rfl⟩
        have hSwS : Below w1.heap.size w1 wS := by rw [hwS]; exact Below.drew (Below.refl _ _)
        rw [← hwS] at hHeld ⊢
        clear hwS
        refine tk 0 q1cf_32_2_0 (some 17) (v := ?v40) rfl rfl (by kernel_rfl) hHeld (by rfl) (fun _ _ _ h => (hPan _ _ _ h).elim) (fun w h => ?y40) ?_; (case y40 => (try dsimp only at h); go_simp; try (with_reducible rfl)); try simp only [Act.put, sa, s0, s1]
        refine tk 1 q1cf_32_2_1 (some 18) (v := ?v41) rfl rfl (by kernel_rfl) hHeld (by rfl) (fun _ _ _ h => (hPan _ _ _ h).elim) (fun w h => ?y41) ?_; (case y41 => (try dsimp only at h); go_simp; try (with_reducible rfl)); try simp only [Act.put, sa, s0, s1]
        refine tk 2 q1cf_32_2_2 (some 19) (v := ?v42) rfl rfl (by kernel_rfl) hHeld (by rfl) (fun _ _ _ h => (hPan _ _ _ h).elim) (fun w h => ?y42) ?_; (case y42 => (try dsimp only at h); go_simp; try (with_reducible rfl)); try simp only [Act.put, sa, s0, s1]
        refine tk 3 q1cf_32_2_3 (some 20) (v := ?v43) rfl rfl (by kernel_rfl) hHeld (by rfl) (fun _ _ _ h => (hPan _ _ _ h).elim) (fun w h => ?y43) ?_; (case y43 => (try dsimp only at h); go_simp; try (with_reducible rfl)); try simp only [Act.put, sa, s0, s1]
        refine tk 4 q1cf_32_2_4 (some 21) (v := ?v44) rfl rfl (by kernel_rfl) hHeld (by rfl) (fun _ _ _ h => (hPan _ _ _ h).elim) (fun w h => ?y44) ?_; (case y44 => (try dsimp only at h); go_simp; try (with_reducible rfl)); try simp only [Act.put, sa, s0, s1]
        refine tk 6 q1cf_32_2_6 (some 23) (v := ?v45) rfl rfl (by kernel_rfl) hHeld (by rfl) (fun _ _ _ h => (hPan _ _ _ h).elim) (fun w h => ?y45) ?_; (case y45 => (try dsimp only at h); go_simp; try (with_reducible rfl)); try simp only [Act.put, sa, s0, s1]
        refine tk 7 q1cf_32_2_7 (some 24) (v := ?v46) rfl rfl (by kernel_rfl) hHeld (by rfl) (fun _ _ _ h => (hPan _ _ _ h).elim) (fun w h => ?y46) ?_; (case y46 => (try dsimp only at h); go_simp; try (with_reducible rfl)); try simp only [Act.put, sa, s0, s1]
        refine tk 8 q1cf_32_2_8 (some 25) (v := ?v47) rfl rfl (by kernel_rfl) hHeld (by rfl) (fun _ _ _ h => (hPan _ _ _ h).elim) (fun w h => ?y47) ?_; (case y47 => (try dsimp only at h); go_simp; try (with_reducible rfl)); try simp only [Act.put, sa, s0, s1]
        refine tk 9 q1cf_32_2_9 (some 26) (v := ?v48) rfl rfl (by kernel_rfl) hHeld (by rfl) (fun _ _ _ h => (hPan _ _ _ h).elim) (fun w h => ?y48) ?_; (case y48 => (try dsimp only at h); go_simp; try (with_reducible rfl)); try simp only [Act.put, sa, s0, s1]
        refine wpAnyH_ready (rs := [5, 14]) (by kernel_rfl) (by simp) ?_
        refine (AllReadyH.cons (o := q1cf_32_2_5) rfl (fun K hK => ?_) (AllReadyH.cons (o := q1cf_32_2_14) rfl (fun K hK => ?_) AllReadyH.nil))
        · go_simp
          obtain ⟨wE5, hq5⟩ : ∃ q, q = wS.alloc (.cells #[.int .i64 it.fD.fR, .int .i64 it.fD.fN, .slice ai it.fDeps.length ci] 52) := ⟨_, rfl⟩
          have hop5 : Below wS.heap.size wS wE5 := by rw [hq5]; exact (Below.refl _ _).alloc (Nat.le_refl _) _
          have hSwE5 := bthen hSwS hop5
          obtain ⟨g5, HG5⟩ : ∃ z, Hid (z = wS.heap.size) := ⟨_, Hid.mk rfl⟩
          have HB5 : Hid (Bx wE5 g5 [.int .i64 it.fD.fR, .int .i64 it.fD.fN, .slice ai it.fDeps.length ci]) := by unfold Hid; rw [HG5.out, hq5]; exact Bx.new _ _ _
          rw [← HG5.out]
          rw [← hq5]
          clear hq5
          refine hK.out _ _ (hSwE5) (fun hHeld => ?_)
          clear hK K
          try simp only [Act.put, sa, s0, s1]
          refine wpAnyH_ready (rs := [10, 14]) (by kernel_rfl) (by simp) ?_
          refine (AllReadyH.cons (o := q1cf_32_2_10) rfl (fun K hK => ?_) (AllReadyH.cons (o := q1cf_32_2_14) rfl (fun K hK => ?_) AllReadyH.nil))
          · go_simp
            obtain ⟨wE10, hq10⟩ : ∃ q, q = wE5.alloc (.cells #[.slice (some ⟨b0, o0, none⟩) p c, .slice (some ⟨g5, 0, none⟩) 1 1, .slice (some ⟨b0, o0 + p * 3, none⟩) (n - p) (c - p)] 28) := ⟨_, rfl⟩
            have hop10 : Below wE5.heap.size wE5 wE10 := by rw [hq10]; exact (Below.refl _ _).alloc (Nat.le_refl _) _
            have hSwE10 := bthen hSwE5 hop10
            obtain ⟨g10, HG10⟩ : ∃ z, Hid (z = wE5.heap.size) := ⟨_, Hid.mk rfl⟩
            have HB10 : Hid (Bx wE10 g10 [.slice (some ⟨b0, o0, none⟩) p c, .slice (some ⟨g5, 0, none⟩) 1 1, .slice (some ⟨b0, o0 + p * 3, none⟩) (n - p) (c - p)]) := by unfold Hid; rw [HG10.out, hq10]; exact Bx.new _ _ _
            rw [← HG10.out]
            rw [← hq10]
            clear hq10
            refine hK.out _ _ (hSwE10) (fun hHeld => ?_)
            clear hK K
            try simp only [Act.put, sa, s0, s1]
            refine wpAnyH_ready (rs := [11, 14]) (by kernel_rfl) (by simp) ?_
            refine (AllReadyH.cons (o := q1cf_32_2_11) rfl (fun K hK => ?_) (AllReadyH.cons (o := q1cf_32_2_14) rfl (fun K hK => ?_) AllReadyH.nil))
            · go_simp
              have hf5 := (show Below wE5.heap.size wE5 wE10 from bthen (Below.refl _ _) hop10)
              have hf10 := (show Below wE10.heap.size wE10 wE10 from Below.refl _ _)
              have hfS := hSwE10
              refine Calls.mono (concatItem_any g10 3 [((some ⟨b0, o0, none⟩), c, l.take p), (some ⟨g5, 0, none⟩, 1, [it]), ((some ⟨b0, o0 + p * 3, none⟩), (c - p), l.drop p)] wE10 rfl (by omega) (HB10.out.under hf10).1 (fun i h => cat3 (HB10.out.under hf10) H1.out H2.out i h) (fun i h => leaf3 ((HL1.out.below rItem_good hfS).mono rItem_good hfS.size) (leaf_one (HB5.out.under hf5) (rItem_good.below HIc.out (hfS.mono hb1.size)) (Nat.le_trans hb1.size hfS.size)) ((HL2.out.below rItem_good hfS).mono rItem_good hfS.size) i h) (sum3 H1.out H2.out (by omega))) ?_
              rintro e wE11 ⟨v11, rfl, hrow11, hop11⟩
              rw [cat_ins] at hrow11
              have hSwE11 := bthen hSwE10 hop11
              obtain ⟨a11, c11, rfl, hL11⟩ := RowR.leaf rItem_good hrow11 hop11.size
              have HL11 := Hid.mk hL11
              clear hrow11 hL11
              go_wp2_with fail
              refine hK.out _ _ (hSwE11) (fun hHeld => ?_)
              clear hK K
              try simp only [Act.put, sa, s0, s1]
              refine tk 12 q1cf_32_2_12 (some 29) (v := ?v49) rfl rfl (by kernel_rfl) hHeld (by rfl) (fun _ _ _ h => (hPan _ _ _ h).elim) (fun w h => ?y49) ?_; (case y49 => (try dsimp only at h); go_simp; try (with_reducible rfl)); try simp only [Act.put, sa, s0, s1]
              refine wpAnyH_ready (rs := [13, 14]) (by kernel_rfl) (by simp) ?_
              refine (AllReadyH.cons (o := q1cf_32_2_13) rfl (fun K hK => ?_) (AllReadyH.cons (o := q1cf_32_2_14) rfl (fun K hK => ?_) AllReadyH.nil))
              · go_simp
                have hf11 := (show Below wE11.heap.size wE11 wE11 from Below.refl _ _)
                refine Calls.mono (copyGraph_any [.slice a11 (insAt l p it).length c11] ⟨insAt l p it⟩ wE11 ⟨a11, c11, rfl, (HL11.out.below rItem_good hf11).mono rItem_good hf11.size, trivial⟩ HNI.out HDI.out) ?_
                rintro e wE13 ⟨cs13, F13, rfl, ho13, hN13, hge13, hop13⟩
                have hSwE13 := bthen hSwE11 hop13
                have hgeS : ∀ b, b ∈ F13 → w1.heap.size ≤ b := fun b hb => Nat.le_trans (Below.size hSwE11) (hge13 b hb)
                obtain ⟨v13, F0, rfl, ho13, rfl⟩ := ho13
                replace ho13 : ownS 3 52 oItem wE13 v13 (insAt l p it) F0 := ho13
                obtain ⟨a13, c13, rfl, _⟩ := id (ownS.read oItem_good ho13)
                have HO13 := Hid.mk ho13
                have HN13 := Hid.mk hN13
                have HGE13 := Hid.mk hge13
                have HGES := Hid.mk hgeS
                clear ho13 hN13 hge13 hgeS
                go_wp2_with fail
                refine hK.out _ _ (hSwE13) (fun hHeld => ?_)
                clear hK K
                try simp only [Act.put, sa, s0, s1]
                refine wpAnyH_ready (rs := [14]) (by kernel_rfl) (by simp) ?_
                refine (AllReadyH.cons (o := q1cf_32_2_14) rfl (fun K hK => ?_) AllReadyH.nil)
                · go_simp
                  obtain ⟨wE14, hq14⟩ : ∃ q, q = wE13.alloc (.cells #[.slice none 0 0] 30) := ⟨_, rfl⟩
                  have hop14 : Below wE13.heap.size wE13 wE14 := by rw [hq14]; exact (Below.refl _ _).alloc (Nat.le_refl _) _
                  have hSwE14 := bthen hSwE13 hop14
                  obtain ⟨g14, HG14⟩ : ∃ z, Hid (z = wE13.heap.size) := ⟨_, Hid.mk rfl⟩
                  have HB14 : Hid (Bw wE14 g14 30 [.slice none 0 0]) := by unfold Hid; rw [HG14.out, hq14]; exact Bw.new _ _ _
                  have HGw : Hid (w1.heap.size ≤ g14) := by unfold Hid; rw [HG14.out]; exact Below.size hSwE13
                  rw [← HG14.out]
                  rw [← hq14]
                  clear hq14
                  refine hK.out _ _ (hSwE14) (fun hHeld => ?_)
                  clear hK K
                  try simp only [Act.put, sa, s0, s1]
                  refine wpAnyH_ready (rs := [15]) (by kernel_rfl) (by simp) ?_
                  refine (AllReadyH.cons (o := q1cf_32_2_15) rfl (fun K hK => ?_) AllReadyH.nil)
                  · skip
                    have hb14 := HB14.out.under (show Below wE14.heap.size wE14 wE14 from Below.refl _ _)
                    have s0 := hb14.cell 0 _ rfl
                    have sf0 := hb14.free 0
                    have hl14 := hb14.lt
                    go_simp
                    obtain ⟨wE15, hq15⟩ : ∃ q, q = wE14.setCell ⟨g14, 0, none⟩ (.slice a13 (insAt l p it).length c13) := ⟨_, rfl⟩
                    have hT15 : Turn [g14] wE14 wE15 := by rw [hq15]; exact (Turn.refl _ _).setCell (by simp) _
                    have hbx15 : Bw wE15 g14 30 [(.slice a13 (insAt l p it).length c13)] := by rw [hq15]; exact hb14.put 0 _
                    have hSwE15 : Below w1.heap.size w1 wE15 := (hSwE14).trans (hT15.below (fun k hk => by simp at hk; subst hk; exact HGw.out) (Below.size hSwE14))
                    have hf13 := (show Below wE13.heap.size wE13 wE14 from bthen (Below.refl _ _) hop14)
                    have hf14 := (show Below wE14.heap.size wE14 wE14 from Below.refl _ _)
                    rw [← hq15]
                    clear hq15 s0 sf0
                    refine hK.out _ _ (hSwE15) (fun hHeld => ?_)
                    clear hK K
                    try simp only [Act.put, sa, s0, s1]
                    refine wpAnyH_done (by kernel_rfl) ?_ _
                    rw [HQ.out]
                    have hne : ∀ b, b ∈ F0 ++ [] → b ≠ g14 := fun b hb h => by have h1 := HGE13.out b hb; have h2 : b < wE13.heap.size := (by rw [List.append_nil] at hb; exact ownS.lt oItem_good HO13.out b hb); have h3 := HB14.out.lt; have h4 := HG14.out; have h5 := hop5.size; have h6 := hop10.size; have h7 := hop11.size; have h8 := hop13.size; have h9 := hop14.size; omega
                    have ho15 : ownS 3 52 oItem wE15 (.slice a13 (insAt l p it).length c13) (insAt l p it) F0 := ownS.frame oItem_good (ownS.frame oItem_good HO13.out (fun b hb => hf13.block b (ownS.lt oItem_good HO13.out b hb))) (fun b hb => hT15.block b (Nat.lt_of_lt_of_le (ownS.lt oItem_good HO13.out b hb) hf13.size) (by intro h; simp at h; exact hne b (by simpa using hb) h))
                    exact ⟨rfl, _, _, _, _, _, _, _, _, _, _, _, _, _, _, _, _, _, _, _, _, _, _, _, _, _, _, _, _, _, _, _, _, g14, _, F0, rfl, hbx15, ho15, by simpa using HN13.out, fun b hb => ⟨HGES.out b (by simpa using hb), hne b (by simpa using hb)⟩, HGw.out, hSwE15⟩
              · go_simp
                obtain ⟨wE14, hq14⟩ : ∃ q, q = wE11.alloc (.cells #[.slice none 0 0] 30) := ⟨_, rfl⟩
                have hop14 : Below wE11.heap.size wE11 wE14 := by rw [hq14]; exact (Below.refl _ _).alloc (Nat.le_refl _) _
                have hSwE14 := bthen hSwE11 hop14
                obtain ⟨g14, HG14⟩ : ∃ z, Hid (z = wE11.heap.size) := ⟨_, Hid.mk rfl⟩
                have HB14 : Hid (Bw wE14 g14 30 [.slice none 0 0]) := by unfold Hid; rw [HG14.out, hq14]; exact Bw.new _ _ _
                have HGw : Hid (w1.heap.size ≤ g14) := by unfold Hid; rw [HG14.out]; exact Below.size hSwE11
                rw [← HG14.out]
                rw [← hq14]
                clear hq14
                refine hK.out _ _ (hSwE14) (fun hHeld => ?_)
                clear hK K
                try simp only [Act.put, sa, s0, s1]
                refine wpAnyH_ready (rs := [13]) (by kernel_rfl) (by simp) ?_
                refine (AllReadyH.cons (o := q1cf_32_2_13) rfl (fun K hK => ?_) AllReadyH.nil)
                · go_simp
                  have hf11 := (show Below wE11.heap.size wE11 wE14 from bthen (Below.refl _ _) hop14)
                  refine Calls.mono (copyGraph_any [.slice a11 (insAt l p it).length c11] ⟨insAt l p it⟩ wE14 ⟨a11, c11, rfl, (HL11.out.below rItem_good hf11).mono rItem_good hf11.size, trivial⟩ HNI.out HDI.out) ?_
                  rintro e wE13 ⟨cs13, F13, rfl, ho13, hN13, hge13, hop13⟩
                  have hSwE13 := bthen hSwE14 hop13
                  have hgeS : ∀ b, b ∈ F13 → w1.heap.size ≤ b := fun b hb => Nat.le_trans (Below.size hSwE14) (hge13 b hb)
                  obtain ⟨v13, F0, rfl, ho13, rfl⟩ := ho13
                  replace ho13 : ownS 3 52 oItem wE13 v13 (insAt l p it) F0 := ho13
                  obtain ⟨a13, c13, rfl, _⟩ := id (ownS.read oItem_good ho13)
                  have HO13 := Hid.mk ho13
                  have HN13 := Hid.mk hN13
                  have HGE13 := Hid.mk hge13
                  have HGES := Hid.mk hgeS
                  clear ho13 hN13 hge13 hgeS
                  go_wp2_with fail
                  refine hK.out _ _ (hSwE13) (fun hHeld => ?_)
                  clear hK K
                  try simp only [Act.put, sa, s0, s1]
                  refine wpAnyH_ready (rs := [15]) (by kernel_rfl) (by simp) ?_
                  refine (AllReadyH.cons (o := q1cf_32_2_15) rfl (fun K hK => ?_) AllReadyH.nil)
                  · skip
                    have hb14 := HB14.out.under (show Below wE14.heap.size wE14 wE13 from bthen (Below.refl _ _) hop13)
                    have s0 := hb14.cell 0 _ rfl
                    have sf0 := hb14.free 0
                    have hl14 := hb14.lt
                    go_simp
                    obtain ⟨wE15, hq15⟩ : ∃ q, q = wE13.setCell ⟨g14, 0, none⟩ (.slice a13 (insAt l p it).length c13) := ⟨_, rfl⟩
                    have hT15 : Turn [g14] wE13 wE15 := by rw [hq15]; exact (Turn.refl _ _).setCell (by simp) _
                    have hbx15 : Bw wE15 g14 30 [(.slice a13 (insAt l p it).length c13)] := by rw [hq15]; exact hb14.put 0 _
                    have hSwE15 : Below w1.heap.size w1 wE15 := (hSwE13).trans (hT15.below (fun k hk => by simp at hk; subst hk; exact HGw.out) (Below.size hSwE13))
                    have hf13 := (show Below wE13.heap.size wE13 wE13 from Below.refl _ _)
                    have hf14 := (show Below wE14.heap.size wE14 wE13 from bthen (Below.refl _ _) hop13)
                    rw [← hq15]
                    clear hq15 s0 sf0
                    refine hK.out _ _ (hSwE15) (fun hHeld => ?_)
                    clear hK K
                    try simp only [Act.put, sa, s0, s1]
                    refine wpAnyH_done (by kernel_rfl) ?_ _
                    rw [HQ.out]
                    have hne : ∀ b, b ∈ F0 ++ [] → b ≠ g14 := fun b hb h => by have h1 := HGE13.out b hb; have h2 : b < wE13.heap.size := (by rw [List.append_nil] at hb; exact ownS.lt oItem_good HO13.out b hb); have h3 := HB14.out.lt; have h4 := HG14.out; have h5 := hop5.size; have h6 := hop10.size; have h7 := hop11.size; have h8 := hop13.size; have h9 := hop14.size; omega
                    have ho15 : ownS 3 52 oItem wE15 (.slice a13 (insAt l p it).length c13) (insAt l p it) F0 := ownS.frame oItem_good (ownS.frame oItem_good HO13.out (fun b hb => hf13.block b (ownS.lt oItem_good HO13.out b hb))) (fun b hb => hT15.block b (Nat.lt_of_lt_of_le (ownS.lt oItem_good HO13.out b hb) hf13.size) (by intro h; simp at h; exact hne b (by simpa using hb) h))
                    exact ⟨rfl, _, _, _, _, _, _, _, _, _, _, _, _, _, _, _, _, _, _, _, _, _, _, _, _, _, _, _, _, _, _, _, _, g14, _, F0, rfl, hbx15, ho15, by simpa using HN13.out, fun b hb => ⟨HGES.out b (by simpa using hb), hne b (by simpa using hb)⟩, HGw.out, hSwE15⟩
            · go_simp
              obtain ⟨wE14, hq14⟩ : ∃ q, q = wE10.alloc (.cells #[.slice none 0 0] 30) := ⟨_, rfl⟩
              have hop14 : Below wE10.heap.size wE10 wE14 := by rw [hq14]; exact (Below.refl _ _).alloc (Nat.le_refl _) _
              have hSwE14 := bthen hSwE10 hop14
              obtain ⟨g14, HG14⟩ : ∃ z, Hid (z = wE10.heap.size) := ⟨_, Hid.mk rfl⟩
              have HB14 : Hid (Bw wE14 g14 30 [.slice none 0 0]) := by unfold Hid; rw [HG14.out, hq14]; exact Bw.new _ _ _
              have HGw : Hid (w1.heap.size ≤ g14) := by unfold Hid; rw [HG14.out]; exact Below.size hSwE10
              rw [← HG14.out]
              rw [← hq14]
              clear hq14
              refine hK.out _ _ (hSwE14) (fun hHeld => ?_)
              clear hK K
              try simp only [Act.put, sa, s0, s1]
              refine wpAnyH_ready (rs := [11]) (by kernel_rfl) (by simp) ?_
              refine (AllReadyH.cons (o := q1cf_32_2_11) rfl (fun K hK => ?_) AllReadyH.nil)
              · go_simp
                have hf5 := (show Below wE5.heap.size wE5 wE14 from bthen (bthen (Below.refl _ _) hop10) hop14)
                have hf10 := (show Below wE10.heap.size wE10 wE14 from bthen (Below.refl _ _) hop14)
                have hfS := hSwE14
                refine Calls.mono (concatItem_any g10 3 [((some ⟨b0, o0, none⟩), c, l.take p), (some ⟨g5, 0, none⟩, 1, [it]), ((some ⟨b0, o0 + p * 3, none⟩), (c - p), l.drop p)] wE14 rfl (by omega) (HB10.out.under hf10).1 (fun i h => cat3 (HB10.out.under hf10) H1.out H2.out i h) (fun i h => leaf3 ((HL1.out.below rItem_good hfS).mono rItem_good hfS.size) (leaf_one (HB5.out.under hf5) (rItem_good.below HIc.out (hfS.mono hb1.size)) (Nat.le_trans hb1.size hfS.size)) ((HL2.out.below rItem_good hfS).mono rItem_good hfS.size) i h) (sum3 H1.out H2.out (by omega))) ?_
                rintro e wE11 ⟨v11, rfl, hrow11, hop11⟩
                rw [cat_ins] at hrow11
                have hSwE11 := bthen hSwE14 hop11
                obtain ⟨a11, c11, rfl, hL11⟩ := RowR.leaf rItem_good hrow11 hop11.size
                have HL11 := Hid.mk hL11
                clear hrow11 hL11
                go_wp2_with fail
                refine hK.out _ _ (hSwE11) (fun hHeld => ?_)
                clear hK K
                try simp only [Act.put, sa, s0, s1]
                refine tk 12 q1cf_32_2_12 (some 29) (v := ?v50) rfl rfl (by kernel_rfl) hHeld (by rfl) (fun _ _ _ h => (hPan _ _ _ h).elim) (fun w h => ?y50) ?_; (case y50 => (try dsimp only at h); go_simp; try (with_reducible rfl)); try simp only [Act.put, sa, s0, s1]
                refine wpAnyH_ready (rs := [13]) (by kernel_rfl) (by simp) ?_
                refine (AllReadyH.cons (o := q1cf_32_2_13) rfl (fun K hK => ?_) AllReadyH.nil)
                · go_simp
                  have hf11 := (show Below wE11.heap.size wE11 wE11 from Below.refl _ _)
                  refine Calls.mono (copyGraph_any [.slice a11 (insAt l p it).length c11] ⟨insAt l p it⟩ wE11 ⟨a11, c11, rfl, (HL11.out.below rItem_good hf11).mono rItem_good hf11.size, trivial⟩ HNI.out HDI.out) ?_
                  rintro e wE13 ⟨cs13, F13, rfl, ho13, hN13, hge13, hop13⟩
                  have hSwE13 := bthen hSwE11 hop13
                  have hgeS : ∀ b, b ∈ F13 → w1.heap.size ≤ b := fun b hb => Nat.le_trans (Below.size hSwE11) (hge13 b hb)
                  obtain ⟨v13, F0, rfl, ho13, rfl⟩ := ho13
                  replace ho13 : ownS 3 52 oItem wE13 v13 (insAt l p it) F0 := ho13
                  obtain ⟨a13, c13, rfl, _⟩ := id (ownS.read oItem_good ho13)
                  have HO13 := Hid.mk ho13
                  have HN13 := Hid.mk hN13
                  have HGE13 := Hid.mk hge13
                  have HGES := Hid.mk hgeS
                  clear ho13 hN13 hge13 hgeS
                  go_wp2_with fail
                  refine hK.out _ _ (hSwE13) (fun hHeld => ?_)
                  clear hK K
                  try simp only [Act.put, sa, s0, s1]
                  refine wpAnyH_ready (rs := [15]) (by kernel_rfl) (by simp) ?_
                  refine (AllReadyH.cons (o := q1cf_32_2_15) rfl (fun K hK => ?_) AllReadyH.nil)
                  · skip
                    have hb14 := HB14.out.under (show Below wE14.heap.size wE14 wE13 from bthen (bthen (Below.refl _ _) hop11) hop13)
                    have s0 := hb14.cell 0 _ rfl
                    have sf0 := hb14.free 0
                    have hl14 := hb14.lt
                    go_simp
                    obtain ⟨wE15, hq15⟩ : ∃ q, q = wE13.setCell ⟨g14, 0, none⟩ (.slice a13 (insAt l p it).length c13) := ⟨_, rfl⟩
                    have hT15 : Turn [g14] wE13 wE15 := by rw [hq15]; exact (Turn.refl _ _).setCell (by simp) _
                    have hbx15 : Bw wE15 g14 30 [(.slice a13 (insAt l p it).length c13)] := by rw [hq15]; exact hb14.put 0 _
                    have hSwE15 : Below w1.heap.size w1 wE15 := (hSwE13).trans (hT15.below (fun k hk => by simp at hk; subst hk; exact HGw.out) (Below.size hSwE13))
                    have hf13 := (show Below wE13.heap.size wE13 wE13 from Below.refl _ _)
                    have hf14 := (show Below wE14.heap.size wE14 wE13 from bthen (bthen (Below.refl _ _) hop11) hop13)
                    rw [← hq15]
                    clear hq15 s0 sf0
                    refine hK.out _ _ (hSwE15) (fun hHeld => ?_)
                    clear hK K
                    try simp only [Act.put, sa, s0, s1]
                    refine wpAnyH_done (by kernel_rfl) ?_ _
                    rw [HQ.out]
                    have hne : ∀ b, b ∈ F0 ++ [] → b ≠ g14 := fun b hb h => by have h1 := HGE13.out b hb; have h2 : b < wE13.heap.size := (by rw [List.append_nil] at hb; exact ownS.lt oItem_good HO13.out b hb); have h3 := HB14.out.lt; have h4 := HG14.out; have h5 := hop5.size; have h6 := hop10.size; have h7 := hop11.size; have h8 := hop13.size; have h9 := hop14.size; omega
                    have ho15 : ownS 3 52 oItem wE15 (.slice a13 (insAt l p it).length c13) (insAt l p it) F0 := ownS.frame oItem_good (ownS.frame oItem_good HO13.out (fun b hb => hf13.block b (ownS.lt oItem_good HO13.out b hb))) (fun b hb => hT15.block b (Nat.lt_of_lt_of_le (ownS.lt oItem_good HO13.out b hb) hf13.size) (by intro h; simp at h; exact hne b (by simpa using hb) h))
                    exact ⟨rfl, _, _, _, _, _, _, _, _, _, _, _, _, _, _, _, _, _, _, _, _, _, _, _, _, _, _, _, _, _, _, _, _, g14, _, F0, rfl, hbx15, ho15, by simpa using HN13.out, fun b hb => ⟨HGES.out b (by simpa using hb), hne b (by simpa using hb)⟩, HGw.out, hSwE15⟩
          · go_simp
            obtain ⟨wE14, hq14⟩ : ∃ q, q = wE5.alloc (.cells #[.slice none 0 0] 30) := ⟨_, rfl⟩
            have hop14 : Below wE5.heap.size wE5 wE14 := by rw [hq14]; exact (Below.refl _ _).alloc (Nat.le_refl _) _
            have hSwE14 := bthen hSwE5 hop14
            obtain ⟨g14, HG14⟩ : ∃ z, Hid (z = wE5.heap.size) := ⟨_, Hid.mk rfl⟩
            have HB14 : Hid (Bw wE14 g14 30 [.slice none 0 0]) := by unfold Hid; rw [HG14.out, hq14]; exact Bw.new _ _ _
            have HGw : Hid (w1.heap.size ≤ g14) := by unfold Hid; rw [HG14.out]; exact Below.size hSwE5
            rw [← HG14.out]
            rw [← hq14]
            clear hq14
            refine hK.out _ _ (hSwE14) (fun hHeld => ?_)
            clear hK K
            try simp only [Act.put, sa, s0, s1]
            refine wpAnyH_ready (rs := [10]) (by kernel_rfl) (by simp) ?_
            refine (AllReadyH.cons (o := q1cf_32_2_10) rfl (fun K hK => ?_) AllReadyH.nil)
            · go_simp
              obtain ⟨wE10, hq10⟩ : ∃ q, q = wE14.alloc (.cells #[.slice (some ⟨b0, o0, none⟩) p c, .slice (some ⟨g5, 0, none⟩) 1 1, .slice (some ⟨b0, o0 + p * 3, none⟩) (n - p) (c - p)] 28) := ⟨_, rfl⟩
              have hop10 : Below wE14.heap.size wE14 wE10 := by rw [hq10]; exact (Below.refl _ _).alloc (Nat.le_refl _) _
              have hSwE10 := bthen hSwE14 hop10
              obtain ⟨g10, HG10⟩ : ∃ z, Hid (z = wE14.heap.size) := ⟨_, Hid.mk rfl⟩
              have HB10 : Hid (Bx wE10 g10 [.slice (some ⟨b0, o0, none⟩) p c, .slice (some ⟨g5, 0, none⟩) 1 1, .slice (some ⟨b0, o0 + p * 3, none⟩) (n - p) (c - p)]) := by unfold Hid; rw [HG10.out, hq10]; exact Bx.new _ _ _
              rw [← HG10.out]
              rw [← hq10]
              clear hq10
              refine hK.out _ _ (hSwE10) (fun hHeld => ?_)
              clear hK K
              try simp only [Act.put, sa, s0, s1]
              refine wpAnyH_ready (rs := [11]) (by kernel_rfl) (by simp) ?_
              refine (AllReadyH.cons (o := q1cf_32_2_11) rfl (fun K hK => ?_) AllReadyH.nil)
              · go_simp
                have hf5 := (show Below wE5.heap.size wE5 wE10 from bthen (bthen (Below.refl _ _) hop14) hop10)
                have hf10 := (show Below wE10.heap.size wE10 wE10 from Below.refl _ _)
                have hfS := hSwE10
                refine Calls.mono (concatItem_any g10 3 [((some ⟨b0, o0, none⟩), c, l.take p), (some ⟨g5, 0, none⟩, 1, [it]), ((some ⟨b0, o0 + p * 3, none⟩), (c - p), l.drop p)] wE10 rfl (by omega) (HB10.out.under hf10).1 (fun i h => cat3 (HB10.out.under hf10) H1.out H2.out i h) (fun i h => leaf3 ((HL1.out.below rItem_good hfS).mono rItem_good hfS.size) (leaf_one (HB5.out.under hf5) (rItem_good.below HIc.out (hfS.mono hb1.size)) (Nat.le_trans hb1.size hfS.size)) ((HL2.out.below rItem_good hfS).mono rItem_good hfS.size) i h) (sum3 H1.out H2.out (by omega))) ?_
                rintro e wE11 ⟨v11, rfl, hrow11, hop11⟩
                rw [cat_ins] at hrow11
                have hSwE11 := bthen hSwE10 hop11
                obtain ⟨a11, c11, rfl, hL11⟩ := RowR.leaf rItem_good hrow11 hop11.size
                have HL11 := Hid.mk hL11
                clear hrow11 hL11
                go_wp2_with fail
                refine hK.out _ _ (hSwE11) (fun hHeld => ?_)
                clear hK K
                try simp only [Act.put, sa, s0, s1]
                refine tk 12 q1cf_32_2_12 (some 29) (v := ?v51) rfl rfl (by kernel_rfl) hHeld (by rfl) (fun _ _ _ h => (hPan _ _ _ h).elim) (fun w h => ?y51) ?_; (case y51 => (try dsimp only at h); go_simp; try (with_reducible rfl)); try simp only [Act.put, sa, s0, s1]
                refine wpAnyH_ready (rs := [13]) (by kernel_rfl) (by simp) ?_
                refine (AllReadyH.cons (o := q1cf_32_2_13) rfl (fun K hK => ?_) AllReadyH.nil)
                · go_simp
                  have hf11 := (show Below wE11.heap.size wE11 wE11 from Below.refl _ _)
                  refine Calls.mono (copyGraph_any [.slice a11 (insAt l p it).length c11] ⟨insAt l p it⟩ wE11 ⟨a11, c11, rfl, (HL11.out.below rItem_good hf11).mono rItem_good hf11.size, trivial⟩ HNI.out HDI.out) ?_
                  rintro e wE13 ⟨cs13, F13, rfl, ho13, hN13, hge13, hop13⟩
                  have hSwE13 := bthen hSwE11 hop13
                  have hgeS : ∀ b, b ∈ F13 → w1.heap.size ≤ b := fun b hb => Nat.le_trans (Below.size hSwE11) (hge13 b hb)
                  obtain ⟨v13, F0, rfl, ho13, rfl⟩ := ho13
                  replace ho13 : ownS 3 52 oItem wE13 v13 (insAt l p it) F0 := ho13
                  obtain ⟨a13, c13, rfl, _⟩ := id (ownS.read oItem_good ho13)
                  have HO13 := Hid.mk ho13
                  have HN13 := Hid.mk hN13
                  have HGE13 := Hid.mk hge13
                  have HGES := Hid.mk hgeS
                  clear ho13 hN13 hge13 hgeS
                  go_wp2_with fail
                  refine hK.out _ _ (hSwE13) (fun hHeld => ?_)
                  clear hK K
                  try simp only [Act.put, sa, s0, s1]
                  refine wpAnyH_ready (rs := [15]) (by kernel_rfl) (by simp) ?_
                  refine (AllReadyH.cons (o := q1cf_32_2_15) rfl (fun K hK => ?_) AllReadyH.nil)
                  · skip
                    have hb14 := HB14.out.under (show Below wE14.heap.size wE14 wE13 from bthen (bthen (bthen (Below.refl _ _) hop10) hop11) hop13)
                    have s0 := hb14.cell 0 _ rfl
                    have sf0 := hb14.free 0
                    have hl14 := hb14.lt
                    go_simp
                    obtain ⟨wE15, hq15⟩ : ∃ q, q = wE13.setCell ⟨g14, 0, none⟩ (.slice a13 (insAt l p it).length c13) := ⟨_, rfl⟩
                    have hT15 : Turn [g14] wE13 wE15 := by rw [hq15]; exact (Turn.refl _ _).setCell (by simp) _
                    have hbx15 : Bw wE15 g14 30 [(.slice a13 (insAt l p it).length c13)] := by rw [hq15]; exact hb14.put 0 _
                    have hSwE15 : Below w1.heap.size w1 wE15 := (hSwE13).trans (hT15.below (fun k hk => by simp at hk; subst hk; exact HGw.out) (Below.size hSwE13))
                    have hf13 := (show Below wE13.heap.size wE13 wE13 from Below.refl _ _)
                    have hf14 := (show Below wE14.heap.size wE14 wE13 from bthen (bthen (bthen (Below.refl _ _) hop10) hop11) hop13)
                    rw [← hq15]
                    clear hq15 s0 sf0
                    refine hK.out _ _ (hSwE15) (fun hHeld => ?_)
                    clear hK K
                    try simp only [Act.put, sa, s0, s1]
                    refine wpAnyH_done (by kernel_rfl) ?_ _
                    rw [HQ.out]
                    have hne : ∀ b, b ∈ F0 ++ [] → b ≠ g14 := fun b hb h => by have h1 := HGE13.out b hb; have h2 : b < wE13.heap.size := (by rw [List.append_nil] at hb; exact ownS.lt oItem_good HO13.out b hb); have h3 := HB14.out.lt; have h4 := HG14.out; have h5 := hop5.size; have h6 := hop10.size; have h7 := hop11.size; have h8 := hop13.size; have h9 := hop14.size; omega
                    have ho15 : ownS 3 52 oItem wE15 (.slice a13 (insAt l p it).length c13) (insAt l p it) F0 := ownS.frame oItem_good (ownS.frame oItem_good HO13.out (fun b hb => hf13.block b (ownS.lt oItem_good HO13.out b hb))) (fun b hb => hT15.block b (Nat.lt_of_lt_of_le (ownS.lt oItem_good HO13.out b hb) hf13.size) (by intro h; simp at h; exact hne b (by simpa using hb) h))
                    exact ⟨rfl, _, _, _, _, _, _, _, _, _, _, _, _, _, _, _, _, _, _, _, _, _, _, _, _, _, _, _, _, _, _, _, _, g14, _, F0, rfl, hbx15, ho15, by simpa using HN13.out, fun b hb => ⟨HGES.out b (by simpa using hb), hne b (by simpa using hb)⟩, HGw.out, hSwE15⟩
        · go_simp
          obtain ⟨wE14, hq14⟩ : ∃ q, q = wS.alloc (.cells #[.slice none 0 0] 30) := ⟨_, rfl⟩
          have hop14 : Below wS.heap.size wS wE14 := by rw [hq14]; exact (Below.refl _ _).alloc (Nat.le_refl _) _
          have hSwE14 := bthen hSwS hop14
          obtain ⟨g14, HG14⟩ : ∃ z, Hid (z = wS.heap.size) := ⟨_, Hid.mk rfl⟩
          have HB14 : Hid (Bw wE14 g14 30 [.slice none 0 0]) := by unfold Hid; rw [HG14.out, hq14]; exact Bw.new _ _ _
          have HGw : Hid (w1.heap.size ≤ g14) := by unfold Hid; rw [HG14.out]; exact Below.size hSwS
          rw [← HG14.out]
          rw [← hq14]
          clear hq14
          refine hK.out _ _ (hSwE14) (fun hHeld => ?_)
          clear hK K
          try simp only [Act.put, sa, s0, s1]
          refine wpAnyH_ready (rs := [5]) (by kernel_rfl) (by simp) ?_
          refine (AllReadyH.cons (o := q1cf_32_2_5) rfl (fun K hK => ?_) AllReadyH.nil)
          · go_simp
            obtain ⟨wE5, hq5⟩ : ∃ q, q = wE14.alloc (.cells #[.int .i64 it.fD.fR, .int .i64 it.fD.fN, .slice ai it.fDeps.length ci] 52) := ⟨_, rfl⟩
            have hop5 : Below wE14.heap.size wE14 wE5 := by rw [hq5]; exact (Below.refl _ _).alloc (Nat.le_refl _) _
            have hSwE5 := bthen hSwE14 hop5
            obtain ⟨g5, HG5⟩ : ∃ z, Hid (z = wE14.heap.size) := ⟨_, Hid.mk rfl⟩
            have HB5 : Hid (Bx wE5 g5 [.int .i64 it.fD.fR, .int .i64 it.fD.fN, .slice ai it.fDeps.length ci]) := by unfold Hid; rw [HG5.out, hq5]; exact Bx.new _ _ _
            rw [← HG5.out]
            rw [← hq5]
            clear hq5
            refine hK.out _ _ (hSwE5) (fun hHeld => ?_)
            clear hK K
            try simp only [Act.put, sa, s0, s1]
            refine wpAnyH_ready (rs := [10]) (by kernel_rfl) (by simp) ?_
            refine (AllReadyH.cons (o := q1cf_32_2_10) rfl (fun K hK => ?_) AllReadyH.nil)
            · go_simp
              obtain ⟨wE10, hq10⟩ : ∃ q, q = wE5.alloc (.cells #[.slice (some ⟨b0, o0, none⟩) p c, .slice (some ⟨g5, 0, none⟩) 1 1, .slice (some ⟨b0, o0 + p * 3, none⟩) (n - p) (c - p)] 28) := ⟨_, rfl⟩
              have hop10 : Below wE5.heap.size wE5 wE10 := by rw [hq10]; exact (Below.refl _ _).alloc (Nat.le_refl _) _
              have hSwE10 := bthen hSwE5 hop10
              obtain ⟨g10, HG10⟩ : ∃ z, Hid (z = wE5.heap.size) := ⟨_, Hid.mk rfl⟩
              have HB10 : Hid (Bx wE10 g10 [.slice (some ⟨b0, o0, none⟩) p c, .slice (some ⟨g5, 0, none⟩) 1 1, .slice (some ⟨b0, o0 + p * 3, none⟩) (n - p) (c - p)]) := by unfold Hid; rw [HG10.out, hq10]; exact Bx.new _ _ _
              rw [← HG10.out]
              rw [← hq10]
              clear hq10
              refine hK.out _ _ (hSwE10) (fun hHeld => ?_)
              clear hK K
              try simp only [Act.put, sa, s0, s1]
              refine wpAnyH_ready (rs := [11]) (by kernel_rfl) (by simp) ?_
              refine (AllReadyH.cons (o := q1cf_32_2_11) rfl (fun K hK => ?_) AllReadyH.nil)
              · go_simp
                have hf5 := (show Below wE5.heap.size wE5 wE10 from bthen (Below.refl _ _) hop10)
                have hf10 := (show Below wE10.heap.size wE10 wE10 from Below.refl _ _)
                have hfS := hSwE10
                refine Calls.mono (concatItem_any g10 3 [((some ⟨b0, o0, none⟩), c, l.take p), (some ⟨g5, 0, none⟩, 1, [it]), ((some ⟨b0, o0 + p * 3, none⟩), (c - p), l.drop p)] wE10 rfl (by omega) (HB10.out.under hf10).1 (fun i h => cat3 (HB10.out.under hf10) H1.out H2.out i h) (fun i h => leaf3 ((HL1.out.below rItem_good hfS).mono rItem_good hfS.size) (leaf_one (HB5.out.under hf5) (rItem_good.below HIc.out (hfS.mono hb1.size)) (Nat.le_trans hb1.size hfS.size)) ((HL2.out.below rItem_good hfS).mono rItem_good hfS.size) i h) (sum3 H1.out H2.out (by omega))) ?_
                rintro e wE11 ⟨v11, rfl, hrow11, hop11⟩
                rw [cat_ins] at hrow11
                have hSwE11 := bthen hSwE10 hop11
                obtain ⟨a11, c11, rfl, hL11⟩ := RowR.leaf rItem_good hrow11 hop11.size
                have HL11 := Hid.mk hL11
                clear hrow11 hL11
                go_wp2_with fail
                refine hK.out _ _ (hSwE11) (fun hHeld => ?_)
                clear hK K
                try simp only [Act.put, sa, s0, s1]
                refine tk 12 q1cf_32_2_12 (some 29) (v := ?v52) rfl rfl (by kernel_rfl) hHeld (by rfl) (fun _ _ _ h => (hPan _ _ _ h).elim) (fun w h => ?y52) ?_; (case y52 => (try dsimp only at h); go_simp; try (with_reducible rfl)); try simp only [Act.put, sa, s0, s1]
                refine wpAnyH_ready (rs := [13]) (by kernel_rfl) (by simp) ?_
                refine (AllReadyH.cons (o := q1cf_32_2_13) rfl (fun K hK => ?_) AllReadyH.nil)
                · go_simp
                  have hf11 := (show Below wE11.heap.size wE11 wE11 from Below.refl _ _)
                  refine Calls.mono (copyGraph_any [.slice a11 (insAt l p it).length c11] ⟨insAt l p it⟩ wE11 ⟨a11, c11, rfl, (HL11.out.below rItem_good hf11).mono rItem_good hf11.size, trivial⟩ HNI.out HDI.out) ?_
                  rintro e wE13 ⟨cs13, F13, rfl, ho13, hN13, hge13, hop13⟩
                  have hSwE13 := bthen hSwE11 hop13
                  have hgeS : ∀ b, b ∈ F13 → w1.heap.size ≤ b := fun b hb => Nat.le_trans (Below.size hSwE11) (hge13 b hb)
                  obtain ⟨v13, F0, rfl, ho13, rfl⟩ := ho13
                  replace ho13 : ownS 3 52 oItem wE13 v13 (insAt l p it) F0 := ho13
                  obtain ⟨a13, c13, rfl, _⟩ := id (ownS.read oItem_good ho13)
                  have HO13 := Hid.mk ho13
                  have HN13 := Hid.mk hN13
                  have HGE13 := Hid.mk hge13
                  have HGES := Hid.mk hgeS
                  clear ho13 hN13 hge13 hgeS
                  go_wp2_with fail
                  refine hK.out _ _ (hSwE13) (fun hHeld => ?_)
                  clear hK K
                  try simp only [Act.put, sa, s0, s1]
                  refine wpAnyH_ready (rs := [15]) (by kernel_rfl) (by simp) ?_
                  refine (AllReadyH.cons (o := q1cf_32_2_15) rfl (fun K hK => ?_) AllReadyH.nil)
                  · skip
                    have hb14 := HB14.out.under (show Below wE14.heap.size wE14 wE13 from bthen (bthen (bthen (bthen (Below.refl _ _) hop5) hop10) hop11) hop13)
                    have s0 := hb14.cell 0 _ rfl
                    have sf0 := hb14.free 0
                    have hl14 := hb14.lt
                    go_simp
                    obtain ⟨wE15, hq15⟩ : ∃ q, q = wE13.setCell ⟨g14, 0, none⟩ (.slice a13 (insAt l p it).length c13) := ⟨_, rfl⟩
                    have hT15 : Turn [g14] wE13 wE15 := by rw [hq15]; exact (Turn.refl _ _).setCell (by simp) _
                    have hbx15 : Bw wE15 g14 30 [(.slice a13 (insAt l p it).length c13)] := by rw [hq15]; exact hb14.put 0 _
                    have hSwE15 : Below w1.heap.size w1 wE15 := (hSwE13).trans (hT15.below (fun k hk => by simp at hk; subst hk; exact HGw.out) (Below.size hSwE13))
                    have hf13 := (show Below wE13.heap.size wE13 wE13 from Below.refl _ _)
                    have hf14 := (show Below wE14.heap.size wE14 wE13 from bthen (bthen (bthen (bthen (Below.refl _ _) hop5) hop10) hop11) hop13)
                    rw [← hq15]
                    clear hq15 s0 sf0
                    refine hK.out _ _ (hSwE15) (fun hHeld => ?_)
                    clear hK K
                    try simp only [Act.put, sa, s0, s1]
                    refine wpAnyH_done (by kernel_rfl) ?_ _
                    rw [HQ.out]
                    have hne : ∀ b, b ∈ F0 ++ [] → b ≠ g14 := fun b hb h => by have h1 := HGE13.out b hb; have h2 : b < wE13.heap.size := (by rw [List.append_nil] at hb; exact ownS.lt oItem_good HO13.out b hb); have h3 := HB14.out.lt; have h4 := HG14.out; have h5 := hop5.size; have h6 := hop10.size; have h7 := hop11.size; have h8 := hop13.size; have h9 := hop14.size; omega
                    have ho15 : ownS 3 52 oItem wE15 (.slice a13 (insAt l p it).length c13) (insAt l p it) F0 := ownS.frame oItem_good (ownS.frame oItem_good HO13.out (fun b hb => hf13.block b (ownS.lt oItem_good HO13.out b hb))) (fun b hb => hT15.block b (Nat.lt_of_lt_of_le (ownS.lt oItem_good HO13.out b hb) hf13.size) (by intro h; simp at h; exact hne b (by simpa using hb) h))
                    exact ⟨rfl, _, _, _, _, _, _, _, _, _, _, _, _, _, _, _, _, _, _, _, _, _, _, _, _, _, _, _, _, _, _, _, _, g14, _, F0, rfl, hbx15, ho15, by simpa using HN13.out, fun b hb => ⟨HGES.out b (by simpa using hb), hne b (by simpa using hb)⟩, HGw.out, hSwE15⟩
  case mono =>
    rw [HQ.out]
    clear HQ hPan
    rintro e a' w2 ⟨rfl, y0, y1, y6, y7, y9, y10, y11, y12, y13, y14, y15, y16, y17, y18, y19, y20, y21, y22, y23, y24, y25, y26, y27, y28, y29, y30, y31, y32, y33, y34, y35, y36, g8, v8, F8, rfl, hb8, ho8, hN8, hge8, hg8, hx2⟩
    have hb2 := bthen hb1 hx2
    obtain ⟨a8, c8, rfl, hL8⟩ := id (ownS.read oItem_good ho8)
    have HO8 := Hid.mk ho8
    have HN8 := Hid.mk hN8
    have HGE8 := Hid.mk hge8
    have hIL : (insAt l p it).length = n + 1 := by rw [insAt_length (by rw [HX.out]; exact hpn), HX.out]
    have HDI : Hid (∀ k, (h : k < (insAt l p it).length) → (insAt l p it)[k].fDeps.length ≤ 1048576) := ins_deps HDm.out hdi
    have HWI : Hid (wGraph ⟨insAt l p it⟩ ≤ 1048576 * 4) := by
      have h1 := sumW_ins (l := l) (p := p) (it := it) wItem
      have h2 : wItem it ≤ 1048576 := HWIT.out
      show (insAt l p it).length + sumW wItem (insAt l p it) ≤ _
      omega
    clear hIL ho8 hN8 hge8
    have hbg2 := hbg.under hx2
    have hbr2 := hbr.under hx2
    have q0 := hb8.cell 0 _ rfl
    have hl8 := hb8.lt
    have hs2 := hx2.size
    go_wp2_with fail
    refine (implGraphOk_any [.slice a8 (insAt l p it).length c8] ⟨insAt l p it⟩ w2 ⟨a8, c8, rfl, hL8, trivial⟩ HWI.out HDI.out).mono ?_
    rw [HOK.out.1]
    rintro e w3 ⟨rfl, hx3⟩
    have hb3 := bthen hb2 hx3
    have hbg3 := hbg2.under hx3
    have hbr3 := hbr2.under hx3
    have hb83 := hb8.under hx3
    have p0 := hbg3.2 0 _ rfl
    have p1 := hb83.cell 0 _ rfl
    have p2 := hbr3.cell 0 _ rfl
    have p3 := hbr3.free 0
    have hrl3 := hbr3.lt
    have hs3 := hx3.size
    clear q0
    cases ok with
    | false =>
      have HPG := Hid.mk (HPF.out rfl)
      go_wp2_with fail
      refine (copyGraph_any [.slice a n c] m w3 (rGraph_good.mono (rGraph_good.below HRG.out hb3) hb3.size) HNM.out HDM.out).mono ?_
      rintro e w4 ⟨cs4, F4, rfl, ho4, hN4, hge4, hx4⟩
      have hb4 := bthen hb3 hx4
      obtain ⟨v4, F0, rfl, ho4, rfl⟩ := ho4
      obtain ⟨a4, c4, rfl, _⟩ := id (ownS.read oItem_good ho4)
      have HO4 := Hid.mk ho4
      have HN4 := Hid.mk hN4
      have HGE4 := Hid.mk hge4
      clear ho4 hN4 hge4
      have hbr4 := hbr3.under hx4
      clear p0 p1 p2 p3
      have p2 := hbr4.cell 0 _ rfl
      have p3 := hbr4.free 0
      have hrl4 := hbr4.lt
      go_wp2_with fail
      refine bodyPost_ret (v := .tuple #[.agg #[.slice a4 m.fItems.length c4], .bool false]) (by simp [results, Tryd.results32, go_sem, *]) rfl ⟨[.slice a4 m.fItems.length c4], F0 ++ [], rfl, ?_, HN4.out, fun b hb => ?_, hb4.setCell (by simp; omega) _⟩
      · rw [HPG.out]
        refine ⟨_, F0, rfl, ownS.frame oItem_good HO4.out (fun b hb => heap_setCell_other w4 ⟨w.heap.size + 1 + 1, 0, none⟩ b _ ?_), rfl⟩
        have h := HGE4.out b (by simpa using hb)
        show b ≠ w.heap.size + 1 + 1
        omega
      · have h := HGE4.out b hb
        have := hb3.size
        omega
    | true =>
      have HPG := Hid.mk ((HPT.out rfl).trans (by rw [← HOK.out.2 rfl]))
      go_wp2_with fail
      refine bodyPost_ret (v := .tuple #[.agg #[.slice a8 (insAt l p it).length c8], .bool true]) (by simp [results, Tryd.results32, go_sem, *]) rfl ⟨[.slice a8 (insAt l p it).length c8], F8, rfl, ?_, HN8.out, fun b hb => ?_, hb3.setCell (by simp; omega) _⟩
      · rw [HPG.out]
        refine ⟨_, F8, rfl, ownS.frame oItem_good (ownS.frame oItem_good HO8.out (fun b hb => hx3.block b (ownS.lt oItem_good HO8.out b hb))) (fun b hb => heap_setCell_other w3 ⟨w.heap.size + 1 + 1, 0, none⟩ b _ ?_), by simp⟩
        have h := HGE8.out b hb
        show b ≠ w.heap.size + 1 + 1
        omega
      · have h := HGE8.out b hb
        have := hb1.size
        omega

end Go.Proofs.YtmigamgcmhdncaaDoor
