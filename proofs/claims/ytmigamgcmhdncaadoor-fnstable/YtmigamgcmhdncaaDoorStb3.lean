/-
  Part 4 of the texts that the proof leans on.
-/
import Derived.Test.YtmigamgcmhdncaaDoorStb0
import Derived.Test.YtmigamgcmhdncaaDoorStb2
set_option linter.unusedVariables false
set_option linter.unusedSimpArgs false
set_option maxRecDepth 10000

namespace Go.Proofs.YtmigamgcmhdncaaDoor
open Go.RowKit
abbrev q4ff_74_5_0 : Oper := ⟨some 24, .move (.tmp 2), 110, "sort.go:160", #[], none⟩
abbrev q4ff_74_5_1 : Oper := ⟨some 25, .move (.tmp 0), 28, "sort.go:160", #[], none⟩
abbrev q4ff_74_5_2 : Oper := ⟨some 26, .move (.tmp 11), 3, "sort.go:160", #[], none⟩
abbrev q4ff_74_5_3 : Oper := ⟨some 27, .indexAddr 28 (.tmp 25) (.tmp 26), 0, "sort.go:160", #[⟨1, .data⟩, ⟨2, .data⟩], none⟩
abbrev q4ff_74_5_4 : Oper := ⟨some 28, .load 52 (.tmp 27), 52, "sort.go:160", #[⟨3, .data⟩], none⟩
abbrev q4ff_74_5_5 : Oper := ⟨some 29, .load 40 (.tmp 4), 40, "sort.go:160", #[], none⟩
abbrev q4ff_74_5_6 : Oper := ⟨some 30, .call { callee := .value (.tmp 24), args := #[.tmp 28, .tmp 29], argTypes := #[52, 40] }, 3, "sort.go:160", #[⟨0, .data⟩, ⟨4, .data⟩, ⟨5, .data⟩], none⟩
abbrev q4ff_74_5_7 : Oper := ⟨some 31, .binOp .lss 3 (.tmp 30) (.const (.int .i64 0)) 3, 4, "sort.go:160", #[⟨6, .data⟩], none⟩
abbrev q4ff_74_8_0 : Oper := ⟨some 35, .move (.tmp 9), 3, "sort.go:167", #[], none⟩
abbrev q4ff_74_8_1 : Oper := ⟨some 36, .move (.tmp 9), 3, "sort.go:167", #[], none⟩
abbrev q4ff_74_8_2 : Oper := ⟨some 37, .move (.tmp 8), 3, "sort.go:167", #[], none⟩
abbrev q4ff_74_8_3 : Oper := ⟨some 38, .binOp .lss 3 (.tmp 36) (.tmp 37) 3, 4, "sort.go:167", #[⟨1, .data⟩, ⟨2, .data⟩], none⟩
abbrev q4ff_74_8_4 : Oper := ⟨some 39, .move (.tmp 38), 4, "sort.go:167", #[⟨3, .data⟩], none⟩
abbrev q4ff_74_8_5 : Oper := ⟨some 40, .move (.tmp 2), 110, "sort.go:167", #[⟨4, .guard⟩], some (4, true)⟩
abbrev q4ff_74_8_6 : Oper := ⟨some 41, .move (.tmp 0), 28, "sort.go:167", #[⟨4, .guard⟩], some (4, true)⟩
abbrev q4ff_74_8_7 : Oper := ⟨some 42, .move (.tmp 9), 3, "sort.go:167", #[⟨4, .guard⟩], some (4, true)⟩
abbrev q4ff_74_8_8 : Oper := ⟨some 43, .indexAddr 28 (.tmp 41) (.tmp 42), 0, "sort.go:167", #[⟨6, .data⟩, ⟨7, .data⟩, ⟨4, .guard⟩], some (4, true)⟩
abbrev q4ff_74_8_9 : Oper := ⟨some 44, .load 52 (.tmp 43), 52, "sort.go:167", #[⟨8, .data⟩, ⟨4, .guard⟩], some (4, true)⟩
abbrev q4ff_74_8_10 : Oper := ⟨some 45, .load 40 (.tmp 4), 40, "sort.go:167", #[⟨4, .guard⟩], some (4, true)⟩
abbrev q4ff_74_8_11 : Oper := ⟨some 46, .call { callee := .value (.tmp 40), args := #[.tmp 44, .tmp 45], argTypes := #[52, 40] }, 3, "sort.go:167", #[⟨5, .data⟩, ⟨9, .data⟩, ⟨10, .data⟩, ⟨4, .chain⟩, ⟨4, .guard⟩], some (4, true)⟩
abbrev q4ff_74_8_12 : Oper := ⟨some 47, .binOp .eql 3 (.tmp 46) (.const (.int .i64 0)) 3, 4, "sort.go:167", #[⟨11, .data⟩, ⟨4, .guard⟩, { on := 14, ground := Ground.gcOnly Departure.lateStores }], some (4, true)⟩
abbrev q4ff_74_8_13 : Oper := ⟨some 48, .pick (.tmp 39) (.tmp 47) (.const (.bool false)), 4, "sort.go:167", #[⟨4, .data⟩, ⟨12, .data⟩, { on := 14, ground := Ground.gcOnly Departure.lateStores }], none⟩
abbrev q4ff_74_8_14 : Oper := ⟨some 6, .assign (.tmp 35), 3, "sort.go:167", #[⟨0, .data⟩, ⟨11, .chain⟩, ⟨0, .phase⟩, { on := 1, ground := Ground.textOnly Departure.lateStores }, { on := 2, ground := Ground.textOnly Departure.lateStores }, { on := 3, ground := Ground.textOnly Departure.lateStores }, { on := 4, ground := Ground.textOnly Departure.lateStores }, { on := 5, ground := Ground.textOnly Departure.lateStores }, { on := 6, ground := Ground.textOnly Departure.lateStores }, { on := 7, ground := Ground.textOnly Departure.lateStores }, { on := 8, ground := Ground.textOnly Departure.lateStores }, { on := 9, ground := Ground.textOnly Departure.lateStores }, { on := 10, ground := Ground.textOnly Departure.lateStores }, { on := 11, ground := Ground.textOnly Departure.lateStoresUnsure }, { on := 12, ground := Ground.textOnly Departure.lateStores }, { on := 13, ground := Ground.textOnly Departure.lateStores }], none⟩
abbrev q4ff_74_8_15 : Oper := ⟨some 7, .assign (.tmp 48), 4, "sort.go:167", #[⟨13, .data⟩, ⟨14, .chain⟩, ⟨0, .phase⟩, ⟨1, .phase⟩, ⟨2, .phase⟩, ⟨3, .phase⟩, ⟨4, .phase⟩, ⟨5, .phase⟩, ⟨6, .phase⟩, ⟨7, .phase⟩, ⟨8, .phase⟩, ⟨9, .phase⟩, ⟨10, .phase⟩, ⟨11, .phase⟩, ⟨12, .phase⟩, ⟨13, .phase⟩, ⟨14, .phase⟩], none⟩

theorem ordI_zero {a b : Int} : ordI a b = 0 ↔ a = b := by
  rcases Int.lt_trichotomy a b with h | h | h
  · rw [ordI_lt h]; constructor <;> intro g <;> omega
  · rw [ordI_eq h]; constructor <;> intro g <;> omega
  · rw [ordI_gt h]; constructor <;> intro g <;> omega
theorem ordD_zero {a b : MDot} : ordD a b = 0 ↔ sameD a b = true := by
  unfold ordD orI sameD
  rw [decide_eq_true_iff]
  by_cases h : ordI a.fR b.fR = 0
  · rw [if_neg (fun g => g h), ordI_zero]
    exact ⟨fun g => ⟨ordI_zero.1 h, g⟩, fun g => g.2⟩
  · rw [if_pos h]
    exact ⟨fun g => absurd g h, fun g => absurd (ordI_zero.2 g.1) h⟩

set_option maxHeartbeats 1000000 in
theorem itCmp_any (x d : MDot) (v : Value) (w : World) (h0 : (Lit.int .i64 x.fR).wf = true) (h1 : (Lit.int .i64 x.fN).wf = true) (g0 : (Lit.int .i64 d.fR).wf = true) (g1 : (Lit.int .i64 d.fN).wf = true) (hv : v.oneCell' = true) :
    Calls Tryd.prog 75 #[.agg #[.int .i64 x.fR, .int .i64 x.fN, v], .agg #[.int .i64 d.fR, .int .i64 d.fN]] w fun e w' => e = .returned (.int .i64 (ordD x d)) ∧ Below w.heap.size w w' := by
  go_enter Tryd.func75, Tryd.ntmps75
  go_wp2_with fail
  obtain ⟨wq, hwq⟩ : ∃ wq, wq = (w.alloc (.cells #[.int .i64 x.fR, .int .i64 x.fN, v] 52)).alloc (.cells #[.int .i64 d.fR, .int .i64 d.fN] 40) := ⟨_, rfl⟩
  have hbW : Below w.heap.size w wq := by rw [hwq]; exact ((Below.refl _ _).alloc (Nat.le_refl _) _).alloc (by simp) _
  rw [← hwq]
  clear hwq
  refine (dotOrder_any [.int .i64 x.fR, .int .i64 x.fN] [.int .i64 d.fR, .int .i64 d.fN] x d wq ⟨rfl, h0, h1, trivial⟩ ⟨rfl, g0, g1, trivial⟩).mono ?_
  rintro e w1 ⟨rfl, hx1⟩
  have hb1 := bthen hbW hx1
  go_wp2_with fail
  go_ret
  exact ⟨rfl, hb1⟩

/-- A place ahead of which what stands is less, and at which it is not. -/
def PlaceAt (l : List MItem) (d : MDot) (p : Nat) : Prop := p ≤ l.length ∧ (∀ j, (h : j < l.length) → j + 1 = p → dotLt l[j].fD d = true) ∧ ∀ h : p < l.length, dotLt l[p].fD d = false
def thereAt (l : List MItem) (d : MDot) (p : Nat) : Bool := match l[p]? with | none => false | some x => sameD x.fD d
theorem thereAt_no {l : List MItem} {d : MDot} {p : Nat} (h : ¬ p < l.length) : thereAt l d p = false := by unfold thereAt; rw [List.getElem?_eq_none (by omega)]
theorem thereAt_at {l : List MItem} {d : MDot} {p : Nat} (h : p < l.length) : thereAt l d p = sameD l[p].fD d := by unfold thereAt; rw [List.getElem?_eq_getElem h]

set_option maxHeartbeats 4000000 in
theorem search_any (a : Option Addr) (n cap : Nat) (l : List MItem) (ds : List Value) (d : MDot) (w : World) (hx : l.length = n) (hn : n ≤ 16777216) (hr : LeafL 3 rItem w.heap.size w a cap l) (hd : rDot w.heap.size w ds d) :
    Calls Tryd.prog 74 #[.slice a n cap, .agg ds.toArray, .func (.func 75) #[] #[]] w fun e w' => ∃ p : Nat, e = .returned (.tuple #[.int .i64 p, .bool (thereAt l d p)]) ∧ PlaceAt l d p ∧ Below w.heap.size w w' := by
  have HL := Hid.mk hr
  have HX := Hid.mk hx
  obtain ⟨rfl, d0, d1, _⟩ := hd
  clear hr hx
  go_enter Tryd.func74, Tryd.ntmps74
  go_wp2_with fail
  obtain ⟨wq, hwq⟩ : ∃ wq, wq = w.alloc (.cells #[.int .i64 d.fR, .int .i64 d.fN] 40) := ⟨_, rfl⟩
  have hbq : Below w.heap.size w wq := by rw [hwq]; exact (Below.refl _ _).alloc (Nat.le_refl _) _
  have hbx : Bx wq w.heap.size [.int .i64 d.fR, .int .i64 d.fN] := by rw [hwq]; exact Bx.new _ _ _
  rw [← hwq]
  clear hwq
  go_loopw [9, 10] (fun iv jv wr => ∃ i j : Nat, i ≤ j ∧ j ≤ n ∧ iv = .int .i64 i ∧ jv = .int .i64 j ∧ Hid (∀ x, (hx : x < l.length) → x + 1 = i → dotLt l[x].fD d = true) ∧ Hid (∀ hx : j < l.length, dotLt l[j].fD d = false) ∧ Below wq.heap.size wq wr) (fun iv jv _ => (intOf jv).toNat - (intOf iv).toNat)
  case atStart => exact ⟨0, n, Nat.zero_le _, Nat.le_refl _, rfl, rfl, Hid.mk (fun x _ h => by omega), Hid.mk (fun h => by have := HX.out; omega), Below.refl _ _⟩
  case round =>
    obtain ⟨i, j, hij, hjn, rfl, rfl, HLo, HHi, hbk⟩ := hrel
    have hbw := bthen hbq hbk
    have y0 : ∀ W, Below wr.heap.size wr W → W.cell? ⟨w.heap.size, 0, none⟩ = some (.int .i64 d.fR) := fun W h => ((hbx.under hbk).under h).2 0 _ rfl
    have y1 : ∀ W, Below wr.heap.size wr W → W.cell? ⟨w.heap.size, 1, none⟩ = some (.int .i64 d.fN) := fun W h => ((hbx.under hbk).under h).2 1 _ rfl
    by_cases hlt : i < j
    · obtain ⟨mid, hmid⟩ : ∃ mid : Nat, mid = (i + j) / 2 := ⟨_, rfl⟩
      have hm1 : i ≤ mid := by omega
      have hm2 : mid < j := by omega
      have hml : mid < l.length := by rw [HX.out]; omega
      obtain ⟨b1, o1, rfl, hB, cs, hcl, hcell, a2, c2, rfl, f0, f1, f2, _⟩ := (HL.out.2.2.below rItem_good hbw) mid hml
      have hB' : b1 < wr.heap.size := Nat.lt_of_lt_of_le hB hbw.size
      have k0 := hcell 0 _ rfl
      have k1 := hcell 1 _ rfl
      have k2 := hcell 2 _ rfl
      rw [Nat.add_zero] at k0
      obtain ⟨x, hxk⟩ : ∃ x, x = l[mid] := ⟨_, rfl⟩
      rw [← hxk] at k0 k1 k2 f0 f1
      have HXK := Hid.mk hxk
      have e0 : ∀ W, Below wr.heap.size wr W → W.cell? ⟨b1, o1 + mid * 3, none⟩ = some (.int .i64 x.fD.fR) := fun W h => (h.cell (p := ⟨b1, o1 + mid * 3, none⟩) hB').trans k0
      have e1 : ∀ W, Below wr.heap.size wr W → W.cell? ⟨b1, o1 + mid * 3 + 1, none⟩ = some (.int .i64 x.fD.fN) := fun W h => (h.cell (p := ⟨b1, o1 + mid * 3 + 1, none⟩) hB').trans k1
      have e2 : ∀ W, Below wr.heap.size wr W → W.cell? ⟨b1, o1 + mid * 3 + 2, none⟩ = some (.slice a2 x.fDeps.length c2) := fun W h => (h.cell (p := ⟨b1, o1 + mid * 3 + 2, none⟩) hB').trans k2
      clear hcell hcl hxk k0 k1 k2 f2
      have hu1 : ((i : Int) + (j : Int)) / 2 = (mid : Int) := by omega
      have hq1 : (0 : Int) ≤ (mid : Int) := by omega
      have hq2 : (mid : Int) < (n : Int) := by omega
      clear hmid
      by_cases hc : dotLt x.fD d = true
      · have HLo2 : Hid (∀ y, (hy : y < l.length) → y + 1 = mid + 1 → dotLt l[y].fD d = true) := fun y hy he => by
          have h : y = mid := by omega
          subst h; rw [← HXK.out]; exact hc
        have hcn : ordD x.fD d < 0 := (ordD_lt x.fD d).2 hc
        clear HLo hc
        go_wp2_with fail
        refine wp_region_held_drew (S := fun W => Below wr.heap.size wr W) (by kernel_rfl) (Below.drew (Below.refl _ _)) (fun hHeld => ?_)
        refine tk 0 q4ff_74_5_0 (some 24) (v := ?v1) rfl rfl (by kernel_rfl) hHeld (by rfl) (fun _ _ _ x => x) (fun w h => ?y1) ?_; (case y1 => (try dsimp only at h); go_simp; try (with_reducible rfl)); try simp only [Act.put, sa, s0, s1]
        refine tk 1 q4ff_74_5_1 (some 25) (v := ?v2) rfl rfl (by kernel_rfl) hHeld (by rfl) (fun _ _ _ x => x) (fun w h => ?y2) ?_; (case y2 => (try dsimp only at h); go_simp; try (with_reducible rfl)); try simp only [Act.put, sa, s0, s1]
        refine tk 2 q4ff_74_5_2 (some 26) (v := ?v3) rfl rfl (by kernel_rfl) hHeld (by rfl) (fun _ _ _ x => x) (fun w h => ?y3) ?_; (case y3 => (try dsimp only at h); go_simp; try (with_reducible rfl)); try simp only [Act.put, sa, s0, s1]
        refine tk 3 q4ff_74_5_3 (some 27) (v := ?v4) rfl rfl (by kernel_rfl) hHeld (by rfl) (fun _ _ _ x => x) (fun w h => ?y4) ?_; (case y4 => (try dsimp only at h); go_simp; try (with_reducible rfl)); try simp only [Act.put, sa, s0, s1]
        refine tk 4 q4ff_74_5_4 (some 28) (v := ?v5) rfl rfl (by kernel_rfl) hHeld (by rfl) (fun _ _ _ x => x) (fun w h => ?y5) ?_; (case y5 => (try dsimp only at h); go_simp; try (with_reducible rfl)); try simp only [Act.put, sa, s0, s1]
        refine tk 5 q4ff_74_5_5 (some 29) (v := ?v6) rfl rfl (by kernel_rfl) hHeld (by rfl) (fun _ _ _ x => x) (fun w h => ?y6) ?_; (case y6 => (try dsimp only at h); go_simp; try (with_reducible rfl)); try simp only [Act.put, sa, s0, s1]
        refine wpAnyH_ready (rs := [6]) (by kernel_rfl) (by simp) ?_
        refine AllReadyH.cons (o := q4ff_74_5_6) rfl (fun K hK => ?_) AllReadyH.nil
        go_simp
        refine Calls.mono (itCmp_any x.fD d (.slice a2 x.fDeps.length c2) _ f0 f1 d0 d1 rfl) ?_
        rintro e w1 ⟨rfl, hx1⟩
        go_wp2_with fail
        refine hK.out _ _ (bthen hHeld hx1) (fun hHeld => ?_)
        clear hK K
        try simp only [Act.put, sa, s0, s1]
        refine tk 7 q4ff_74_5_7 (some 31) (v := ?v7) rfl rfl (by kernel_rfl) hHeld (by rfl) (fun _ _ _ x => x) (fun w h => ?y7) ?_; (case y7 => (try dsimp only at h); go_simp; try (with_reducible rfl)); try simp only [Act.put, sa, s0, s1]
        refine wpAnyH_done (by kernel_rfl) ?_ _
        go_wp2_with fail
        go_roundw
        case rel => exact ⟨mid + 1, j, by omega, by omega, by go_num, rfl, HLo2, HHi, bthen hbk hHeld⟩
        case measure => simp [intOf]; omega
      · have HHi2 : Hid (∀ hy : mid < l.length, dotLt l[mid].fD d = false) := fun hy => by rw [← HXK.out]; exact Bool.eq_false_iff.2 hc
        have hcn : ¬ ordD x.fD d < 0 := fun h => hc ((ordD_lt x.fD d).1 h)
        clear HHi hc
        go_wp2_with fail
        refine wp_region_held_drew (S := fun W => Below wr.heap.size wr W) (by kernel_rfl) (Below.drew (Below.refl _ _)) (fun hHeld => ?_)
        refine tk 0 q4ff_74_5_0 (some 24) (v := ?v8) rfl rfl (by kernel_rfl) hHeld (by rfl) (fun _ _ _ x => x) (fun w h => ?y8) ?_; (case y8 => (try dsimp only at h); go_simp; try (with_reducible rfl)); try simp only [Act.put, sa, s0, s1]
        refine tk 1 q4ff_74_5_1 (some 25) (v := ?v9) rfl rfl (by kernel_rfl) hHeld (by rfl) (fun _ _ _ x => x) (fun w h => ?y9) ?_; (case y9 => (try dsimp only at h); go_simp; try (with_reducible rfl)); try simp only [Act.put, sa, s0, s1]
        refine tk 2 q4ff_74_5_2 (some 26) (v := ?v10) rfl rfl (by kernel_rfl) hHeld (by rfl) (fun _ _ _ x => x) (fun w h => ?y10) ?_; (case y10 => (try dsimp only at h); go_simp; try (with_reducible rfl)); try simp only [Act.put, sa, s0, s1]
        refine tk 3 q4ff_74_5_3 (some 27) (v := ?v11) rfl rfl (by kernel_rfl) hHeld (by rfl) (fun _ _ _ x => x) (fun w h => ?y11) ?_; (case y11 => (try dsimp only at h); go_simp; try (with_reducible rfl)); try simp only [Act.put, sa, s0, s1]
        refine tk 4 q4ff_74_5_4 (some 28) (v := ?v12) rfl rfl (by kernel_rfl) hHeld (by rfl) (fun _ _ _ x => x) (fun w h => ?y12) ?_; (case y12 => (try dsimp only at h); go_simp; try (with_reducible rfl)); try simp only [Act.put, sa, s0, s1]
        refine tk 5 q4ff_74_5_5 (some 29) (v := ?v13) rfl rfl (by kernel_rfl) hHeld (by rfl) (fun _ _ _ x => x) (fun w h => ?y13) ?_; (case y13 => (try dsimp only at h); go_simp; try (with_reducible rfl)); try simp only [Act.put, sa, s0, s1]
        refine wpAnyH_ready (rs := [6]) (by kernel_rfl) (by simp) ?_
        refine AllReadyH.cons (o := q4ff_74_5_6) rfl (fun K hK => ?_) AllReadyH.nil
        go_simp
        refine Calls.mono (itCmp_any x.fD d (.slice a2 x.fDeps.length c2) _ f0 f1 d0 d1 rfl) ?_
        rintro e w1 ⟨rfl, hx1⟩
        go_wp2_with fail
        refine hK.out _ _ (bthen hHeld hx1) (fun hHeld => ?_)
        clear hK K
        try simp only [Act.put, sa, s0, s1]
        refine tk 7 q4ff_74_5_7 (some 31) (v := ?v14) rfl rfl (by kernel_rfl) hHeld (by rfl) (fun _ _ _ x => x) (fun w h => ?y14) ?_; (case y14 => (try dsimp only at h); go_simp; try (with_reducible rfl)); try simp only [Act.put, sa, s0, s1]
        refine wpAnyH_done (by kernel_rfl) ?_ _
        go_wp2_with fail
        go_roundw
        case rel => exact ⟨i, mid, by omega, by omega, rfl, by go_num, HLo, HHi2, bthen hbk hHeld⟩
        case measure => simp [intOf]; omega
    · have hji : j = i := by omega
      subst hji
      have HP : Hid (PlaceAt l d j) := ⟨by rw [HX.out]; exact hjn, HLo.out, HHi.out⟩
      clear HLo HHi
      by_cases hin : j < n
      · have hml : j < l.length := by rw [HX.out]; exact hin
        obtain ⟨b1, o1, rfl, hB, cs, hcl, hcell, a2, c2, rfl, f0, f1, f2, _⟩ := (HL.out.2.2.below rItem_good hbw) j hml
        have hB' : b1 < wr.heap.size := Nat.lt_of_lt_of_le hB hbw.size
        have k0 := hcell 0 _ rfl
        have k1 := hcell 1 _ rfl
        have k2 := hcell 2 _ rfl
        rw [Nat.add_zero] at k0
        obtain ⟨x, hxk⟩ : ∃ x, x = l[j] := ⟨_, rfl⟩
        rw [← hxk] at k0 k1 k2 f0 f1
        have HXK := Hid.mk hxk
        have e0 : ∀ W, Below wr.heap.size wr W → W.cell? ⟨b1, o1 + j * 3, none⟩ = some (.int .i64 x.fD.fR) := fun W h => (h.cell (p := ⟨b1, o1 + j * 3, none⟩) hB').trans k0
        have e1 : ∀ W, Below wr.heap.size wr W → W.cell? ⟨b1, o1 + j * 3 + 1, none⟩ = some (.int .i64 x.fD.fN) := fun W h => (h.cell (p := ⟨b1, o1 + j * 3 + 1, none⟩) hB').trans k1
        have e2 : ∀ W, Below wr.heap.size wr W → W.cell? ⟨b1, o1 + j * 3 + 2, none⟩ = some (.slice a2 x.fDeps.length c2) := fun W h => (h.cell (p := ⟨b1, o1 + j * 3 + 2, none⟩) hB').trans k2
        clear hcell hcl hxk k0 k1 k2 f2
        have hq1 : (0 : Int) ≤ (j : Int) := by omega
        have hq2 : (j : Int) < (n : Int) := by omega
        have HT : Hid (thereAt l d j = (ordD x.fD d == 0)) := by
          unfold Hid
          rw [thereAt_at hml, ← HXK.out]
          by_cases h : sameD x.fD d = true
          · rw [h, ordD_zero.2 h]; rfl
          · rw [Bool.eq_false_iff.2 h]; exact (beq_eq_false_iff_ne.2 (fun g => h (ordD_zero.1 g))).symm
        go_wp2_with fail
        refine wp_region_held_drew (S := fun W => Below wr.heap.size wr W) (by kernel_rfl) (Below.drew (Below.refl _ _)) (fun hHeld => ?_)
        refine tk 0 q4ff_74_8_0 (some 35) (v := ?v15) rfl rfl (by kernel_rfl) hHeld (by rfl) (fun _ _ _ x => x) (fun w h => ?y15) ?_; (case y15 => (try dsimp only at h); go_simp; try (with_reducible rfl)); try simp only [Act.put, sa, s0, s1]
        refine tk 1 q4ff_74_8_1 (some 36) (v := ?v16) rfl rfl (by kernel_rfl) hHeld (by rfl) (fun _ _ _ x => x) (fun w h => ?y16) ?_; (case y16 => (try dsimp only at h); go_simp; try (with_reducible rfl)); try simp only [Act.put, sa, s0, s1]
        refine tk 2 q4ff_74_8_2 (some 37) (v := ?v17) rfl rfl (by kernel_rfl) hHeld (by rfl) (fun _ _ _ x => x) (fun w h => ?y17) ?_; (case y17 => (try dsimp only at h); go_simp; try (with_reducible rfl)); try simp only [Act.put, sa, s0, s1]
        refine tk 3 q4ff_74_8_3 (some 38) (v := ?v18) rfl rfl (by kernel_rfl) hHeld (by rfl) (fun _ _ _ x => x) (fun w h => ?y18) ?_; (case y18 => (try dsimp only at h); go_simp; try (with_reducible rfl)); try simp only [Act.put, sa, s0, s1]
        refine tk 4 q4ff_74_8_4 (some 39) (v := ?v19) rfl rfl (by kernel_rfl) hHeld (by rfl) (fun _ _ _ x => x) (fun w h => ?y19) ?_; (case y19 => (try dsimp only at h); go_simp; try (with_reducible rfl)); try simp only [Act.put, sa, s0, s1]
        refine tk 5 q4ff_74_8_5 (some 40) (v := ?v20) rfl rfl (by kernel_rfl) hHeld (by rfl) (fun _ _ _ x => x) (fun w h => ?y20) ?_; (case y20 => (try dsimp only at h); go_simp; try (with_reducible rfl)); try simp only [Act.put, sa, s0, s1]
        refine tk 6 q4ff_74_8_6 (some 41) (v := ?v21) rfl rfl (by kernel_rfl) hHeld (by rfl) (fun _ _ _ x => x) (fun w h => ?y21) ?_; (case y21 => (try dsimp only at h); go_simp; try (with_reducible rfl)); try simp only [Act.put, sa, s0, s1]
        refine tk 7 q4ff_74_8_7 (some 42) (v := ?v22) rfl rfl (by kernel_rfl) hHeld (by rfl) (fun _ _ _ x => x) (fun w h => ?y22) ?_; (case y22 => (try dsimp only at h); go_simp; try (with_reducible rfl)); try simp only [Act.put, sa, s0, s1]
        refine tk 8 q4ff_74_8_8 (some 43) (v := ?v23) rfl rfl (by kernel_rfl) hHeld (by rfl) (fun _ _ _ x => x) (fun w h => ?y23) ?_; (case y23 => (try dsimp only at h); go_simp; try (with_reducible rfl)); try simp only [Act.put, sa, s0, s1]
        refine tk 9 q4ff_74_8_9 (some 44) (v := ?v24) rfl rfl (by kernel_rfl) hHeld (by rfl) (fun _ _ _ x => x) (fun w h => ?y24) ?_; (case y24 => (try dsimp only at h); go_simp; try (with_reducible rfl)); try simp only [Act.put, sa, s0, s1]
        refine tk 10 q4ff_74_8_10 (some 45) (v := ?v25) rfl rfl (by kernel_rfl) hHeld (by rfl) (fun _ _ _ x => x) (fun w h => ?y25) ?_; (case y25 => (try dsimp only at h); go_simp; try (with_reducible rfl)); try simp only [Act.put, sa, s0, s1]
        refine wpAnyH_ready (rs := [11]) (by kernel_rfl) (by simp) ?_
        refine AllReadyH.cons (o := q4ff_74_8_11) rfl (fun K hK => ?_) AllReadyH.nil
        go_simp
        refine Calls.mono (itCmp_any x.fD d (.slice a2 x.fDeps.length c2) _ f0 f1 d0 d1 rfl) ?_
        rintro e w1 ⟨rfl, hx1⟩
        go_wp2_with fail
        refine hK.out _ _ (bthen hHeld hx1) (fun hHeld => ?_)
        clear hK K
        try simp only [Act.put, sa, s0, s1]
        refine tk 12 q4ff_74_8_12 (some 47) (v := ?v26) rfl rfl (by kernel_rfl) hHeld (by rfl) (fun _ _ _ x => x) (fun w h => ?y26) ?_; (case y26 => (try dsimp only at h); go_simp; try (with_reducible rfl)); try simp only [Act.put, sa, s0, s1]
        refine tk 13 q4ff_74_8_13 (some 48) (v := ?v27) rfl rfl (by kernel_rfl) hHeld (by rfl) (fun _ _ _ x => x) (fun w h => ?y27) ?_; (case y27 => (try dsimp only at h); go_simp; try (with_reducible rfl)); try simp only [Act.put, sa, s0, s1]
        refine tk 14 q4ff_74_8_14 (some 6) (v := ?v28) rfl rfl (by kernel_rfl) hHeld (by rfl) (fun _ _ _ x => x) (fun w h => ?y28) ?_; (case y28 => (try dsimp only at h); go_simp; try (with_reducible rfl)); try simp only [Act.put, sa, s0, s1]
        refine tk 15 q4ff_74_8_15 (some 7) (v := ?v29) rfl rfl (by kernel_rfl) hHeld (by rfl) (fun _ _ _ x => x) (fun w h => ?y29) ?_; (case y29 => (try dsimp only at h); go_simp; try (with_reducible rfl)); try simp only [Act.put, sa, s0, s1]
        refine wpAnyH_done (by kernel_rfl) ?_ _
        go_wp2_with fail
        refine bodyPost_ret (v := .tuple #[.int .i64 j, .bool (ordD x.fD d == 0)]) (by simp [results, Tryd.results74, go_sem, *]) rfl ⟨j, by rw [HT.out], HP.out, bthen hbw hHeld⟩
      · have HT := Hid.mk (thereAt_no (d := d) (l := l) (p := j) (by rw [HX.out]; exact hin))
        have hin2 : ¬ (j : Int) < (n : Int) := by omega
        go_wp2_with fail
        refine wp_region_held_drew (S := fun W => Below wr.heap.size wr W) (by kernel_rfl) (Below.drew (Below.refl _ _)) (fun hHeld => ?_)
        refine tk 0 q4ff_74_8_0 (some 35) (v := ?v30) rfl rfl (by kernel_rfl) hHeld (by rfl) (fun _ _ _ x => x) (fun w h => ?y30) ?_; (case y30 => (try dsimp only at h); go_simp; try (with_reducible rfl)); try simp only [Act.put, sa, s0, s1]
        refine tk 1 q4ff_74_8_1 (some 36) (v := ?v31) rfl rfl (by kernel_rfl) hHeld (by rfl) (fun _ _ _ x => x) (fun w h => ?y31) ?_; (case y31 => (try dsimp only at h); go_simp; try (with_reducible rfl)); try simp only [Act.put, sa, s0, s1]
        refine tk 2 q4ff_74_8_2 (some 37) (v := ?v32) rfl rfl (by kernel_rfl) hHeld (by rfl) (fun _ _ _ x => x) (fun w h => ?y32) ?_; (case y32 => (try dsimp only at h); go_simp; try (with_reducible rfl)); try simp only [Act.put, sa, s0, s1]
        refine tk 3 q4ff_74_8_3 (some 38) (v := ?v33) rfl rfl (by kernel_rfl) hHeld (by rfl) (fun _ _ _ x => x) (fun w h => ?y33) ?_; (case y33 => (try dsimp only at h); go_simp; try (with_reducible rfl)); try simp only [Act.put, sa, s0, s1]
        refine tk 4 q4ff_74_8_4 (some 39) (v := ?v34) rfl rfl (by kernel_rfl) hHeld (by rfl) (fun _ _ _ x => x) (fun w h => ?y34) ?_; (case y34 => (try dsimp only at h); go_simp; try (with_reducible rfl)); try simp only [Act.put, sa, s0, s1]
        refine tn 5 q4ff_74_8_5 (some 40) rfl rfl (by kernel_rfl) hHeld (by rfl) (fun _ _ _ x => x) ?_; try simp only [Act.put, sa, s0, s1]
        refine tn 6 q4ff_74_8_6 (some 41) rfl rfl (by kernel_rfl) hHeld (by rfl) (fun _ _ _ x => x) ?_; try simp only [Act.put, sa, s0, s1]
        refine tn 7 q4ff_74_8_7 (some 42) rfl rfl (by kernel_rfl) hHeld (by rfl) (fun _ _ _ x => x) ?_; try simp only [Act.put, sa, s0, s1]
        refine tn 8 q4ff_74_8_8 (some 43) rfl rfl (by kernel_rfl) hHeld (by rfl) (fun _ _ _ x => x) ?_; try simp only [Act.put, sa, s0, s1]
        refine tn 9 q4ff_74_8_9 (some 44) rfl rfl (by kernel_rfl) hHeld (by rfl) (fun _ _ _ x => x) ?_; try simp only [Act.put, sa, s0, s1]
        refine tn 10 q4ff_74_8_10 (some 45) rfl rfl (by kernel_rfl) hHeld (by rfl) (fun _ _ _ x => x) ?_; try simp only [Act.put, sa, s0, s1]
        refine tn 11 q4ff_74_8_11 (some 46) rfl rfl (by kernel_rfl) hHeld (by rfl) (fun _ _ _ x => x) ?_; try simp only [Act.put, sa, s0, s1]
        refine tn 12 q4ff_74_8_12 (some 47) rfl rfl (by kernel_rfl) hHeld (by rfl) (fun _ _ _ x => x) ?_; try simp only [Act.put, sa, s0, s1]
        refine tk 13 q4ff_74_8_13 (some 48) (v := ?v43) rfl rfl (by kernel_rfl) hHeld (by rfl) (fun _ _ _ x => x) (fun w h => ?y43) ?_; (case y43 => (try dsimp only at h); go_simp; try (with_reducible rfl)); try simp only [Act.put, sa, s0, s1]
        refine tk 14 q4ff_74_8_14 (some 6) (v := ?v44) rfl rfl (by kernel_rfl) hHeld (by rfl) (fun _ _ _ x => x) (fun w h => ?y44) ?_; (case y44 => (try dsimp only at h); go_simp; try (with_reducible rfl)); try simp only [Act.put, sa, s0, s1]
        refine tk 15 q4ff_74_8_15 (some 7) (v := ?v45) rfl rfl (by kernel_rfl) hHeld (by rfl) (fun _ _ _ x => x) (fun w h => ?y45) ?_; (case y45 => (try dsimp only at h); go_simp; try (with_reducible rfl)); try simp only [Act.put, sa, s0, s1]
        refine wpAnyH_done (by kernel_rfl) ?_ _
        go_wp2_with fail
        refine bodyPost_ret (v := .tuple #[.int .i64 j, .bool false]) (by simp [results, Tryd.results74, go_sem, *]) rfl ⟨j, by rw [HT.out], HP.out, bthen hbw hHeld⟩

set_option maxHeartbeats 1000000 in
theorem placeOf_any (a : Option Addr) (n cap : Nat) (l : List MItem) (ds : List Value) (d : MDot) (w : World) (hx : l.length = n) (hn : n ≤ 16777216) (hr : LeafL 3 rItem w.heap.size w a cap l) (hd : rDot w.heap.size w ds d) :
    Calls Tryd.prog 45 #[.slice a n cap, .agg ds.toArray] w fun e w' => ∃ p : Nat, e = .returned (.tuple #[.int .i64 p, .bool (thereAt l d p)]) ∧ PlaceAt l d p ∧ Below w.heap.size w w' := by
  obtain ⟨rfl, d0, d1, _⟩ := hd
  go_enter Tryd.func45, Tryd.ntmps45
  go_wp2_with fail
  obtain ⟨wq, hwq⟩ : ∃ wq, wq = w.alloc (.cells #[.int .i64 d.fR, .int .i64 d.fN] 40) := ⟨_, rfl⟩
  have hbq : Below w.heap.size w wq := by rw [hwq]; exact (Below.refl _ _).alloc (Nat.le_refl _) _
  rw [← hwq]
  clear hwq
  refine (search_any a n cap l [.int .i64 d.fR, .int .i64 d.fN] d wq hx hn ((hr.below rItem_good hbq).mono rItem_good hbq.size) ⟨rfl, d0, d1, trivial⟩).mono ?_
  rintro e w1 ⟨p, rfl, hP, hx1⟩
  have hb1 := bthen hbq hx1
  have HP := Hid.mk hP
  clear hP hr hx
  generalize ht : thereAt l d p = b
  have HT := Hid.mk ht
  clear ht
  go_wp2_with fail
  refine bodyPost_ret (v := .tuple #[.int .i64 p, .bool b]) (by simp [results, Tryd.results45, go_sem]) rfl ⟨p, by rw [HT.out], HP.out, hb1⟩


def insAt (l : List MItem) (p : Nat) (it : MItem) : List MItem := l.take p ++ it :: l.drop p
def firstGt (d : MDot) : List MItem → Nat
  | [] => 0
  | x :: r => if dotLt d x.fD = true then 0 else firstGt d r + 1
def hasI (l : List MItem) (d : MDot) : Bool := hasD (l.map MItem.fD) d
def putOk (m : MGraph) (it : MItem) : Bool := !hasI m.fItems it.fD && graphP ⟨insAt m.fItems (firstGt it.fD m.fItems) it⟩
def putG (m : MGraph) (it : MItem) : MGraph := bif putOk m it then ⟨insAt m.fItems (firstGt it.fD m.fItems) it⟩ else m

theorem dotLt_iff {a b : MDot} : dotLt a b = true ↔ (a.fR < b.fR ∨ (a.fR = b.fR ∧ a.fN < b.fN)) := by unfold dotLt; exact decide_eq_true_iff
theorem dotLt_trans {a b c : MDot} (h : dotLt a b = true) (k : dotLt b c = true) : dotLt a c = true := by rw [dotLt_iff] at *; omega
theorem dotLt_asym {a b : MDot} (h : dotLt a b = true) (k : dotLt b a = true) : False := by rw [dotLt_iff] at *; omega
theorem dotLt_ne {a b : MDot} (h : dotLt a b = true) : sameD a b = false := by rw [dotLt_iff] at h; unfold sameD; exact decide_eq_false (fun g => by omega)
theorem sameD_comm {a b : MDot} : sameD a b = sameD b a := by unfold sameD; exact decide_eq_decide.2 ⟨fun g => ⟨g.1.symm, g.2.symm⟩, fun g => ⟨g.1.symm, g.2.symm⟩⟩

theorem upOk_at {α : Type} {f : α → Bool} {lt : α → α → Bool} {l : List α} (h : upOk f lt l = true) {j : Nat} (hj : j < l.length) : stepOk f lt l j = true := by
  unfold upOk at h
  rw [List.all_eq_true] at h
  exact h j (List.mem_range.2 hj)
theorem stepOk_lt {α : Type} {f : α → Bool} {lt : α → α → Bool} {l : List α} {j : Nat} (hj : j + 1 < l.length) (h : stepOk f lt l (j + 1) = true) : lt l[j] l[j + 1] = true := by
  unfold stepOk at h
  rw [List.getElem?_eq_getElem hj] at h
  simp only [List.getElem?_eq_getElem (show j < l.length by omega), Bool.and_eq_true] at h
  exact h.2
theorem graph_up {l : List MItem} (h : graphP ⟨l⟩ = true) : ∀ i j, (hi : i < l.length) → (hj : j < l.length) → i < j → dotLt l[i].fD l[j].fD = true := by
  have hu : upOk itemP itemLt l = true := by
    have h' : (decide (l.length ≤ 100) && upOk itemP itemLt l) = true := h
    rw [Bool.and_eq_true] at h'
    exact h'.2
  intro i j hi hj hij
  induction j with
  | zero => omega
  | succ j ih =>
    have hs : dotLt l[j].fD l[j + 1].fD = true := stepOk_lt hj (upOk_at hu hj)
    by_cases he : i = j
    · subst he; exact hs
    · exact dotLt_trans (ih (by omega) (by omega)) hs

theorem insAt_length {l : List MItem} {p : Nat} {it : MItem} (h : p ≤ l.length) : (insAt l p it).length = l.length + 1 := by simp [insAt]; omega
theorem insAt_lo {l : List MItem} {p j : Nat} {it : MItem} (h : p ≤ l.length) (hj : j < p) (h2 : j < (insAt l p it).length) : (insAt l p it)[j] = l[j]'(by omega) := by
  simp only [insAt] at h2 ⊢
  rw [List.getElem_append_left (by simp; omega)]
  simp
theorem insAt_mid {l : List MItem} {p : Nat} {it : MItem} (h : p ≤ l.length) (h2 : p < (insAt l p it).length) : (insAt l p it)[p] = it := by
  simp only [insAt] at h2 ⊢
  have hl : (l.take p).length = p := by simp; omega
  rw [List.getElem_append_right (by omega)]
  simp [hl]
theorem insAt_hi {l : List MItem} {p j : Nat} {it : MItem} (h : p ≤ l.length) (hj : p ≤ j) (hjl : j < l.length) (h2 : j + 1 < (insAt l p it).length) : (insAt l p it)[j + 1] = l[j] := by
  simp only [insAt] at h2 ⊢
  have hl : (l.take p).length = p := by simp; omega
  rw [List.getElem_append_right (by omega)]
  have e : j + 1 - (l.take p).length = (j - p) + 1 := by omega
  simp only [e, List.getElem_cons_succ, List.getElem_drop]
  congr 1
  omega

theorem ins_parts {l : List MItem} {p : Nat} {it : MItem} (hp : p ≤ l.length) (h : graphP ⟨insAt l p it⟩ = true) :
    (∀ j, (hj : j < l.length) → j < p → dotLt l[j].fD it.fD = true) ∧ ∀ j, (hj : j < l.length) → p ≤ j → dotLt it.fD l[j].fD = true := by
  have hu := graph_up h
  have hl := insAt_length (it := it) hp
  refine ⟨fun j hj hjp => ?_, fun j hj hjp => ?_⟩
  · have h1 := hu j p (by omega) (by omega) hjp
    rw [insAt_lo hp hjp, insAt_mid hp] at h1
    exact h1
  · have h1 := hu p (j + 1) (by omega) (by omega) (by omega)
    rw [insAt_mid hp, insAt_hi hp hjp hj] at h1
    exact h1

theorem firstGt_le (d : MDot) (l : List MItem) : firstGt d l ≤ l.length := by
  induction l with
  | nil => exact Nat.le_refl _
  | cons x r ih => unfold firstGt; split; exact Nat.zero_le _; simp; exact ih
theorem firstGt_lo {d : MDot} {l : List MItem} : ∀ j, (hj : j < l.length) → j < firstGt d l → dotLt d l[j].fD = false := by
  induction l with
  | nil => intro j hj; simp at hj
  | cons x r ih =>
    intro j hj hjf
    unfold firstGt at hjf
    split at hjf
    · omega
    · next hx =>
      cases j with
      | zero => exact Bool.eq_false_iff.2 hx
      | succ j => exact ih j (by simpa using hj) (by omega)
theorem firstGt_hit {d : MDot} {l : List MItem} (h : firstGt d l < l.length) : dotLt d l[firstGt d l].fD = true := by
  induction l with
  | nil => simp at h
  | cons x r ih =>
    by_cases hx : dotLt d x.fD = true
    · have e : firstGt d (x :: r) = 0 := by unfold firstGt; rw [if_pos hx]
      simp only [e, List.getElem_cons_zero]
      exact hx
    · have e : firstGt d (x :: r) = firstGt d r + 1 := by show (if dotLt d x.fD = true then 0 else firstGt d r + 1) = _; rw [if_neg hx]
      simp only [e, List.getElem_cons_succ]
      exact ih (by rw [e] at h; simpa using h)

theorem hasI_no {l : List MItem} {d : MDot} (h : ∀ j, (hj : j < l.length) → sameD l[j].fD d = false) : hasI l d = false := hasD_no (fun j hj => by simp at hj; simp; exact h j hj)
theorem hasI_yes {l : List MItem} {d : MDot} {k : Nat} (hk : k < l.length) (h : sameD l[k].fD d = true) : hasI l d = true := hasD_yes (k := k) (by simpa using hk) (by simpa using h)

theorem place_ok {m : MGraph} {it : MItem} {p : Nat} (hP : PlaceAt m.fItems it.fD p) : graphP ⟨insAt m.fItems p it⟩ = putOk m it ∧ (putOk m it = true → insAt m.fItems p it = insAt m.fItems (firstGt it.fD m.fItems) it) := by
  obtain ⟨l⟩ := m
  obtain ⟨hp, h1, h2⟩ := hP
  simp only at hp h1 h2 ⊢
  have hq := firstGt_le it.fD l
  by_cases hg : graphP ⟨insAt l p it⟩ = true
  · obtain ⟨a1, a2⟩ := ins_parts hp hg
    have hn : hasI l it.fD = false := hasI_no (fun j hj => by
      by_cases hjp : j < p
      · exact dotLt_ne (a1 j hj hjp)
      · rw [sameD_comm]; exact dotLt_ne (a2 j hj (by omega)))
    have he : firstGt it.fD l = p := by
      rcases Nat.lt_trichotomy (firstGt it.fD l) p with h | h | h
      · exact absurd (firstGt_hit (d := it.fD) (l := l) (by omega)) (fun g => dotLt_asym g (a1 _ (by omega) h))
      · exact h
      · have h3 := firstGt_lo (d := it.fD) (l := l) p (by omega) h
        rw [a2 p (by omega) (Nat.le_refl _)] at h3
        cases h3
    have hk : putOk ⟨l⟩ it = true := by unfold putOk; simp only [hn, he, hg]; rfl
    exact ⟨by rw [hg, hk], fun _ => by rw [he]⟩
  · have hk : putOk ⟨l⟩ it = false := by
      rw [Bool.eq_false_iff]
      intro hk
      have hk' : (!hasI l it.fD && graphP ⟨insAt l (firstGt it.fD l) it⟩) = true := hk
      rw [Bool.and_eq_true] at hk'
      obtain ⟨a1, a2⟩ := ins_parts hq hk'.2
      have he : firstGt it.fD l = p := by
        rcases Nat.lt_trichotomy (firstGt it.fD l) p with h | h | h
        · have h3 := h1 (p - 1) (by omega) (by omega)
          exact absurd h3 (fun g => dotLt_asym g (a2 (p - 1) (by omega) (by omega)))
        · exact h
        · have h3 := h2 (by omega)
          rw [a1 p (by omega) h] at h3
          cases h3
      rw [he] at hk'
      exact hg hk'.2
    exact ⟨by rw [hk]; exact Bool.eq_false_iff.2 hg, fun h => by rw [hk] at h; cases h⟩

end Go.Proofs.YtmigamgcmhdncaaDoor
