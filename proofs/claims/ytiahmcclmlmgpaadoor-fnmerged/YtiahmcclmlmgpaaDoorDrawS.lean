/-
  The draw of lists to be merged, and whether what is gone is dropped.
-/
import Derived.Test.YtiahmcclmlmgpaaDoorDrawR
import Derived.Test.YtiahmcclmlmgpaaDoorDrawZ
namespace Go.Proofs.YtiahmcclmlmgpaaDoor
open Go.RowKit Go.Maps
set_option linter.unusedVariables false
set_option linter.unusedSimpArgs false
set_option maxRecDepth 10000

theorem Tryd.infoPairs : (Tryd.prog.info? 27).map (fun i => (i.zero, i.size, i.bytes)) = some (some (.slice none 0 0), 1, 24) := by kernel_rfl

theorem LstD.base {W : World} {base base' : Nat} {v : Value} {ll : List (List MPair)} {vs : List Value} (h : LstD W base v ll vs) (hb : base' ≤ base) : LstD W base' v ll vs :=
  ⟨own_base h.1 hb, fun j h1 h2 => (h.2 j h1 h2).base hb⟩
theorem lst_none {W : World} {base : Nat} {v : Value} (h : W.ownsRow base 27 1 v 0 []) : LstD W base v [] [] := ⟨h, fun j h1 => absurd h1 (by simp)⟩
/-- What the draw answers. -/
def MergePost (w : World) (e : Ending) (w' : World) : Prop := ∃ (v : Value) (ll : List (List MPair)) (vs : List Value) (b : Bool), e = .returned (.tuple #[v, .bool b]) ∧ LstD w' w.heap.size v ll vs ∧ ll.length ≤ 11 ∧ Below w.heap.size w w'
/-- Within the draw. -/
def InM (w : World) (g B : Nat) (v : Value) (ll : List (List MPair)) (vs : List Value) (W : World) : Prop :=
  LstD W B v ll vs ∧ CurOk W g ∧ Below w.heap.size w W ∧ B ≤ W.heap.size
theorem InM.step {w W W' : World} {g B : Nat} {v : Value} {ll : List (List MPair)} {vs : List Value} (h : InM w g B v ll vs W) (hg : w.heap.size ≤ g) (hB : g < B) (hc : CurOk W' g) (hs : W.grownBy W' (some g)) : InM w g B v ll vs W' :=
  ⟨h.1.grown hs hB, hc, below_of_cur h.2.2.1 hg hs, Nat.le_trans h.2.2.2 hs.size⟩
theorem InM.under {w W W' : World} {g B : Nat} {v : Value} {ll : List (List MPair)} {vs : List Value} (h : InM w g B v ll vs W) (hb : Below W.heap.size W W') : InM w g B v ll vs W' :=
  ⟨h.1.under hb, h.2.1.below hb, bthen h.2.2.1 hb, Nat.le_trans h.2.2.2 hb.size⟩
theorem InM.append {w W W' : World} {g B : Nat} {v v' u : Value} {ll : List (List MPair)} {vs : List Value} {l : List MPair} (h : InM w g B v ll vs W) (hg : w.heap.size ≤ g) (hB : g < B) (hu : PairDrawn W B u l 101) (hgr : W.grownBy W' v.ownBlock) (ho : W'.ownsRow B 27 1 v' (ll.length + 1) (vs ++ [u])) : InM w g B v' (ll ++ [l]) (vs ++ [u]) W' :=
  ⟨h.1.append hu hgr ho, h.2.1.grown hgr (fun k hk => Nat.lt_of_lt_of_le hB (h.1.1.lt k hk).1), h.2.2.1.grown hgr h.2.2.1.size (fun k hk => by have := (h.1.1.lt k hk).1; omega), Nat.le_trans h.2.2.2 hgr.size⟩
theorem slice_one {u : Value} {W : World} {base most : Nat} {l : List MPair} (h : PairDrawn W base u l most) : ∀ x ∈ [u], x.oneCell' = true := by
  obtain ⟨a, c, rfl⟩ := pair_shape h
  intro x hx
  rw [List.mem_singleton.1 hx]; rfl

theorem pair_nil (W : World) (base : Nat) : PairDrawn W base (.slice none 0 0) [] 101 := ⟨⟨rfl, .inl ⟨rfl, rfl⟩⟩, fun x hx => absurd hx (by simp), by simp⟩
/-- Empty lists, made at once. -/
theorem InM.made {w W W' : World} {g B n : Nat} {v v' : Value} {ll : List (List MPair)} {vs : List Value} (h : InM w g B v ll vs W) (ho : W'.ownsRow B 27 1 v' n (List.replicate n (.slice none 0 0))) (hg : W.grownBy W' none) : InM w g B v' (List.replicate n []) (List.replicate n (.slice none 0 0)) W' :=
  ⟨⟨own_congr ho (by simp) rfl, fun j h1 h2 => by rw [List.getElem_replicate, List.getElem_replicate]; exact pair_nil _ _⟩, h.2.1.grown hg (fun k hk => by cases hk), h.2.2.1.grown hg h.2.2.1.size (fun k hk => by cases hk), Nat.le_trans h.2.2.2 hg.size⟩

theorem InM.spot0 {w W : World} {g B p n : Nat} (h : InM w g B (.slice (some ⟨p, 0, none⟩) (10 + n) (10 + n)) (List.replicate (10 + n) []) (List.replicate (10 + n) (.slice none 0 0)) W) : W.cell? ⟨p, 0, none⟩ = some (.slice none 0 0) ∧ W.frozen? ⟨p, 0, none⟩ = false ∧ p < W.heap.size := by
  have ho : W.ownsRow B 27 1 (.slice (some ⟨p, 0, none⟩) (10 + n) (10 + n)) (10 + n) (List.replicate (10 + n) (.slice none 0 0)) := own_congr h.1.1 (by simp) rfl
  refine ⟨?_, ?_, (ho.lt p rfl).2⟩
  · rw [ho.cellAt 0 (by omega), List.getElem?_replicate, if_pos (by omega)]
  · rcases ho.2 with ⟨h0, _⟩ | ⟨g', cap', cur, h0, hb, hg, _⟩
    · cases h0
    · simp only [Value.slice.injEq, Option.some.injEq, Addr.mk.injEq, and_true, true_and] at h0
      rw [← h0.1] at hg
      exact frozen_of_row W p 0 _ _ hg
/-- The first of empty lists is put. -/
theorem InM.put0 {w W : World} {g B p n : Nat} {u : Value} {l : List MPair} (h : InM w g B (.slice (some ⟨p, 0, none⟩) (10 + n) (10 + n)) (List.replicate (10 + n) []) (List.replicate (10 + n) (.slice none 0 0)) W) (hg : w.heap.size ≤ g) (hB : g < B) (hu : PairDrawn W B u l 101) :
    InM w g B (.slice (some ⟨p, 0, none⟩) (10 + n) (10 + n)) (l :: List.replicate (9 + n) []) (u :: List.replicate (9 + n) (.slice none 0 0)) (W.setCell ⟨p, 0, none⟩ u) := by
  have ho : W.ownsRow B 27 1 (.slice (some ⟨p, 0, none⟩) (10 + n) (10 + n)) (10 + n) (List.replicate (10 + n) (.slice none 0 0)) := own_congr h.1.1 (by simp) rfl
  have hp := (ho.lt p rfl).1
  have hs := own_setCells (o := 0) (news := [u]) ho (by simp; omega)
  have e0 : W.setCells p 0 [u] = W.setCell ⟨p, 0, none⟩ u := rfl
  have e1 : List.replicate (10 + n) (Value.slice none 0 0) = .slice none 0 0 :: List.replicate (9 + n) (.slice none 0 0) := by rw [show 10 + n = (9 + n) + 1 by omega, List.replicate_succ]
  rw [e0, e1] at hs
  have hne : (27 : Nat) ≠ 31 := by decide
  refine ⟨⟨own_congr hs (by simp; omega) (by simp), fun j h1 h2 => ?_⟩, h.2.1.setCell (by show g < p; omega) _, h.2.2.1.setCell (p := ⟨p, 0, none⟩) (by show w.heap.size ≤ p; omega) _, by have := (hs.lt p rfl).2; omega⟩
  cases j with
  | zero => exact ⟨own_of_block hu.1 (fun k hk => heap_setCell_other W ⟨p, 0, none⟩ k u (fun e => own_diff ho hu.1 hne k (by rw [show k = p from e]; rfl) hk)), hu.2⟩
  | succ j => rw [List.getElem_cons_succ, List.getElem_cons_succ, List.getElem_replicate, List.getElem_replicate]; exact pair_nil _ _

set_option maxHeartbeats 1000000 in
theorem drawMerge_ok (a : Option Addr) (n cap : Nat) (zs : List Int) (w : World) (hx : zs.length = n) (hlen : n ≤ 1048576) (hr : Rd .u8 w.heap.size w a zs) :
    Calls Tryd.prog 8 #[.slice a n cap] w fun e w' => MergePost w e w' := by
  obtain ⟨iS, hiS, hzS0, hzS1, hzS2⟩ := info_parts Tryd.infoPairs
  have HI : Hid (_ ∧ _ ∧ _ ∧ _) := ⟨hiS, hzS0, hzS1, hzS2⟩
  clear hiS hzS0 hzS1 hzS2
  go_enter Tryd.func8, Tryd.ntmps8
  go_wp2_with fail
  refine (l1New_any a n cap zs w hx (by omega) hr).mono ?_
  rintro e w1 ⟨rfl, hc1, hb1⟩
  obtain ⟨g, hg⟩ : ∃ g, g = w.heap.size := ⟨_, rfl⟩
  rw [← hg] at hc1 ⊢
  have hgw : w.heap.size ≤ g := by omega
  clear hg
  obtain ⟨B, HB⟩ : ∃ B, Hid (B = w1.heap.size) := ⟨_, Hid.mk rfl⟩
  have hgB : g < B := by have := hc1.lt; have := HB.out; omega
  obtain ⟨w2, hw2⟩ : ∃ x, x = w1.alloc (.cells #[] 27) := ⟨_, rfl⟩
  have hx2 : Below w1.heap.size w1 w2 := by rw [hw2]; exact (Below.refl _ _).alloc (Nat.le_refl _) _
  have hM2 : InM w g B (.slice (some ⟨B, 0, none⟩) 0 0) [] [] w2 := by
    refine ⟨lst_none ?_, hc1.below hx2, bthen hb1 hx2, by have := hx2.size; have := HB.out; omega⟩
    rw [hw2, HB.out]; exact own_lit1 w1 _ _ _ (Nat.le_refl _)
  have HM2 := Hid.mk hM2
  clear hM2 hc1 hb1 hx2
  go_wp2_with (rw [← hw2])
  rw [← HB.out]
  clear hw2 HB
  have hM2 := HM2.out
  clear HM2
  refine (l1Below_ok _ hM2.2.1).mono ?_
  rintro e w3 ⟨x, rfl, ⟨hx0, -, hx5, -⟩, hc3, hg3⟩
  have hx4 : x < 5 := hx5 (by omega)
  have hM3 := hM2.step hgw hgB hc3 hg3
  clear hM2 hc3 hg3 hx5
  have HM3 := Hid.mk hM3
  clear hM3
  go_wp2_with fail
  go_loopw [5, 6] (fun ov iv wr => ∃ (k : Nat) (ll : List (List MPair)) (vs : List Value), k + ll.length < 5 ∧ iv = .int .i64 k ∧ InM w g B ov ll vs wr) (fun _ iv _ => (intOf iv).toNat)
  case atStart => exact ⟨x.toNat, [], [], by simp; omega, by rw [Int.toNat_of_nonneg hx0], HM3.out⟩
  case round =>
    obtain ⟨k, ll, vs, hk, rfl, hM⟩ := hrel
    have HM := Hid.mk hM
    clear hM HM3
    by_cases h0 : 0 < k
    · go_wp2_with fail
      refine (l4List_ok 8 HM.out.2.1 (by omega)).mono ?_
      rintro e w4 ⟨u, l, rfl, hd4, hc4, hg4⟩
      have HM4 := Hid.mk (HM.out.step hgw hgB hc4 hg4)
      have HU4 := Hid.mk ((hd4.base HM.out.2.2.2).more (by omega : 100 ≤ 101))
      obtain ⟨au, cu, rfl⟩ := pair_shape hd4
      clear HM hd4 hc4 hg4
      obtain ⟨w5, hw5⟩ : ∃ q, q = w4.alloc (.cells #[.slice au l.length cu] 27) := ⟨_, rfl⟩
      have hx5 : Below w4.heap.size w4 w5 := by rw [hw5]; exact (Below.refl _ _).alloc (Nat.le_refl _) _
      have hbx5 : Bx w5 w4.heap.size [.slice au l.length cu] := by rw [hw5]; exact Bx.new _ _ _
      have HM5 := Hid.mk (HM4.out.under hx5)
      have HU5 := Hid.mk (HU4.out.under hx5)
      clear HM4 HU4 hx5
      go_wp2_with (at_builtin; rw [← hw5]; refine wpList_append_own_at _ rfl _ _ 24 rfl B 27 iS (.slice none 0 0) 1 24 Tryd.underlying24 HI.out.1 HI.out.2.1 HI.out.2.2.1 HI.out.2.2.2 rfl (by decide) _ _ _ rfl HM5.out.1.1 ⟨w4.heap.size, 0, none⟩ 1 1 [.slice au l.length cu] rfl rfl (bx_news hbx5) (slice_one HU5.out) (by unfold maxLen; omega) (by omega) HM5.out.2.2.2 ?_; intro v7 w7 hown7 hgrow7 hnil7 hloc7)
      have HM7 := Hid.mk (HM5.out.append hgw hgB HU5.out hgrow7 hown7)
      clear hown7 hgrow7 hnil7 hloc7 HM5 HU5 hw5 hbx5
      go_wp2_with fail
      go_roundw
      case rel => exact ⟨k - 1, ll ++ [l], vs ++ [.slice au l.length cu], by simp; omega, by go_num, HM7.out⟩
      case measure => simp [intOf]; omega
    · go_wp2_with fail
      refine (l1Once_ok 8 HM.out.2.1).mono ?_
      rintro e w4 ⟨b, rfl, hc4, hg4⟩
      have HM4 := Hid.mk (HM.out.step hgw hgB hc4 hg4)
      clear HM hc4 hg4
      cases b with
      | false =>
        go_wp2_with fail
        refine (l1Once_ok 30 HM4.out.2.1).mono ?_
        rintro e w6 ⟨b2, rfl, hc6, hg6⟩
        have HM6 := Hid.mk (HM4.out.step hgw hgB hc6 hg6)
        clear HM4 hc6 hg6
        cases b2 with
        | false =>
          go_wp2_with fail
          refine (l1Once_ok 2 HM6.out.2.1).mono ?_
          rintro e w9 ⟨b9, rfl, hc9, hg9⟩
          have HM9 := Hid.mk (HM6.out.step hgw hgB hc9 hg9)
          clear HM6 hc9 hg9
          go_wp2_with fail
          exact bodyPost_ret (v := .tuple #[u5, .bool b9]) (by simp [results, Tryd.results8, go_sem, *]) rfl (show MergePost w _ _ from ⟨_, ll, vs, b9, rfl, HM9.out.1.base (by omega), by omega, HM9.out.2.2.1⟩)
        | true =>
          go_wp2_with fail
          refine (l1Below_ok 2 HM6.out.2.1).mono ?_
          rintro e w7 ⟨x7, rfl, ⟨hy0, -, hy2, -⟩, hc7, hg7⟩
          have hy3 : x7 < 2 := hy2 (by omega)
          have HM7 := Hid.mk (HM6.out.step hgw hgB hc7 hg7)
          clear HM6 hc7 hg7 hy2
          obtain ⟨m, HME⟩ : ∃ m : Nat, Hid (x7 = (m : Int)) := ⟨x7.toNat, Hid.mk (by rw [Int.toNat_of_nonneg hy0])⟩
          have hm : m < 2 := by have := HME.out; omega
          rw [HME.out]
          clear HME hy0 hy3
          go_wp2_with (at_make; refine wpList_make_any _ rfl _ _ 24 rfl B 27 iS (.slice none 0 0) Tryd.underlying24 HI.out.1 HI.out.2.1 HI.out.2.2.1 rfl .i64 .i64 _ _ (10 + m) (10 + m) rfl rfl (by go_num) (by go_num) (Nat.le_refl _) (by rw [HI.out.2.2.2]; omega) (by unfold maxLen; omega) HM7.out.2.2.2 ?_; intro w8 hown8 hgr8)
          have HM8 := Hid.mk (HM7.out.made hown8 hgr8)
          clear hown8 hgr8
          go_wp2_with fail
          refine (l4List_ok 5 HM8.out.2.1 (by omega)).mono ?_
          rintro e wa ⟨u, l, rfl, hda, hca, hga⟩
          have HMA := Hid.mk (HM8.out.step hgw hgB hca hga)
          obtain ⟨au0, cu0, rfl⟩ := pair_shape hda
          have HMB := Hid.mk (HMA.out.put0 hgw hgB ((hda.base HM8.out.2.2.2).more (by omega : 100 ≤ 101)))
          obtain ⟨rc, rf, rl⟩ := HMA.out.spot0
          clear HM8 HM7 HMA hda hca hga
          obtain ⟨p, HPE⟩ : ∃ p, Hid (p = w7.heap.size) := ⟨_, Hid.mk rfl⟩
          rw [← HPE.out] at HMB rc rf rl ⊢
          clear HPE
          have hlt0 : (0 : Int) < 10 + (m : Int) := by omega
          go_wp2_with fail
          refine (l1Once_ok 2 HMB.out.2.1).mono ?_
          rintro e w9 ⟨b9, rfl, hc9, hg9⟩
          have HM9 := Hid.mk (HMB.out.step hgw hgB hc9 hg9)
          clear HMB hc9 hg9
          go_wp2_with fail
          exact bodyPost_ret (v := .tuple #[.slice (some ⟨p, 0, none⟩) (10 + m) (10 + m), .bool b9]) (by simp [results, Tryd.results8, go_sem, *]) rfl (show MergePost w _ _ from ⟨_, l :: List.replicate (9 + m) [], _, b9, rfl, HM9.out.1.base (by omega), by simp; omega, HM9.out.2.2.1⟩)
      | true =>
        go_wp2_with fail
        refine (l4ListAny_ok 8 HM4.out.2.1 (by omega)).mono ?_
        rintro e wb ⟨u, l, rfl, hdb, hcb, hgb⟩
        have HMb := Hid.mk (HM4.out.step hgw hgB hcb hgb)
        have HUb := Hid.mk (hdb.base HM4.out.2.2.2)
        obtain ⟨au, cu, rfl⟩ := pair_shape hdb
        clear HM4 hdb hcb hgb
        obtain ⟨wc, hwc⟩ : ∃ q, q = wb.alloc (.cells #[.slice au l.length cu] 27) := ⟨_, rfl⟩
        have hxc : Below wb.heap.size wb wc := by rw [hwc]; exact (Below.refl _ _).alloc (Nat.le_refl _) _
        have hbxc : Bx wc wb.heap.size [.slice au l.length cu] := by rw [hwc]; exact Bx.new _ _ _
        have HMc := Hid.mk (HMb.out.under hxc)
        have HUc := Hid.mk (HUb.out.under hxc)
        clear HMb HUb hxc
        go_wp2_with (at_builtin; rw [← hwc]; refine wpList_append_own_at _ rfl _ _ 24 rfl B 27 iS (.slice none 0 0) 1 24 Tryd.underlying24 HI.out.1 HI.out.2.1 HI.out.2.2.1 HI.out.2.2.2 rfl (by decide) _ _ _ rfl HMc.out.1.1 ⟨wb.heap.size, 0, none⟩ 1 1 [.slice au l.length cu] rfl rfl (bx_news hbxc) (slice_one HUc.out) (by unfold maxLen; omega) (by omega) HMc.out.2.2.2 ?_; intro vd wd hownd hgrowd hnild hlocd)
        have HMd := Hid.mk (HMc.out.append hgw hgB HUc.out hgrowd hownd)
        clear hownd hgrowd hnild hlocd HMc HUc hwc hbxc
        go_wp2_with fail
        refine (l1Once_ok 30 HMd.out.2.1).mono ?_
        rintro e w6 ⟨b2, rfl, hc6, hg6⟩
        have HM6 := Hid.mk (HMd.out.step hgw hgB hc6 hg6)
        clear HMd hc6 hg6
        cases b2 with
        | false =>
          go_wp2_with fail
          refine (l1Once_ok 2 HM6.out.2.1).mono ?_
          rintro e w9 ⟨b9, rfl, hc9, hg9⟩
          have HM9 := Hid.mk (HM6.out.step hgw hgB hc9 hg9)
          clear HM6 hc9 hg9
          go_wp2_with fail
          exact bodyPost_ret (v := .tuple #[vd, .bool b9]) (by simp [results, Tryd.results8, go_sem, *]) rfl (show MergePost w _ _ from ⟨_, ll ++ [l], vs ++ [.slice au l.length cu], b9, rfl, HM9.out.1.base (by omega), by simp; omega, HM9.out.2.2.1⟩)
        | true =>
          go_wp2_with fail
          refine (l1Below_ok 2 HM6.out.2.1).mono ?_
          rintro e w7 ⟨x7, rfl, ⟨hy0, -, hy2, -⟩, hc7, hg7⟩
          have hy3 : x7 < 2 := hy2 (by omega)
          have HM7 := Hid.mk (HM6.out.step hgw hgB hc7 hg7)
          clear HM6 hc7 hg7 hy2
          obtain ⟨m, HME⟩ : ∃ m : Nat, Hid (x7 = (m : Int)) := ⟨x7.toNat, Hid.mk (by rw [Int.toNat_of_nonneg hy0])⟩
          have hm : m < 2 := by have := HME.out; omega
          rw [HME.out]
          clear HME hy0 hy3
          go_wp2_with (at_make; refine wpList_make_any _ rfl _ _ 24 rfl B 27 iS (.slice none 0 0) Tryd.underlying24 HI.out.1 HI.out.2.1 HI.out.2.2.1 rfl .i64 .i64 _ _ (10 + m) (10 + m) rfl rfl (by go_num) (by go_num) (Nat.le_refl _) (by rw [HI.out.2.2.2]; omega) (by unfold maxLen; omega) HM7.out.2.2.2 ?_; intro w8 hown8 hgr8)
          have HM8 := Hid.mk (HM7.out.made hown8 hgr8)
          clear hown8 hgr8
          go_wp2_with fail
          refine (l4List_ok 5 HM8.out.2.1 (by omega)).mono ?_
          rintro e wa ⟨u, l, rfl, hda, hca, hga⟩
          have HMA := Hid.mk (HM8.out.step hgw hgB hca hga)
          obtain ⟨au0, cu0, rfl⟩ := pair_shape hda
          have HMB := Hid.mk (HMA.out.put0 hgw hgB ((hda.base HM8.out.2.2.2).more (by omega : 100 ≤ 101)))
          obtain ⟨rc, rf, rl⟩ := HMA.out.spot0
          clear HM8 HM7 HMA hda hca hga
          obtain ⟨p, HPE⟩ : ∃ p, Hid (p = w7.heap.size) := ⟨_, Hid.mk rfl⟩
          rw [← HPE.out] at HMB rc rf rl ⊢
          clear HPE
          have hlt0 : (0 : Int) < 10 + (m : Int) := by omega
          go_wp2_with fail
          refine (l1Once_ok 2 HMB.out.2.1).mono ?_
          rintro e w9 ⟨b9, rfl, hc9, hg9⟩
          have HM9 := Hid.mk (HMB.out.step hgw hgB hc9 hg9)
          clear HMB hc9 hg9
          go_wp2_with fail
          exact bodyPost_ret (v := .tuple #[.slice (some ⟨p, 0, none⟩) (10 + m) (10 + m), .bool b9]) (by simp [results, Tryd.results8, go_sem, *]) rfl (show MergePost w _ _ from ⟨_, l :: List.replicate (9 + m) [], _, b9, rfl, HM9.out.1.base (by omega), by simp; omega, HM9.out.2.2.1⟩)

end Go.Proofs.YtiahmcclmlmgpaaDoor
