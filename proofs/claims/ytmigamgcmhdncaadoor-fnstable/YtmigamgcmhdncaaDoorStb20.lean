/-
  Part 21 of the texts that the proof leans on.
-/
import Derived.Test.YtmigamgcmhdncaaDoorStb13
import Derived.Test.YtmigamgcmhdncaaDoorStb0
import Derived.Test.YtmigamgcmhdncaaDoorStb16
import Derived.Test.YtmigamgcmhdncaaDoorStb9
import Derived.Lib.SliceRun
set_option linter.unusedVariables false
set_option linter.unusedSimpArgs false
set_option maxRecDepth 10000

namespace Go.Proofs.YtmigamgcmhdncaaDoor
open Go.RowKit

set_option maxHeartbeats 4000000 in
theorem dotsAt_any (cs : List Value) (m : MGraph) (s : MSet) (w : World) (hr : rGraph w.heap.size w cs m) (hs : s.ok) (hn : m.fItems.length ≤ 100) :
    Calls Tryd.prog 38 #[.agg cs.toArray, .agg s.cells.toArray] w fun e w' => ∃ v : Value, e = .returned v ∧ RowR 2 40 rDot w.heap.size w' w.heap.size v (pickT s.has m.fItems m.fItems.length) ∧ Below w.heap.size w w' := by
  obtain ⟨iD, hiD, hzD0, hzD1, hzD2⟩ := info_parts Tryd.infoOfDot
  obtain ⟨a, cap, rfl, hL, _⟩ := hr
  have HL := Hid.mk hL
  obtain ⟨n, hx⟩ : ∃ n, n = m.fItems.length := ⟨_, rfl⟩
  rw [← hx] at hn ⊢
  have HX := Hid.mk hx
  have HSK := Hid.mk hs
  clear hL hx hs
  obtain ⟨X0, hX0⟩ : ∃ x : Nat, x = s.x0 := ⟨_, rfl⟩
  obtain ⟨X1, hX1⟩ : ∃ x : Nat, x = s.x1 := ⟨_, rfl⟩
  have HSC : Hid (s.cells.toArray = #[.int .u64 (X0 : Int), .int .u64 (X1 : Int)]) := by unfold Hid MSet.cells; rw [hX0, hX1]
  clear hX0 hX1
  rw [HSC.out]
  have hCh := fun (k : Nat) (hk : k < 128) (W : World) => has_any s k W HSK.out hk
  rw [HSC.out] at hCh
  go_enter Tryd.func38, Tryd.ntmps38
  go_wp2_with fail
  obtain ⟨w1, hw1⟩ : ∃ x, x = (w.alloc (.cells #[.slice a n cap] 30)).alloc (.cells #[.int .u64 (X0 : Int), .int .u64 (X1 : Int)] 66) := ⟨_, rfl⟩
  have hb01 : Below w.heap.size w w1 := by rw [hw1]; exact ((Below.refl _ _).alloc (Nat.le_refl _) _).alloc (by simp) _
  have hbs1 : Bx w1 (w.heap.size + 1) [.int .u64 (X0 : Int), .int .u64 (X1 : Int)] := by rw [hw1]; have h := Bx.new (w.alloc (.cells #[.slice a n cap] 30)) [.int .u64 (X0 : Int), .int .u64 (X1 : Int)] 66; simpa using h
  have hs1 : w.heap.size + 2 ≤ w1.heap.size := by rw [hw1]; simp
  rw [← hw1]
  clear hw1
  have HR0 : Hid (RowR 2 40 rDot w.heap.size w1 (w.heap.size + 2) (.slice none 0 0) (pickT s.has m.fItems 0)) := RowR.start
  go_loopw [5, 11] (fun v iv wr => ∃ k : Nat, k ≤ n ∧ iv = .int .i64 k ∧ Hid (RowR 2 40 rDot w.heap.size wr (w.heap.size + 2) v (pickT s.has m.fItems k)) ∧ Below (w.heap.size + 2) w1 wr) (fun _ iv _ => n - (intOf iv).toNat)
  case atStart => exact ⟨0, Nat.zero_le _, rfl, HR0, Below.refl _ _⟩
  case round =>
    obtain ⟨k, hk, rfl, HRk, hbk⟩ := hrel
    have hbw : Below w.heap.size w wr := hb01.trans (hbk.mono (by omega))
    have hbs := hbs1.below hbk (by omega)
    have hzk : w.heap.size + 2 ≤ wr.heap.size := Nat.le_trans hs1 hbk.size
    by_cases hlt : k < n
    · have hkl : k < m.fItems.length := by rw [← HX.out]; exact hlt
      obtain ⟨b1, o1, rfl, hB, cs, hcl, hcell, a2, c2, rfl, g0, g1, g2, _⟩ := (HL.out.2.2.below rItem_good hbw) k hkl
      have k0 := hcell 0 _ rfl
      have k1 := hcell 1 _ rfl
      have k2 := hcell 2 _ rfl
      rw [Nat.add_zero] at k0
      have hpl := pickT_len s.has m.fItems k
      have HPY : Hid (s.has k = true → pickT s.has m.fItems (k + 1) = pickT s.has m.fItems k ++ [m.fItems[k].fD]) := fun h => pickT_yes hkl h
      have HPN : Hid (s.has k = false → pickT s.has m.fItems (k + 1) = pickT s.has m.fItems k) := fun h => pickT_no h
      have hC := hCh k (by omega)
      clear hcell hcl g2
      generalize m.fItems[k] = x at *
      generalize hpk : pickT s.has m.fItems k = pl at *
      clear hpk
      obtain ⟨wp, hwp⟩ : ∃ y, y = wr.alloc (.cells #[.int .i64 x.fD.fR, .int .i64 x.fD.fN, .slice a2 x.fDeps.length c2] 52) := ⟨_, rfl⟩
      have hbp : Below wr.heap.size wr wp := by rw [hwp]; exact (Below.refl _ _).alloc (Nat.le_refl _) _
      have hbxp : Bx wp wr.heap.size [.int .i64 x.fD.fR, .int .i64 x.fD.fN, .slice a2 x.fDeps.length c2] := by rw [hwp]; exact Bx.new _ _ _
      have j0 := hbs.2 0 _ rfl
      have j1 := hbs.2 1 _ rfl
      have hjl : w.heap.size + 1 < wr.heap.size := hbs.1
      go_wp2_with fail
      rw [← hwp]
      clear hwp
      refine (hC wp).mono ?_
      rintro e w3 ⟨rfl, hx3⟩
      have hb3 := bthen hbp hx3
      have hbx3 := hbxp.under hx3
      have d0 := hbx3.2 0 _ rfl
      have d1 := hbx3.2 1 _ rfl
      have hz3 := hb3.size
      rcases hsk : s.has k with _ | _
      · have HP := Hid.mk (HPN.out hsk)
        have HRn := Hid.mk (RowR.keep rDot_good HRk.out hb3 (by omega))
        rw [← HP.out] at HRn
        go_wp2_with fail
        go_roundw
        case rel => exact ⟨k + 1, by omega, by go_num, HRn, hbk.trans (hb3.mono hzk)⟩
        case measure => simp [intOf]; omega
      · have HP := Hid.mk (HPY.out hsk)
        obtain ⟨css, r1, r2, r3, r4⟩ := RowR.keep rDot_good HRk.out hb3 (by omega)
        have HR1 := Hid.mk r1
        have HR2 := Hid.mk r2
        have HR3 := Hid.mk r3
        clear r1 r2 r3
        generalize x.fD = d at *
        obtain ⟨w5, hw5⟩ : ∃ y, y = w3.alloc (.cells #[.int .i64 d.fR, .int .i64 d.fN] 40) := ⟨_, rfl⟩
        have hb5 : Below w3.heap.size w3 w5 := by rw [hw5]; exact (Below.refl _ _).alloc (Nat.le_refl _) _
        have hbx5 : Bx w5 w3.heap.size [.int .i64 d.fR, .int .i64 d.fN] := by rw [hw5]; exact Bx.new _ _ _
        have r5 := own_below r4 hb5
        have hz5 := hb5.size
        go_wp2_with (at_builtin; rw [← hw5]; refine wpList_append_src_y rfl _ _ 26 26 rfl (w.heap.size + 2) 40 iD (.agg #[.int .i64 0, .int .i64 0]) 2 16 Tryd.underlying26 hiD hzD0 hzD1 hzD2 rfl _ _ _ rfl r5 _ rfl 1 [.int .i64 d.fR, .int .i64 d.fN] (Src.ofSlice w5 Tryd.underlying26 ⟨w3.heap.size, 0, none⟩ 1 1 _ rfl (bx_news hbx5) (by intro u hu; simp at hu; rcases hu with rfl | rfl <;> rfl)) (by unfold maxLen; omega) (by omega) (by omega) ?_; intro v6 w6 ho6 hgr6 hat6)
        have hT : Below (w.heap.size + 2) w3 w6 := (hb5.mono (by omega)).grown hgr6 (by omega) (fun x hx => (r4.lt x hx).1)
        have HRn : Hid (RowR 2 40 rDot w.heap.size w6 (w.heap.size + 2) v6 (pl ++ [d])) := RowR.push rDot_good HR1.out HR2.out HR3.out (hT.mono (by omega)) rfl ⟨rfl, g0, g1, trivial⟩ ho6
        rw [← HP.out] at HRn
        exact ⟨⟨k + 1, by omega, by go_num, HRn, (hbk.trans (hb3.mono hzk)).trans hT⟩, by simp [intOf]; omega⟩
    · have hkn : k = n := by omega
      subst hkn
      have HRb := Hid.mk (RowR.base HRk.out (show w.heap.size ≤ w.heap.size + 2 by omega))
      go_wp2_with fail
      go_ret
      exact ⟨_, rfl, HRb.out, hbw⟩

abbrev qc6f_37_12_0 : Oper := ⟨some 35, .move (.tmp 4), 62, "l08_graph.go:163", #[], none⟩
abbrev qc6f_37_12_1 : Oper := ⟨some 36, .load 66 (.tmp 8), 66, "l08_graph.go:163", #[], none⟩
abbrev qc6f_37_12_2 : Oper := ⟨some 37, .load 66 (.tmp 7), 66, "l08_graph.go:163", #[], none⟩
abbrev qc6f_37_12_3 : Oper := ⟨some 38, .load 66 (.tmp 8), 66, "l08_graph.go:163", #[], none⟩
abbrev qc6f_37_12_4 : Oper := ⟨some 39, .call { callee := .value (.func 50), args := #[.tmp 37, .tmp 38], argTypes := #[66, 66] }, 66, "l08_graph.go:163", #[⟨2, .data⟩, ⟨3, .data⟩], none⟩
abbrev qc6f_37_12_5 : Oper := ⟨some 40, .build 68 #[(0, .tmp 36), (1, .tmp 39)], 68, "l08_graph.go:163", #[⟨1, .data⟩, ⟨4, .data⟩], none⟩
abbrev qc6f_37_12_6 : Oper := ⟨some 41, .buildSlice 62 1 #[(0, .tmp 40)], 62, "l08_graph.go:163", #[⟨5, .data⟩], none⟩
abbrev qc6f_37_12_7 : Oper := ⟨some 42, .call { callee := .builtin .append, args := #[.tmp 35, .tmp 41], argTypes := #[62, 62] }, 62, "l08_graph.go:163", #[⟨0, .data⟩, ⟨6, .data⟩, ⟨4, .chain⟩], none⟩
abbrev qc6f_37_12_8 : Oper := ⟨some 4, .assign (.tmp 42), 62, "l08_graph.go:163", #[⟨7, .data⟩, ⟨7, .chain⟩, ⟨0, .phase⟩, ⟨1, .phase⟩, ⟨2, .phase⟩, ⟨3, .phase⟩, ⟨4, .phase⟩, ⟨5, .phase⟩, ⟨6, .phase⟩, ⟨7, .phase⟩], none⟩

theorem Tryd.infoOfGroup : (Tryd.prog.info? 68).map (fun i => (i.zero, i.size, i.bytes)) = some (some (.agg #[.int .u64 0, .int .u64 0, .int .u64 0, .int .u64 0]), 4, 32) := by kernel_rfl
/-- What groupsOf answers. -/
def GroupsL (m : MGraph) (gs : List MGrp) : Prop := (graphP m = false ∧ gs = []) ∨ (graphP m = true ∧ ∃ ps, GroupsOk m.fItems m.fItems.length ps gs)
theorem bw_grown {w w' : World} {b : Nat} {t : TypeId} {vs : List Value} {r : Option Nat} (h : Bw w b t vs) (hg : w.grownBy w' r) (hr : r ≠ some b) : Bw w' b t vs := (hg.block b h.lt (fun e => hr e.symm)).trans h

theorem bx_grown {w w' : World} {b : Nat} {vs : List Value} {r : Option Nat} (h : Bx w b vs) (hg : w.grownBy w' r) (hr : r ≠ some b) : Bx w' b vs :=
  ⟨Nat.lt_of_lt_of_le h.1 hg.size, fun i u hu => (World.cell?_of_block (w := w) (a := ⟨b, i, none⟩) (hg.block b h.1 (fun e => hr e.symm))).trans (h.2 i u hu)⟩
theorem asc_len' : ∀ {ps : List Nat} {k lo : Nat}, ps.Pairwise (· < ·) → (∀ p, p ∈ ps → lo ≤ p ∧ p < k) → ps.length ≤ k - lo
  | [], _, _, _, _ => by simp
  | a :: r, k, lo, h, hk => by
    rw [List.pairwise_cons] at h
    have ha := hk a (by simp)
    have ih := asc_len' (ps := r) (k := k) (lo := a + 1) h.2 (fun p hp => ⟨h.1 p hp, (hk p (by simp [hp])).2⟩)
    simp only [List.length_cons]
    omega
theorem asc_len {ps : List Nat} {k : Nat} (h : ps.Pairwise (· < ·)) (hk : ∀ p, p ∈ ps → p < k) : ps.length ≤ k := by
  have := asc_len' (lo := 0) h (fun p hp => ⟨Nat.zero_le _, hk p hp⟩)
  omega

set_option maxHeartbeats 8000000 in
theorem groupsOf_any (cs : List Value) (m : MGraph) (w : World) (hr : rGraph w.heap.size w cs m) (hw : wGraph m ≤ 1048576) (hT : TzAt w) :
    Calls Tryd.prog 37 #[.agg cs.toArray] w fun e w' => ∃ (v : Value) (gs : List MGrp), e = .returned v ∧ GroupsL m gs ∧ RowR 4 68 rGrp w.heap.size w' w.heap.size v gs ∧ Below w.heap.size w w' := by
  obtain ⟨iG, hiG, hzG0, hzG1, hzG2⟩ := info_parts Tryd.infoOfGroup
  have HRG := Hid.mk hr
  have HWG := Hid.mk hw
  have HTZ := Hid.mk hT
  obtain ⟨a, cap, rfl, hL, _⟩ := hr
  have HL := Hid.mk hL
  obtain ⟨n, hx⟩ : ∃ n, n = m.fItems.length := ⟨_, rfl⟩
  rw [← hx] at HRG ⊢
  have HX := Hid.mk hx
  clear hL hx hw hT
  go_enter Tryd.func37, Tryd.ntmps37
  go_wp2_with fail
  obtain ⟨w1, hw1⟩ : ∃ x, x = w.alloc (.cells #[.slice a n cap] 30) := ⟨_, rfl⟩
  have hb01 : Below w.heap.size w w1 := by rw [hw1]; exact (Below.refl _ _).alloc (Nat.le_refl _) _
  have hbx1 : Bx w1 w.heap.size [.slice a n cap] := by rw [hw1]; exact Bx.new _ _ _
  rw [← hw1]
  clear hw1
  refine (implGraphOk_c [.slice a n cap] m w1 (rGraph_good.mono (rGraph_good.below HRG.out hb01) hb01.size) HWG.out).mono ?_
  rintro e w2 ⟨rfl, hx2⟩
  have hb02 := bthen hb01 hx2
  have hbx2 := hbx1.under hx2
  have v0 := hbx2.2 0 _ rfl
  rcases hgo : graphP m with _ | _
  · have HV : Hid (GroupsL m []) := .inl ⟨hgo, rfl⟩
    clear hgo
    go_wp2_with fail
    go_ret
    exact ⟨_, [], rfl, HV.out, RowR.start, hb02⟩
  have HGO : Hid (graphP ⟨m.fItems⟩ = true) := hgo
  have hn : n ≤ 100 := by
    have h' : (decide (m.fItems.length ≤ 100) && upOk itemP itemLt m.fItems) = true := hgo
    rw [Bool.and_eq_true] at h'
    rw [HX.out]
    exact of_decide_eq_true h'.1
  clear hgo
  obtain ⟨l, hl⟩ : ∃ l, l = m.fItems := ⟨_, rfl⟩
  have HLM := Hid.mk hl
  rw [← hl] at HL HX HGO
  clear hl
  go_wp2_with fail
  refine (stepsOf_any a n cap l w2 HX.out.symm HGO.out ((HL.out.below rItem_good hb02).mono rItem_good hb02.size)).mono ?_
  rintro e w3 ⟨ss, rfl, hS, hx3⟩
  have hb03 := bthen hb02 hx3
  go_wp2_with fail
  refine (reachOf_any w2.heap.size n l ss w3 HX.out.symm hn hS (HTZ.out.below hb03)).mono ?_
  rintro e w4 ⟨rs, rfl, hR, hx4⟩
  have hb04 := bthen hb03 hx4
  have HRr := Hid.mk hR
  clear v0 hS hR hbx1 hbx2
  have hz34 : w.heap.size ≤ w3.heap.size := hb03.size
  have hz4 : w3.heap.size < w4.heap.size := HRr.out.row.lt
  go_wp2_with fail
  obtain ⟨w5, hw5⟩ : ∃ x, x = w4.alloc (.cells #[.int .u64 0, .int .u64 0] 66) := ⟨_, rfl⟩
  have hb45 : Below w4.heap.size w4 w5 := by rw [hw5]; exact (Below.refl _ _).alloc (Nat.le_refl _) _
  have hb05 := bthen hb04 hb45
  have HG0 : Hid (Bw w5 w4.heap.size 66 (MSet.cells ⟨0, 0⟩)) := by unfold Hid; rw [hw5]; exact Bw.new _ _ _
  have HS0 : Hid (Bw w5 w3.heap.size 66 (flatS rs)) := HRr.out.row.under hb45
  have hz5 : w5.heap.size = w4.heap.size + 1 := by rw [hw5]; simp
  have HZ5 : Hid (w5.heap.size ≤ w4.heap.size + 1 ∧ w4.heap.size + 1 ≤ w5.heap.size) := ⟨by omega, by omega⟩
  rw [← hw5]
  clear hw5 hz5
  go_loopw [4, 18] (fun v iv wr => ∃ (k : Nat) (ps : List Nat) (gs : List MGrp) (s : MSet), k ≤ n ∧ iv = .int .i64 k ∧ Hid (RowR 4 68 rGrp w.heap.size wr (w4.heap.size + 1) v gs) ∧ Hid (GroupsSt l k ps gs s) ∧ Hid (Bw wr w4.heap.size 66 s.cells ∧ Bw wr w3.heap.size 66 (flatS rs) ∧ w4.heap.size + 1 ≤ wr.heap.size) ∧ Below w.heap.size w wr) (fun _ iv _ => n - (intOf iv).toNat)
  case atStart => exact ⟨0, [], [], ⟨0, 0⟩, Nat.zero_le _, rfl, Hid.mk RowR.start, GroupsSt.start l, ⟨HG0.out, HS0.out, HZ5.out.2⟩, hb05⟩
  case round =>
    obtain ⟨k, ps, gs, s, hk, rfl, HRk, HSk, HBk, hbk⟩ := hrel
    by_cases hlt : k < n
    · have hkr : k < rs.length := by rw [HRr.out.len]; exact hlt
      have c0 := HBk.out.2.1.cell (k * 2) _ (flatS_at0 hkr)
      have c1 := HBk.out.2.1.cell (k * 2 + 1) _ (flatS_at1 hkr)
      have HRO := Hid.mk (HRr.out.did k hkr hlt)
      obtain ⟨r, hr⟩ : ∃ r, ∃ hk : k < rs.length, rs[k] = r := ⟨_, hkr, rfl⟩
      have hre : rs[k] = r := hr.2
      rw [hre] at c0 c1 HRO
      have HRK := Hid.mk hr
      clear hr hre
      have s0 := HBk.out.1.cell 0 _ rfl
      have s1 := HBk.out.1.cell 1 _ rfl
      have hzr : w4.heap.size + 1 ≤ wr.heap.size := HBk.out.2.2
      have hk1 : (0 : Int) ≤ (k : Int) := by omega
      have hk2 : (k : Int) < (n : Int) := by omega
      obtain ⟨wp, hwp⟩ : ∃ y, y = wr.alloc (.cells #[.int .u64 (r.x0 : Int), .int .u64 (r.x1 : Int)] 66) := ⟨_, rfl⟩
      have hbp : Below wr.heap.size wr wp := by rw [hwp]; exact (Below.refl _ _).alloc (Nat.le_refl _) _
      have hbxp : Bx wp wr.heap.size [.int .u64 (r.x0 : Int), .int .u64 (r.x1 : Int)] := by rw [hwp]; exact Bx.new _ _ _
      have HLD := Hid.mk (HSk.out.lead (k := k) (by omega))
      have HUB : Hid (∀ b, u4.ownBlock = some b → b < wr.heap.size) := fun b hb => (RowR.lt HRk.out b hb).2
      have hz68 : Hid (wr.heap.size ≤ wp.heap.size) := hbp.size
      have s2 := (hbp.cell (p := ⟨w4.heap.size, 0, none⟩) (by show w4.heap.size < _; omega)).trans s0
      have s3 := (hbp.cell (p := ⟨w4.heap.size, 1, none⟩) (by show w4.heap.size < _; omega)).trans s1
      rw [hwp] at s2 s3
      go_wp2_with fail
      rw [← hwp]
      clear hwp s0 s1 s2 s3 c0 c1
      refine (has_any s k wp HSk.out.ok (by omega)).mono ?_
      rintro e w6 ⟨rfl, hx6⟩
      have hb6 := bthen hbp hx6
      have hbx6 := hbxp.under hx6
      have hbw6 : Below w.heap.size w w6 := hbk.trans (hb6.mono hbk.size)
      have HB6 : Hid (Bw w6 w4.heap.size 66 s.cells ∧ Bw w6 w3.heap.size 66 (flatS rs) ∧ w4.heap.size + 1 ≤ w6.heap.size) := ⟨HBk.out.1.under hb6, HBk.out.2.1.under hb6, by have := hb6.size; omega⟩
      have HR6 := Hid.mk (RowR.keep rGrp_good HRk.out hb6 hbk.size)
      have z0 := hbx6.2 0 _ rfl
      have z1 := hbx6.2 1 _ rfl
      clear HBk HRk hx6 hb6 hbk hbp
      rcases hsk : s.has k with _ | _
      rotate_left
      · have HSn := Hid.mk (HSk.out.skip (HLD.out.1 hsk))
        clear hsk
        go_wp2_with fail
        go_roundw
        case rel => exact ⟨k + 1, ps, gs, s, by omega, by go_num, HR6, HSn, HB6, hbw6⟩
        case measure => simp [intOf]; omega
      have HLN := Hid.mk (HLD.out.2 hsk)
      clear hsk HLD
      go_wp2_with fail
      refine (has_any r 100 w6 HRO.out.ok (by omega)).mono ?_
      rintro e w7 ⟨rfl, hx7⟩
      have hbw7 : Below w.heap.size w w7 := hbw6.trans (hx7.mono hbw6.size)
      have hbx7 := hbx6.under hx7
      have HB7 : Hid (Bw w7 w4.heap.size 66 s.cells ∧ Bw w7 w3.heap.size 66 (flatS rs) ∧ w4.heap.size + 1 ≤ w7.heap.size) := ⟨HB6.out.1.under hx7, HB6.out.2.1.under hx7, by have := hx7.size; have := HB6.out.2.2; omega⟩
      have HR7 := Hid.mk (RowR.keep rGrp_good HR6.out hx7 hbw6.size)
      clear HB6 HR6 hx7 hbw6 z0 z1
      rcases hrk : r.has 100 with _ | _
      rotate_left
      · have HSn := Hid.mk (HSk.out.skip (fun hl => (HRO.out.out.1 hrk) hl.1))
        clear hrk
        go_wp2_with fail
        go_roundw
        case rel => exact ⟨k + 1, ps, gs, s, by omega, by go_num, HR7, HSn, HB7, hbw7⟩
        case measure => simp [intOf]; omega
      have HWH : Hid (wholeAt l k) := by
        apply Classical.byContradiction
        intro h
        have := HRO.out.out.2 h
        rw [hrk] at this; cases this
      have HLK := Hid.mk (HLN.out HWH.out)
      clear hrk HLN
      go_wp2_with fail
      refine (ringOf_any (some ⟨w3.heap.size, 0, none⟩) n n k rs w7 HRr.out.len hn hlt (leaf_flat HB7.out.2.1 (fun i hi => (HRr.out.did i hi (by rw [← HRr.out.len]; exact hi)).ok) (by have := HB7.out.2.2; omega) (by rw [HRr.out.len]; exact Nat.le_refl _) (by omega))).mono ?_
      rintro e w8 ⟨sr, rfl, hsr, hsh, hx8⟩
      have hbw8 : Below w.heap.size w w8 := hbw7.trans (hx8.mono hbw7.size)
      have hbx8 := hbx7.under hx8
      have HB8 : Hid (Bw w8 w4.heap.size 66 s.cells ∧ Bw w8 w3.heap.size 66 (flatS rs) ∧ w4.heap.size + 1 ≤ w8.heap.size) := ⟨HB7.out.1.under hx8, HB7.out.2.1.under hx8, by have := hx8.size; have := HB7.out.2.2; omega⟩
      have HR8 := Hid.mk (RowR.keep rGrp_good HR7.out hx8 hbw7.size)
      have HGK : Hid (GrpOk l k ⟨sr, r.less sr⟩) := grp_ok HX.out.symm hn HRr.out.len (fun i hi => HRr.out.did i hi (by rw [← HRr.out.len]; exact hi)) hlt HWH.out hsr HRK.out hsh
      have HSR := Hid.mk hsr
      clear HB7 HR7 hx8 hbw7 hsr hsh hbx7 hbx6 hbxp
      obtain ⟨w9, hw9⟩ : ∃ y, y = w8.alloc (.cells #[.int .u64 (sr.x0 : Int), .int .u64 (sr.x1 : Int)] 66) := ⟨_, rfl⟩
      have hb9 : Below w8.heap.size w8 w9 := by rw [hw9]; exact (Below.refl _ _).alloc (Nat.le_refl _) _
      have hbx9 := hbx8.under hb9
      have hby9 : Bx w9 w8.heap.size [.int .u64 (sr.x0 : Int), .int .u64 (sr.x1 : Int)] := by rw [hw9]; exact Bx.new _ _ _
      have hbw9 : Below w.heap.size w w9 := hbw8.trans (hb9.mono hbw8.size)
      have HB9 : Hid (Bw w9 w4.heap.size 66 s.cells ∧ Bw w9 w3.heap.size 66 (flatS rs) ∧ w4.heap.size + 1 ≤ w9.heap.size) := ⟨HB8.out.1.under hb9, HB8.out.2.1.under hb9, by have := hb9.size; have := HB8.out.2.2; omega⟩
      have HR9 := Hid.mk (RowR.keep rGrp_good HR8.out hb9 hbw8.size)
      have hz8 : w4.heap.size + 1 ≤ w8.heap.size := HB8.out.2.2
      have hzwr : w4.heap.size + 1 ≤ wr.heap.size := hzr
      have hzw8 : wr.heap.size < w8.heap.size := hbx8.1
      rw [show sr.cells.toArray = #[.int .u64 (sr.x0 : Int), .int .u64 (sr.x1 : Int)] from rfl]
      go_wp2_with fail
      rw [← hw9]
      clear hw9 HB8 HR8
      refine (join_any w4.heap.size 0 66 s.cells s sr w9 HSk.out.ok HSR.out HB9.out.1 rfl rfl).mono ?_
      rintro e w10 ⟨rfl, hJ10, hT10⟩
      have hbw10 : Below w.heap.size w w10 := hbw9.trans (hT10.below (fun x hx => by simp at hx; omega) hbw9.size)
      have hbx10 := hbx9.turn hT10 (by simp; omega)
      have hby10 := hby9.turn hT10 (by simp; omega)
      have HB10 : Hid (Bw w10 w4.heap.size 66 (s.join sr).cells ∧ Bw w10 w3.heap.size 66 (flatS rs) ∧ w4.heap.size + 1 ≤ w10.heap.size) := ⟨hJ10, HB9.out.2.1.turn hT10 (by simp; omega), by have := hT10.size; have := HB9.out.2.2; omega⟩
      have HSn : Hid (GroupsSt l (k + 1) (ps ++ [k]) (gs ++ [⟨sr, r.less sr⟩]) (s.join sr)) := HSk.out.push HLK.out HGK.out
      obtain ⟨css, r1, r2, r3, r4⟩ := HR9.out
      have hlg : gs.length ≤ 100 := by
        have h1 := HSk.out.grp.len
        have h2 := HSk.out.grp
        have h3 : ps.length ≤ k := asc_len h2.asc (fun p hp => ((h2.who p).1 hp).1)
        omega
      have r5 : w10.ownsRow (w4.heap.size + 1) 68 4 u4 gs.length css.flatten := own_of_block r4 (fun x hx => hT10.block x (r4.lt x hx).2 (by have := (r4.lt x hx).1; simp; omega))
      have HR1 := Hid.mk r1
      have HR2 := Hid.mk r2
      have HR3 : Hid (∀ j, (h : j < gs.length) → (h2 : j < css.length) → rGrp w.heap.size w10 css[j] gs[j]) := fun j h h2 => r3 j h h2
      have HO10 := Hid.mk r5
      have HOKs : Hid (r.ok ∧ sr.ok) := ⟨HRO.out.ok, HSR.out⟩
      clear r1 r2 r3 r4 r5 HR9 HB9 hJ10 hT10 hbx9 hby9 hbw9 hb9 hbx8 hbw8 HSk HLK HGK
      have x0 : ∀ W, (Bx W wr.heap.size [.int .u64 (r.x0 : Int), .int .u64 (r.x1 : Int)] ∧ Bx W w8.heap.size [.int .u64 (sr.x0 : Int), .int .u64 (sr.x1 : Int)]) → W.cell? ⟨wr.heap.size, 0, none⟩ = some (.int .u64 (r.x0 : Int)) := fun W h => h.1.2 0 _ rfl
      have x1 : ∀ W, (Bx W wr.heap.size [.int .u64 (r.x0 : Int), .int .u64 (r.x1 : Int)] ∧ Bx W w8.heap.size [.int .u64 (sr.x0 : Int), .int .u64 (sr.x1 : Int)]) → W.cell? ⟨wr.heap.size, 1, none⟩ = some (.int .u64 (r.x1 : Int)) := fun W h => h.1.2 1 _ rfl
      have y0 : ∀ W, (Bx W wr.heap.size [.int .u64 (r.x0 : Int), .int .u64 (r.x1 : Int)] ∧ Bx W w8.heap.size [.int .u64 (sr.x0 : Int), .int .u64 (sr.x1 : Int)]) → W.cell? ⟨w8.heap.size, 0, none⟩ = some (.int .u64 (sr.x0 : Int)) := fun W h => h.2.2 0 _ rfl
      have y1 : ∀ W, (Bx W wr.heap.size [.int .u64 (r.x0 : Int), .int .u64 (r.x1 : Int)] ∧ Bx W w8.heap.size [.int .u64 (sr.x0 : Int), .int .u64 (sr.x1 : Int)]) → W.cell? ⟨w8.heap.size, 1, none⟩ = some (.int .u64 (sr.x1 : Int)) := fun W h => h.2.2 1 _ rfl
      have hCw := fun W => without_any r sr W HOKs.out.1 HOKs.out.2
      obtain ⟨rl, hrl⟩ : ∃ q, q = r.less sr := ⟨_, rfl⟩
      rw [← hrl] at hCw HSn
      have hrlo : rl.ok := by rw [hrl]; exact MSet.less_ok HOKs.out.1
      clear hrl
      rw [show rl.cells.toArray = #[.int .u64 (rl.x0 : Int), .int .u64 (rl.x1 : Int)] from rfl] at hCw
      go_wp2_with fail
      refine wp_region_held_drew (S := fun W => Bx W wr.heap.size [.int .u64 (r.x0 : Int), .int .u64 (r.x1 : Int)] ∧ Bx W w8.heap.size [.int .u64 (sr.x0 : Int), .int .u64 (sr.x1 : Int)]) (by kernel_rfl) (⟨hbx10.drew, hby10.drew⟩) (fun hHeld => ?_)
      refine tk 0 qc6f_37_12_0 (some 35) (v := ?v1) rfl rfl (by kernel_rfl) hHeld (by rfl) (fun _ _ _ x => x) (fun w h => ?y1) ?_; (case y1 => (try dsimp only at h); go_simp; try (with_reducible rfl)); try simp only [Act.put, sa, s0, s1]
      refine tk 1 qc6f_37_12_1 (some 36) (v := ?v2) rfl rfl (by kernel_rfl) hHeld (by rfl) (fun _ _ _ x => x) (fun w h => ?y2) ?_; (case y2 => (try dsimp only at h); go_simp; try (with_reducible rfl)); try simp only [Act.put, sa, s0, s1]
      refine tk 2 qc6f_37_12_2 (some 37) (v := ?v3) rfl rfl (by kernel_rfl) hHeld (by rfl) (fun _ _ _ x => x) (fun w h => ?y3) ?_; (case y3 => (try dsimp only at h); go_simp; try (with_reducible rfl)); try simp only [Act.put, sa, s0, s1]
      refine tk 3 qc6f_37_12_3 (some 38) (v := ?v4) rfl rfl (by kernel_rfl) hHeld (by rfl) (fun _ _ _ x => x) (fun w h => ?y4) ?_; (case y4 => (try dsimp only at h); go_simp; try (with_reducible rfl)); try simp only [Act.put, sa, s0, s1]
      refine wpAnyH_ready (rs := [4]) (by kernel_rfl) (by simp) ?_
      refine AllReadyH.cons (o := qc6f_37_12_4) rfl (fun K hK => ?_) AllReadyH.nil
      go_simp
      refine Calls.mono (hCw _) ?_
      rintro e w11 ⟨rfl, hx1⟩
      have hbe1 : Below w10.heap.size w10 w11 := (Below.drew (Below.refl _ _)).trans hx1
      have hop1 : Bx w11 wr.heap.size [.int .u64 (r.x0 : Int), .int .u64 (r.x1 : Int)] ∧ Bx w11 w8.heap.size [.int .u64 (sr.x0 : Int), .int .u64 (sr.x1 : Int)] := ⟨hHeld.1.under hx1, hHeld.2.under hx1⟩
      go_wp2_with fail
      refine hK.out _ _ (hop1) (fun hHeld => ?_)
      clear hK K
      try simp only [Act.put, sa, s0, s1]
      refine tk 5 qc6f_37_12_5 (some 40) (v := ?v5) rfl rfl (by kernel_rfl) hHeld (by rfl) (fun _ _ _ x => x) (fun w h => ?y5) ?_; (case y5 => (try dsimp only at h); go_simp; try (with_reducible rfl)); try simp only [Act.put, sa, s0, s1]
      refine wpAnyH_ready (rs := [6]) (by kernel_rfl) (by simp) ?_
      refine AllReadyH.cons (o := qc6f_37_12_6) rfl (fun K hK => ?_) AllReadyH.nil
      go_simp
      obtain ⟨w12, hq12⟩ : ∃ x, x = (w11.alloc (.cells (List.toArray [Value.int .u64 (sr.x0 : Int), Value.int .u64 (sr.x1 : Int), Value.int .u64 (rl.x0 : Int), Value.int .u64 (rl.x1 : Int)]) 68)) := ⟨_, rfl⟩
      have hx2 : Below w11.heap.size w11 w12 := by rw [hq12]; exact (Below.refl _ _).alloc (Nat.le_refl _) _
      have hbe2 : Below w10.heap.size w10 w12 := hbe1.trans (hx2.mono hbe1.size)
      have hop2 : Bx w12 wr.heap.size [.int .u64 (r.x0 : Int), .int .u64 (r.x1 : Int)] ∧ Bx w12 w8.heap.size [.int .u64 (sr.x0 : Int), .int .u64 (sr.x1 : Int)] := ⟨hHeld.1.under hx2, hHeld.2.under hx2⟩
      have hbz : Bx w12 w11.heap.size [Value.int .u64 (sr.x0 : Int), Value.int .u64 (sr.x1 : Int), Value.int .u64 (rl.x0 : Int), Value.int .u64 (rl.x1 : Int)] := by rw [hq12]; exact Bx.new _ _ _
      have HO12 := Hid.mk (own_below HO10.out hbe2)
      rw [← hq12]
      clear hq12
      refine hK.out _ _ (hop2) (fun hHeld => ?_)
      clear hK K
      try simp only [Act.put, sa, s0, s1]
      refine wpAnyH_ready (rs := [7]) (by kernel_rfl) (by simp) ?_
      refine AllReadyH.cons (o := qc6f_37_12_7) rfl (fun K hK => ?_) AllReadyH.nil
      refine step_append_src w12 rfl _ _ 62 62 rfl (w4.heap.size + 1) 68 iG (.agg (List.toArray [.int .u64 0, .int .u64 0, .int .u64 0, .int .u64 0])) 4 32 Tryd.underlying62 hiG hzG0 hzG1 hzG2 rfl u4 gs.length css.flatten rfl HO12.out (.slice (some ⟨w11.heap.size, 0, none⟩) 1 1) rfl 1 [Value.int .u64 (sr.x0 : Int), Value.int .u64 (sr.x1 : Int), Value.int .u64 (rl.x0 : Int), Value.int .u64 (rl.x1 : Int)] (Src.ofSlice w12 Tryd.underlying62 ⟨w11.heap.size, 0, none⟩ 1 1 _ rfl (bx_news hbz) (by intro u hu; simp at hu; rcases hu with rfl | rfl | rfl | rfl <;> rfl)) (by unfold maxLen; omega) (by omega) (by have h1 := hbe2.size; have h2 := HB10.out.2.2; omega) ?_
      intro v13 w13 ho13 hgr13 hat13
      have hbe3 : Below w.heap.size w w13 := (hbw10.trans (hbe2.mono hbw10.size)).grown hgr13 (Nat.le_trans hbw10.size hbe2.size) (fun x h => by have := (HO12.out.lt x h).1; omega)
      have hop3 : Bx w13 wr.heap.size [.int .u64 (r.x0 : Int), .int .u64 (r.x1 : Int)] ∧ Bx w13 w8.heap.size [.int .u64 (sr.x0 : Int), .int .u64 (sr.x1 : Int)] := ⟨bx_grown hHeld.1 hgr13 (fun h => by have := HUB.out _ h; omega), bx_grown hHeld.2 hgr13 (fun h => by have := HUB.out _ h; omega)⟩
      refine hK.out _ _ (hop3) (fun hHeld => ?_)
      clear hK K
      try simp only [Act.put, sa, s0, s1]
      refine tk 8 qc6f_37_12_8 (some 4) (v := ?v6) rfl rfl (by kernel_rfl) hHeld (by rfl) (fun _ _ _ x => x) (fun w h => ?y6) ?_; (case y6 => (try dsimp only at h); go_simp; try (with_reducible rfl)); try simp only [Act.put, sa, s0, s1]
      refine wpAnyH_done (by kernel_rfl) ?_ _
      have hT13 : Below w.heap.size w10 w13 := (hbe2.mono hbw10.size).grown hgr13 (Nat.le_trans hbw10.size hbe2.size) (fun x h => by have := (HO12.out.lt x h).1; omega)
      have HRn : Hid (RowR 4 68 rGrp w.heap.size w13 (w4.heap.size + 1) v13 (gs ++ [⟨sr, rl⟩])) := RowR.push rGrp_good HR1.out HR2.out HR3.out hT13 rfl ⟨rfl, HOKs.out.2, hrlo⟩ ho13
      have hne : ∀ b, b < w4.heap.size + 1 → u4.ownBlock ≠ some b := fun b hb h => by have := (HO12.out.lt b h).1; omega
      have HB13 : Hid (Bw w13 w4.heap.size 66 (s.join sr).cells ∧ Bw w13 w3.heap.size 66 (flatS rs) ∧ w4.heap.size + 1 ≤ w13.heap.size) := ⟨bw_grown (HB10.out.1.under hbe2) hgr13 (hne _ (by omega)), bw_grown (HB10.out.2.1.under hbe2) hgr13 (hne _ (by omega)), by have h1 := hbe2.size; have h2 := HB10.out.2.2; have h3 := hgr13.size; omega⟩
      clear ho13 hgr13 hat13 HB10 HO10 HO12 x0 x1 y0 y1
      go_wp2_with fail
      go_roundw
      case rel => exact ⟨k + 1, ps ++ [k], gs ++ [⟨sr, rl⟩], s.join sr, by omega, by go_num, HRn, HSn, HB13, hbe3⟩
      case measure => simp [intOf]; omega
    · have hkn : k = n := by omega
      have HV : Hid (GroupsL m gs) := .inr ⟨by have h := HGO.out; rw [HLM.out] at h; exact h, ps, by rw [← HLM.out, ← HX.out, ← hkn]; exact HSk.out.grp⟩
      have HRb := Hid.mk (RowR.base HRk.out (show w.heap.size ≤ w4.heap.size + 1 by omega))
      go_wp2_with fail
      go_ret
      exact ⟨_, gs, rfl, HV.out, HRb.out, hbk⟩


/-- All that a group needs is taken. -/
def freeG (t : MSet) (g : MGrp) : Bool := decide ((g.need.less t).x0 = 0 ∧ (g.need.less t).x1 = 0)
theorem word_zero {x : Nat} (h : ∀ k, k < 64 → x.testBit k = false) (hx : x < 18446744073709551616) : x = 0 := by
  apply Nat.eq_of_testBit_eq
  intro k
  rw [Nat.zero_testBit]
  by_cases hk : k < 64
  · exact h k hk
  · have h1 : (18446744073709551616 : Nat) ≤ 2 ^ k := by
      have h2 := Nat.pow_le_pow_right (n := 2) (by decide) (show 64 ≤ k by omega)
      simpa using h2
    exact Nat.testBit_lt_two_pow (Nat.lt_of_lt_of_le hx h1)
theorem freeG_iff {t : MSet} {g : MGrp} (ht : t.ok) (hg : g.need.ok) : freeG t g = true ↔ ∀ j, j < 128 → g.need.has j = true → t.has j = true := by
  unfold freeG
  rw [decide_eq_true_iff]
  have hok := MSet.less_ok (t := t) hg
  constructor
  · rintro ⟨h0, h1⟩ j hj hn
    have hl : (g.need.less t).has j = false := by
      by_cases h : j < 64
      · rw [MSet.has_lo h, h0]; exact Nat.zero_testBit _
      · rw [MSet.has_hi h, h1]; exact Nat.zero_testBit _
    rw [MSet.less_has ht hj, hn, Bool.true_and] at hl
    simpa using hl
  · intro h
    have hz : ∀ j, j < 128 → (g.need.less t).has j = false := fun j hj => by
      rw [MSet.less_has ht hj]
      rcases hn : g.need.has j with _ | _
      · rfl
      · rw [h j hj hn]; rfl
    refine ⟨word_zero (fun k hk => ?_) hok.1, word_zero (fun k hk => ?_) hok.2⟩
    · rw [← MSet.has_lo hk]; exact hz k (by omega)
    · have := hz (k + 64) (by omega)
      rw [MSet.has_hi (by omega)] at this
      simpa using this

theorem eq_word (d : Nat) (x y : Int) (w : World) : (Op.equalIn (d + 1) 64 (.int .u64 x) (.int .u64 y)).run Tryd.prog w = .ok (x == y) w := by
  have hu := Tryd.underlying64
  simp [Op.equalIn, run_underlying hu, Sem.run_pure]
set_option maxHeartbeats 1000000 in
theorem eq_set (x y : Int) (w : World) : (Op.equalIn 10000 66 (.agg #[.int .u64 x, .int .u64 y]) (.agg #[.int .u64 0, .int .u64 0])).run Tryd.prog w = .ok (x == 0 && y == 0) w := by
  obtain ⟨iU, hiU, hz0, hz1, hz2⟩ := info_parts Tryd.infoOfWord
  have h := Tryd.underlying66
  have hsz : ∀ w, (sizeOf 64).run Tryd.prog w = .ok 1 w := fun w => by simp [sizeOf, typeInfo, hiU, hz1]
  have p0 : ∀ (a b : Int) w, (part 64 #[.int .u64 a, .int .u64 b] 0).run Tryd.prog w = .ok (.int .u64 a) w := fun a b w => by simp [part, typeInfo, hiU, hz1, Sem.run_pure, sizeOf]
  have p1 : ∀ (a b : Int) w, (part 64 #[.int .u64 a, .int .u64 b] 1).run Tryd.prog w = .ok (.int .u64 b) w := fun a b w => by simp [part, typeInfo, hiU, hz1, Sem.run_pure, sizeOf]
  have e1 : ∀ (a b : Int) w, (Op.equalIn 9999 64 (.int .u64 a) (.int .u64 b)).run Tryd.prog w = .ok (a == b) w := fun a b w => eq_word 9998 a b w
  show (Op.equalIn (9999 + 1) 66 (.agg #[.int .u64 x, .int .u64 y]) (.agg #[.int .u64 0, .int .u64 0])).run Tryd.prog w = _
  rw [Op.equalIn]
  simp only [Sem.run_bind, run_underlying h, Result.andThen_ok, hsz, Std.Legacy.Range.forIn_eq_forIn_range', Std.Legacy.Range.size, Nat.sub_zero, Nat.add_sub_cancel, Nat.div_one, List.range'_succ, List.range'_zero, List.forIn_cons, List.forIn_nil, Nat.mul_one, Nat.zero_add, p0, p1, e1]
  rcases h0 : (x == 0) with _ | _ <;> rcases h1 : (y == 0) with _ | _ <;> simp [h0, h1, p0, p1, e1, Sem.run_bind, Sem.run_pure]

set_option maxHeartbeats 1000000 in
theorem free_any (g : MGrp) (t : MSet) (bt : Nat) (T : TypeId) (w : World) (hg : g.need.ok) (ht : t.ok) (hb : Bw w bt T t.cells) :
    Calls Tryd.prog 49 #[.agg #[.int .u64 (g.mem.x0 : Int), .int .u64 (g.mem.x1 : Int), .int .u64 (g.need.x0 : Int), .int .u64 (g.need.x1 : Int)], .pointer (some ⟨bt, 0, none⟩)] w fun e w' => e = .returned (.bool (freeG t g)) ∧ Below w.heap.size w w' := by
  obtain ⟨wq, hwq⟩ : ∃ x, x = w.alloc (.cells #[.int .u64 (g.mem.x0 : Int), .int .u64 (g.mem.x1 : Int), .int .u64 (g.need.x0 : Int), .int .u64 (g.need.x1 : Int)] 68) := ⟨_, rfl⟩
  have hbq : Below w.heap.size w wq := by rw [hwq]; exact (Below.refl _ _).alloc (Nat.le_refl _) _
  have hbt := hb.under hbq
  have t0 := hbt.cell 0 _ rfl
  have t1 := hbt.cell 1 _ rfl
  rw [hwq] at t0 t1
  obtain ⟨r, hr⟩ : ∃ r, r = g.need.less t := ⟨_, rfl⟩
  have hC := fun W => without_any g.need t W hg ht
  rw [← hr] at hC
  rw [show g.need.cells.toArray = #[.int .u64 (g.need.x0 : Int), .int .u64 (g.need.x1 : Int)] from rfl, show t.cells.toArray = #[.int .u64 (t.x0 : Int), .int .u64 (t.x1 : Int)] from rfl, show r.cells.toArray = #[.int .u64 (r.x0 : Int), .int .u64 (r.x1 : Int)] from rfl] at hC
  have HV : Hid (freeG t g = (decide (r.x0 = 0) && decide (r.x1 = 0))) := by unfold Hid freeG; rw [← hr]; simp
  clear hr
  go_enter Tryd.func49, Tryd.ntmps49
  go_wp2_with fail
  rw [← hwq]
  clear hwq t0 t1
  refine (hC wq).mono ?_
  rintro e w1 ⟨rfl, hx1⟩
  have hb1 := bthen hbq hx1
  have heq := eq_set (r.x0 : Int) (r.x1 : Int)
  have HB : Hid (((r.x0 : Int) == 0 && (r.x1 : Int) == 0) = freeG t g) := by
    unfold Hid
    rw [HV.out]
    by_cases h0 : r.x0 = 0
    · by_cases h1 : r.x1 = 0
      · rw [h0, h1]; rfl
      · rw [decide_eq_false h1, Bool.and_false, beq_eq_false_iff_ne.2 (show (r.x1 : Int) ≠ 0 by omega), Bool.and_false]
    · rw [decide_eq_false h0, Bool.false_and, beq_eq_false_iff_ne.2 (show (r.x0 : Int) ≠ 0 by omega), Bool.false_and]
  rw [HB.out] at heq
  generalize (r.x0 : Int) = y0 at *
  generalize (r.x1 : Int) = y1 at *
  go_wp2_with fail
  go_ret
  exact ⟨rfl, hb1⟩

set_option maxHeartbeats 1000000 in
theorem indexG_any (a : Option Addr) (n c : Nat) (l : List MGrp) (t : MSet) (bt : Nat) (T : TypeId) (w : World) (hx : l.length = n) (hn : n ≤ 16777216) (hL : LeafL 4 rGrp w.heap.size w a c l) (ht : t.ok) (hb : Bw w bt T t.cells) :
    Calls Tryd.prog 48 #[.slice a n c, .func (.func 49) #[] #[.pointer (some ⟨bt, 0, none⟩)]] w fun e w' => Below w.heap.size w w' ∧
      ((e = .returned (.int .i64 (-1)) ∧ ∀ j, (h : j < l.length) → freeG t l[j] = false) ∨ ∃ i : Nat, e = .returned (.int .i64 i) ∧ ∃ h : i < l.length, freeG t l[i] = true ∧ ∀ j, (h : j < l.length) → j < i → freeG t l[j] = false) := by
  have HX := Hid.mk hx
  have HL := Hid.mk hL
  clear hx hL
  go_enter Tryd.func48, Tryd.ntmps48
  go_wp2_with fail
  go_loopw [8] (fun iv wr => ∃ k : Nat, k ≤ n ∧ iv = .int .i64 k ∧ Hid (∀ j, (h : j < l.length) → j < k → freeG t l[j] = false) ∧ Below w.heap.size w wr) (fun iv _ => n - (intOf iv).toNat)
  case atStart => exact ⟨0, Nat.zero_le _, rfl, Hid.mk (fun j _ hj => by omega), Below.refl _ _⟩
  case round =>
    obtain ⟨k, hk, rfl, HNO, hbk⟩ := hrel
    by_cases hlt : k < n
    · have hkl : k < l.length := by rw [HX.out]; exact hlt
      obtain ⟨b1, o1, rfl, hbB, cs, hcl, hcell, hcs, hom, hon⟩ := (HL.out.2.2.below rGrp_good hbk) k hkl
      subst hcs
      have k0 := hcell 0 _ rfl
      have k1 := hcell 1 _ rfl
      have k2 := hcell 2 _ rfl
      have k3 := hcell 3 _ rfl
      rw [Nat.add_zero] at k0
      obtain ⟨p, hp⟩ : ∃ p, p = l[k] := ⟨_, rfl⟩
      have HPK := Hid.mk hp
      rw [← hp] at k0 k1 k2 k3 hom hon
      clear hcell hcl hp
      have hC := free_any p t bt T wr hon ht (hb.under hbk)
      go_wp2_with fail
      refine hC.mono ?_
      rintro e w1 ⟨rfl, hx1⟩
      have hB1 := hbk.trans (hx1.mono hbk.size)
      rcases hg : freeG t p with _ | _
      · have HN2 : Hid (∀ j, (h : j < l.length) → j < k + 1 → freeG t l[j] = false) := fun j h hj => by
          by_cases hjk : j = k
          · subst hjk; rw [← HPK.out]; exact hg
          · exact HNO.out j h (by omega)
        go_wp2_with fail
        go_roundw
        case rel => exact ⟨k + 1, by omega, by go_num, HN2, hB1⟩
        case measure => simp [intOf]; omega
      · go_wp2_with fail
        go_ret
        exact ⟨hB1, .inr ⟨k, rfl, hkl, by rw [← HPK.out]; exact hg, HNO.out⟩⟩
    · go_wp2_with fail
      go_ret
      exact ⟨hbk, .inl ⟨rfl, fun j h => HNO.out j h (by have := HX.out; omega)⟩⟩


theorem GroupsOk.grp {l : List MItem} {n : Nat} {ps : List Nat} {gs : List MGrp} (h : GroupsOk l n ps gs) {i : Nat} (hi : i < gs.length) : ∃ hp : i < ps.length, lead l ps[i] ∧ ps[i] < n ∧ GrpOk l ps[i] gs[i] := by
  have hp : i < ps.length := by rw [← h.len]; exact hi
  have := (h.who ps[i]).1 (List.getElem_mem hp)
  exact ⟨hp, this.2, this.1, h.each i hp hi⟩
theorem GroupsOk.count {l : List MItem} {n : Nat} {ps : List Nat} {gs : List MGrp} (h : GroupsOk l n ps gs) : gs.length ≤ n := by
  rw [h.len]; exact asc_len h.asc (fun p hp => ((h.who p).1 hp).1)
end Go.Proofs.YtmigamgcmhdncaaDoor
