/-
  The groups of what is whole: the program's groupsOf.
-/
import Derived.Test.YtmigamgcmhdncaaDoorRegK
import Derived.Test.YtmigamgcmhdncaaDoorGrpM
import Derived.Test.YtmigamgcmhdncaaDoorWhlD
import Derived.Test.YtmigamgcmhdncaaDoorGraC
namespace Go.Proofs.YtmigamgcmhdncaaDoor
open Go.RowKit
set_option linter.unusedVariables false
set_option linter.unusedSimpArgs false
set_option maxRecDepth 10000
abbrev qc6f_37_12_0 : Oper := ⟨some 35, .move (.tmp 4), 62, "l08_graph.go:163", #[], none⟩
abbrev qc6f_37_12_1 : Oper := ⟨some 36, .load 66 (.tmp 8), 66, "l08_graph.go:163", #[], none⟩
abbrev qc6f_37_12_2 : Oper := ⟨some 37, .load 66 (.tmp 7), 66, "l08_graph.go:163", #[], none⟩
abbrev qc6f_37_12_3 : Oper := ⟨some 38, .load 66 (.tmp 8), 66, "l08_graph.go:163", #[], none⟩
abbrev qc6f_37_12_4 : Oper := ⟨some 39, .call { callee := .value (.func 50), args := #[.tmp 37, .tmp 38], argTypes := #[66, 66] }, 66, "l08_graph.go:163", #[⟨2, .data⟩, ⟨3, .data⟩], none⟩
abbrev qc6f_37_12_5 : Oper := ⟨some 40, .build 68 #[(0, .tmp 36), (1, .tmp 39)], 68, "l08_graph.go:163", #[⟨1, .data⟩, ⟨4, .data⟩], none⟩
abbrev qc6f_37_12_6 : Oper := ⟨some 41, .buildSlice 62 1 #[(0, .tmp 40)], 62, "l08_graph.go:163", #[⟨5, .data⟩], none⟩
abbrev qc6f_37_12_7 : Oper := ⟨some 42, .call { callee := .builtin .append, args := #[.tmp 35, .tmp 41], argTypes := #[62, 62] }, 62, "l08_graph.go:163", #[⟨0, .data⟩, ⟨6, .data⟩, ⟨4, .chain⟩], none⟩
abbrev qc6f_37_12_8 : Oper := ⟨some 4, .assign (.tmp 42), 62, "l08_graph.go:163", #[⟨7, .data⟩, ⟨7, .chain⟩, ⟨0, .phase⟩, ⟨1, .phase⟩, ⟨2, .phase⟩, ⟨3, .phase⟩, ⟨4, .phase⟩, ⟨5, .phase⟩, ⟨6, .phase⟩, ⟨7, .phase⟩], none⟩

theorem Tryd.infoOfGroup : (Tryd.prog.info? 68).map (fun i => (i.zero, i.size, i.bytes)) = some (some (.agg #[.int .u64 0, .int .u64 0, .int .u64 0, .int .u64 0]), 4, 32) := by kernel_rfl
/-- What groupsOf answers. -/
def GroupsL (m : MGraph) (gs : List MGrp) : Prop := (graphP m = false ∧ gs = []) ∨ (graphP m = true ∧ ∃ ps, GroupsOk m.fItems m.fItems.length ps gs)
theorem bw_grown {w w' : World} {b : Nat} {t : TypeId} {vs : List Value} {r : Option Nat} (h : Bw w b t vs) (hg : w.grownBy w' r) (hr : r ≠ some b) : Bw w' b t vs := (hg.block b h.lt (fun e => hr e.symm)).trans h

theorem bx_grown {w w' : World} {b : Nat} {vs : List Value} {r : Option Nat} (h : Bx w b vs) (hg : w.grownBy w' r) (hr : r ≠ some b) : Bx w' b vs :=
  ⟨Nat.lt_of_lt_of_le h.1 hg.size, fun i u hu => (World.cell?_of_block (w := w) (a := ⟨b, i, none⟩) (hg.block b h.1 (fun e => hr e.symm))).trans (h.2 i u hu)⟩
theorem asc_len' : ∀ {ps : List Nat} {k lo : Nat}, ps.Pairwise (· < ·) → (∀ p, p ∈ ps → lo ≤ p ∧ p < k) → ps.length ≤ k - lo
  | [], _, _, _, _ => by simp
  | a :: r, k, lo, h, hk => by
    rw [List.pairwise_cons] at h
    have ha := hk a (by simp)
    have ih := asc_len' (ps := r) (k := k) (lo := a + 1) h.2 (fun p hp => ⟨h.1 p hp, (hk p (by simp [hp])).2⟩)
    simp only [List.length_cons]
    omega
theorem asc_len {ps : List Nat} {k : Nat} (h : ps.Pairwise (· < ·)) (hk : ∀ p, p ∈ ps → p < k) : ps.length ≤ k := by
  have := asc_len' (lo := 0) h (fun p hp => ⟨Nat.zero_le _, hk p hp⟩)
  omega

set_option maxHeartbeats 8000000 in
theorem groupsOf_any (cs : List Value) (m : MGraph) (w : World) (hr : rGraph w.heap.size w cs m) (hw : wGraph m ≤ 1048576) (hT : TzAt w) :
    Calls Tryd.prog 37 #[.agg cs.toArray] w fun e w' => ∃ (v : Value) (gs : List MGrp), e = .returned v ∧ GroupsL m gs ∧ RowR 4 68 rGrp w.heap.size w' w.heap.size v gs ∧ Below w.heap.size w w' := by
  obtain ⟨iG, hiG, hzG0, hzG1, hzG2⟩ := info_parts Tryd.infoOfGroup
  have HRG := Hid.mk hr
  have HWG := Hid.mk hw
  have HTZ := Hid.mk hT
  obtain ⟨a, cap, rfl, hL, _⟩ := hr
  have HL := Hid.mk hL
  obtain ⟨n, hx⟩ : ∃ n, n = m.fItems.length := ⟨_, rfl⟩
  rw [← hx] at HRG ⊢
  have HX := Hid.mk hx
  clear hL hx hw hT
  go_enter Tryd.func37, Tryd.ntmps37
  go_wp2_with fail
  obtain ⟨w1, hw1⟩ : ∃ x, x = w.alloc (.cells #[.slice a n cap] 30) := ⟨_, rfl⟩
  have hb01 : Below w.heap.size w w1 := by rw [hw1]; exact (Below.refl _ _).alloc (Nat.le_refl _) _
  have hbx1 : Bx w1 w.heap.size [.slice a n cap] := by rw [hw1]; exact Bx.new _ _ _
  rw [← hw1]
  clear hw1
  refine (implGraphOk_c [.slice a n cap] m w1 (rGraph_good.mono (rGraph_good.below HRG.out hb01) hb01.size) HWG.out).mono ?_
  rintro e w2 ⟨rfl, hx2⟩
  have hb02 := bthen hb01 hx2
  have hbx2 := hbx1.under hx2
  have v0 := hbx2.2 0 _ rfl
  rcases hgo : graphP m with _ | _
  · have HV : Hid (GroupsL m []) := .inl ⟨hgo, rfl⟩
    clear hgo
    go_wp2_with fail
    go_ret
    exact ⟨_, [], rfl, HV.out, RowR.start, hb02⟩
  have HGO : Hid (graphP ⟨m.fItems⟩ = true) := hgo
  have hn : n ≤ 100 := by
    have h' : (decide (m.fItems.length ≤ 100) && upOk itemP itemLt m.fItems) = true := hgo
    rw [Bool.and_eq_true] at h'
    rw [HX.out]
    exact of_decide_eq_true h'.1
  clear hgo
  obtain ⟨l, hl⟩ : ∃ l, l = m.fItems := ⟨_, rfl⟩
  have HLM := Hid.mk hl
  rw [← hl] at HL HX HGO
  clear hl
  go_wp2_with fail
  refine (stepsOf_any a n cap l w2 HX.out.symm HGO.out ((HL.out.below rItem_good hb02).mono rItem_good hb02.size)).mono ?_
  rintro e w3 ⟨ss, rfl, hS, hx3⟩
  have hb03 := bthen hb02 hx3
  go_wp2_with fail
  refine (reachOf_any w2.heap.size n l ss w3 HX.out.symm hn hS (HTZ.out.below hb03)).mono ?_
  rintro e w4 ⟨rs, rfl, hR, hx4⟩
  have hb04 := bthen hb03 hx4
  have HRr := Hid.mk hR
  clear v0 hS hR hbx1 hbx2
  have hz34 : w.heap.size ≤ w3.heap.size := hb03.size
  have hz4 : w3.heap.size < w4.heap.size := HRr.out.row.lt
  go_wp2_with fail
  obtain ⟨w5, hw5⟩ : ∃ x, x = w4.alloc (.cells #[.int .u64 0, .int .u64 0] 66) := ⟨_, rfl⟩
  have hb45 : Below w4.heap.size w4 w5 := by rw [hw5]; exact (Below.refl _ _).alloc (Nat.le_refl _) _
  have hb05 := bthen hb04 hb45
  have HG0 : Hid (Bw w5 w4.heap.size 66 (MSet.cells ⟨0, 0⟩)) := by unfold Hid; rw [hw5]; exact Bw.new _ _ _
  have HS0 : Hid (Bw w5 w3.heap.size 66 (flatS rs)) := HRr.out.row.under hb45
  have hz5 : w5.heap.size = w4.heap.size + 1 := by rw [hw5]; simp
  have HZ5 : Hid (w5.heap.size ≤ w4.heap.size + 1 ∧ w4.heap.size + 1 ≤ w5.heap.size) := ⟨by omega, by omega⟩
  rw [← hw5]
  clear hw5 hz5
  go_loopw [4, 18] (fun v iv wr => ∃ (k : Nat) (ps : List Nat) (gs : List MGrp) (s : MSet), k ≤ n ∧ iv = .int .i64 k ∧ Hid (RowR 4 68 rGrp w.heap.size wr (w4.heap.size + 1) v gs) ∧ Hid (GroupsSt l k ps gs s) ∧ Hid (Bw wr w4.heap.size 66 s.cells ∧ Bw wr w3.heap.size 66 (flatS rs) ∧ w4.heap.size + 1 ≤ wr.heap.size) ∧ Below w.heap.size w wr) (fun _ iv _ => n - (intOf iv).toNat)
  case atStart => exact ⟨0, [], [], ⟨0, 0⟩, Nat.zero_le _, rfl, Hid.mk RowR.start, GroupsSt.start l, ⟨HG0.out, HS0.out, HZ5.out.2⟩, hb05⟩
  case round =>
    obtain ⟨k, ps, gs, s, hk, rfl, HRk, HSk, HBk, hbk⟩ := hrel
    by_cases hlt : k < n
    · have hkr : k < rs.length := by rw [HRr.out.len]; exact hlt
      have c0 := HBk.out.2.1.cell (k * 2) _ (flatS_at0 hkr)
      have c1 := HBk.out.2.1.cell (k * 2 + 1) _ (flatS_at1 hkr)
      have HRO := Hid.mk (HRr.out.did k hkr hlt)
      obtain ⟨r, hr⟩ : ∃ r, ∃ hk : k < rs.length, rs[k] = r := ⟨_, hkr, rfl⟩
      have hre : rs[k] = r := hr.2
      rw [hre] at c0 c1 HRO
      have HRK := Hid.mk hr
      clear hr hre
      have s0 := HBk.out.1.cell 0 _ rfl
      have s1 := HBk.out.1.cell 1 _ rfl
      have hzr : w4.heap.size + 1 ≤ wr.heap.size := HBk.out.2.2
      have hk1 : (0 : Int) ≤ (k : Int) := by omega
      have hk2 : (k : Int) < (n : Int) := by omega
      obtain ⟨wp, hwp⟩ : ∃ y, y = wr.alloc (.cells #[.int .u64 (r.x0 : Int), .int .u64 (r.x1 : Int)] 66) := ⟨_, rfl⟩
      have hbp : Below wr.heap.size wr wp := by rw [hwp]; exact (Below.refl _ _).alloc (Nat.le_refl _) _
      have hbxp : Bx wp wr.heap.size [.int .u64 (r.x0 : Int), .int .u64 (r.x1 : Int)] := by rw [hwp]; exact Bx.new _ _ _
      have HLD := Hid.mk (HSk.out.lead (k := k) (by omega))
      have HUB : Hid (∀ b, u4.ownBlock = some b → b < wr.heap.size) := fun b hb => (RowR.lt HRk.out b hb).2
      have hz68 : Hid (wr.heap.size ≤ wp.heap.size) := hbp.size
      have s2 := (hbp.cell (p := ⟨w4.heap.size, 0, none⟩) (by show w4.heap.size < _; omega)).trans s0
      have s3 := (hbp.cell (p := ⟨w4.heap.size, 1, none⟩) (by show w4.heap.size < _; omega)).trans s1
      rw [hwp] at s2 s3
      go_wp2_with fail
      rw [← hwp]
      clear hwp s0 s1 s2 s3 c0 c1
      refine (has_any s k wp HSk.out.ok (by omega)).mono ?_
      rintro e w6 ⟨rfl, hx6⟩
      have hb6 := bthen hbp hx6
      have hbx6 := hbxp.under hx6
      have hbw6 : Below w.heap.size w w6 := hbk.trans (hb6.mono hbk.size)
      have HB6 : Hid (Bw w6 w4.heap.size 66 s.cells ∧ Bw w6 w3.heap.size 66 (flatS rs) ∧ w4.heap.size + 1 ≤ w6.heap.size) := ⟨HBk.out.1.under hb6, HBk.out.2.1.under hb6, by have := hb6.size; omega⟩
      have HR6 := Hid.mk (RowR.keep rGrp_good HRk.out hb6 hbk.size)
      have z0 := hbx6.2 0 _ rfl
      have z1 := hbx6.2 1 _ rfl
      clear HBk HRk hx6 hb6 hbk hbp
      rcases hsk : s.has k with _ | _
      rotate_left
      · have HSn := Hid.mk (HSk.out.skip (HLD.out.1 hsk))
        clear hsk
        go_wp2_with fail
        go_roundw
        case rel => exact ⟨k + 1, ps, gs, s, by omega, by go_num, HR6, HSn, HB6, hbw6⟩
        case measure => simp [intOf]; omega
      have HLN := Hid.mk (HLD.out.2 hsk)
      clear hsk HLD
      go_wp2_with fail
      refine (has_any r 100 w6 HRO.out.ok (by omega)).mono ?_
      rintro e w7 ⟨rfl, hx7⟩
      have hbw7 : Below w.heap.size w w7 := hbw6.trans (hx7.mono hbw6.size)
      have hbx7 := hbx6.under hx7
      have HB7 : Hid (Bw w7 w4.heap.size 66 s.cells ∧ Bw w7 w3.heap.size 66 (flatS rs) ∧ w4.heap.size + 1 ≤ w7.heap.size) := ⟨HB6.out.1.under hx7, HB6.out.2.1.under hx7, by have := hx7.size; have := HB6.out.2.2; omega⟩
      have HR7 := Hid.mk (RowR.keep rGrp_good HR6.out hx7 hbw6.size)
      clear HB6 HR6 hx7 hbw6 z0 z1
      rcases hrk : r.has 100 with _ | _
      rotate_left
      · have HSn := Hid.mk (HSk.out.skip (fun hl => (HRO.out.out.1 hrk) hl.1))
        clear hrk
        go_wp2_with fail
        go_roundw
        case rel => exact ⟨k + 1, ps, gs, s, by omega, by go_num, HR7, HSn, HB7, hbw7⟩
        case measure => simp [intOf]; omega
      have HWH : Hid (wholeAt l k) := by
        apply Classical.byContradiction
        intro h
        have := HRO.out.out.2 h
        rw [hrk] at this; cases this
      have HLK := Hid.mk (HLN.out HWH.out)
      clear hrk HLN
      go_wp2_with fail
      refine (ringOf_any (some ⟨w3.heap.size, 0, none⟩) n n k rs w7 HRr.out.len hn hlt (leaf_flat HB7.out.2.1 (fun i hi => (HRr.out.did i hi (by rw [← HRr.out.len]; exact hi)).ok) (by have := HB7.out.2.2; omega) (by rw [HRr.out.len]; exact Nat.le_refl _) (by omega))).mono ?_
      rintro e w8 ⟨sr, rfl, hsr, hsh, hx8⟩
      have hbw8 : Below w.heap.size w w8 := hbw7.trans (hx8.mono hbw7.size)
      have hbx8 := hbx7.under hx8
      have HB8 : Hid (Bw w8 w4.heap.size 66 s.cells ∧ Bw w8 w3.heap.size 66 (flatS rs) ∧ w4.heap.size + 1 ≤ w8.heap.size) := ⟨HB7.out.1.under hx8, HB7.out.2.1.under hx8, by have := hx8.size; have := HB7.out.2.2; omega⟩
      have HR8 := Hid.mk (RowR.keep rGrp_good HR7.out hx8 hbw7.size)
      have HGK : Hid (GrpOk l k ⟨sr, r.less sr⟩) := grp_ok HX.out.symm hn HRr.out.len (fun i hi => HRr.out.did i hi (by rw [← HRr.out.len]; exact hi)) hlt HWH.out hsr HRK.out hsh
      have HSR := Hid.mk hsr
      clear HB7 HR7 hx8 hbw7 hsr hsh hbx7 hbx6 hbxp
      obtain ⟨w9, hw9⟩ : ∃ y, y = w8.alloc (.cells #[.int .u64 (sr.x0 : Int), .int .u64 (sr.x1 : Int)] 66) := ⟨_, rfl⟩
      have hb9 : Below w8.heap.size w8 w9 := by rw [hw9]; exact (Below.refl _ _).alloc (Nat.le_refl _) _
      have hbx9 := hbx8.under hb9
      have hby9 : Bx w9 w8.heap.size [.int .u64 (sr.x0 : Int), .int .u64 (sr.x1 : Int)] := by rw [hw9]; exact Bx.new _ _ _
      have hbw9 : Below w.heap.size w w9 := hbw8.trans (hb9.mono hbw8.size)
      have HB9 : Hid (Bw w9 w4.heap.size 66 s.cells ∧ Bw w9 w3.heap.size 66 (flatS rs) ∧ w4.heap.size + 1 ≤ w9.heap.size) := ⟨HB8.out.1.under hb9, HB8.out.2.1.under hb9, by have := hb9.size; have := HB8.out.2.2; omega⟩
      have HR9 := Hid.mk (RowR.keep rGrp_good HR8.out hb9 hbw8.size)
      have hz8 : w4.heap.size + 1 ≤ w8.heap.size := HB8.out.2.2
      have hzwr : w4.heap.size + 1 ≤ wr.heap.size := hzr
      have hzw8 : wr.heap.size < w8.heap.size := hbx8.1
      rw [show sr.cells.toArray = #[.int .u64 (sr.x0 : Int), .int .u64 (sr.x1 : Int)] from rfl]
      go_wp2_with fail
      rw [← hw9]
      clear hw9 HB8 HR8
      refine (join_any w4.heap.size 0 66 s.cells s sr w9 HSk.out.ok HSR.out HB9.out.1 rfl rfl).mono ?_
      rintro e w10 ⟨rfl, hJ10, hT10⟩
      have hbw10 : Below w.heap.size w w10 := hbw9.trans (hT10.below (fun x hx => by simp at hx; omega) hbw9.size)
      have hbx10 := hbx9.turn hT10 (by simp; omega)
      have hby10 := hby9.turn hT10 (by simp; omega)
      have HB10 : Hid (Bw w10 w4.heap.size 66 (s.join sr).cells ∧ Bw w10 w3.heap.size 66 (flatS rs) ∧ w4.heap.size + 1 ≤ w10.heap.size) := ⟨hJ10, HB9.out.2.1.turn hT10 (by simp; omega), by have := hT10.size; have := HB9.out.2.2; omega⟩
      have HSn : Hid (GroupsSt l (k + 1) (ps ++ [k]) (gs ++ [⟨sr, r.less sr⟩]) (s.join sr)) := HSk.out.push HLK.out HGK.out
      obtain ⟨css, r1, r2, r3, r4⟩ := HR9.out
      have hlg : gs.length ≤ 100 := by
        have h1 := HSk.out.grp.len
        have h2 := HSk.out.grp
        have h3 : ps.length ≤ k := asc_len h2.asc (fun p hp => ((h2.who p).1 hp).1)
        omega
      have r5 : w10.ownsRow (w4.heap.size + 1) 68 4 u4 gs.length css.flatten := own_of_block r4 (fun x hx => hT10.block x (r4.lt x hx).2 (by have := (r4.lt x hx).1; simp; omega))
      have HR1 := Hid.mk r1
      have HR2 := Hid.mk r2
      have HR3 : Hid (∀ j, (h : j < gs.length) → (h2 : j < css.length) → rGrp w.heap.size w10 css[j] gs[j]) := fun j h h2 => r3 j h h2
      have HO10 := Hid.mk r5
      have HOKs : Hid (r.ok ∧ sr.ok) := ⟨HRO.out.ok, HSR.out⟩
      clear r1 r2 r3 r4 r5 HR9 HB9 hJ10 hT10 hbx9 hby9 hbw9 hb9 hbx8 hbw8 HSk HLK HGK
      have x0 : ∀ W, (Bx W wr.heap.size [.int .u64 (r.x0 : Int), .int .u64 (r.x1 : Int)] ∧ Bx W w8.heap.size [.int .u64 (sr.x0 : Int), .int .u64 (sr.x1 : Int)]) → W.cell? ⟨wr.heap.size, 0, none⟩ = some (.int .u64 (r.x0 : Int)) := fun W h => h.1.2 0 _ rfl
      have x1 : ∀ W, (Bx W wr.heap.size [.int .u64 (r.x0 : Int), .int .u64 (r.x1 : Int)] ∧ Bx W w8.heap.size [.int .u64 (sr.x0 : Int), .int .u64 (sr.x1 : Int)]) → W.cell? ⟨wr.heap.size, 1, none⟩ = some (.int .u64 (r.x1 : Int)) := fun W h => h.1.2 1 _ rfl
      have y0 : ∀ W, (Bx W wr.heap.size [.int .u64 (r.x0 : Int), .int .u64 (r.x1 : Int)] ∧ Bx W w8.heap.size [.int .u64 (sr.x0 : Int), .int .u64 (sr.x1 : Int)]) → W.cell? ⟨w8.heap.size, 0, none⟩ = some (.int .u64 (sr.x0 : Int)) := fun W h => h.2.2 0 _ rfl
      have y1 : ∀ W, (Bx W wr.heap.size [.int .u64 (r.x0 : Int), .int .u64 (r.x1 : Int)] ∧ Bx W w8.heap.size [.int .u64 (sr.x0 : Int), .int .u64 (sr.x1 : Int)]) → W.cell? ⟨w8.heap.size, 1, none⟩ = some (.int .u64 (sr.x1 : Int)) := fun W h => h.2.2 1 _ rfl
      have hCw := fun W => without_any r sr W HOKs.out.1 HOKs.out.2
      obtain ⟨rl, hrl⟩ : ∃ q, q = r.less sr := ⟨_, rfl⟩
      rw [← hrl] at hCw HSn
      have hrlo : rl.ok := by rw [hrl]; exact MSet.less_ok HOKs.out.1
      clear hrl
      rw [show rl.cells.toArray = #[.int .u64 (rl.x0 : Int), .int .u64 (rl.x1 : Int)] from rfl] at hCw
      go_wp2_with fail
      refine wp_region_held_drew (S := fun W => Bx W wr.heap.size [.int .u64 (r.x0 : Int), .int .u64 (r.x1 : Int)] ∧ Bx W w8.heap.size [.int .u64 (sr.x0 : Int), .int .u64 (sr.x1 : Int)]) (by kernel_rfl) (⟨hbx10.drew, hby10.drew⟩) (fun hHeld => ?_)
      refine tk 0 qc6f_37_12_0 (some 35) (v := ?v1) rfl rfl (by kernel_rfl) hHeld (by rfl) (fun _ _ _ x => x) (fun w h => ?y1) ?_; (case y1 => (try dsimp only at h); go_simp; try (with_reducible rfl)); try simp only [Act.put, sa, s0, s1]
      refine tk 1 qc6f_37_12_1 (some 36) (v := ?v2) rfl rfl (by kernel_rfl) hHeld (by rfl) (fun _ _ _ x => x) (fun w h => ?y2) ?_; (case y2 => (try dsimp only at h); go_simp; try (with_reducible rfl)); try simp only [Act.put, sa, s0, s1]
      refine tk 2 qc6f_37_12_2 (some 37) (v := ?v3) rfl rfl (by kernel_rfl) hHeld (by rfl) (fun _ _ _ x => x) (fun w h => ?y3) ?_; (case y3 => (try dsimp only at h); go_simp; try (with_reducible rfl)); try simp only [Act.put, sa, s0, s1]
      refine tk 3 qc6f_37_12_3 (some 38) (v := ?v4) rfl rfl (by kernel_rfl) hHeld (by rfl) (fun _ _ _ x => x) (fun w h => ?y4) ?_; (case y4 => (try dsimp only at h); go_simp; try (with_reducible rfl)); try simp only [Act.put, sa, s0, s1]
      refine wpAnyH_ready (rs := [4]) (by kernel_rfl) (by simp) ?_
      refine AllReadyH.cons (o := qc6f_37_12_4) rfl (fun K hK => ?_) AllReadyH.nil
      go_simp
      refine Calls.mono (hCw _) ?_
      rintro e w11 ⟨rfl, hx1⟩
      have hbe1 : Below w10.heap.size w10 w11 := (Below.drew (Below.refl _ _)).trans hx1
      have hop1 : Bx w11 wr.heap.size [.int .u64 (r.x0 : Int), .int .u64 (r.x1 : Int)] ∧ Bx w11 w8.heap.size [.int .u64 (sr.x0 : Int), .int .u64 (sr.x1 : Int)] := ⟨hHeld.1.under hx1, hHeld.2.under hx1⟩
      go_wp2_with fail
      refine hK.out _ _ (hop1) (fun hHeld => ?_)
      clear hK K
      try simp only [Act.put, sa, s0, s1]
      refine tk 5 qc6f_37_12_5 (some 40) (v := ?v5) rfl rfl (by kernel_rfl) hHeld (by rfl) (fun _ _ _ x => x) (fun w h => ?y5) ?_; (case y5 => (try dsimp only at h); go_simp; try (with_reducible rfl)); try simp only [Act.put, sa, s0, s1]
      refine wpAnyH_ready (rs := [6]) (by kernel_rfl) (by simp) ?_
      refine AllReadyH.cons (o := qc6f_37_12_6) rfl (fun K hK => ?_) AllReadyH.nil
      go_simp
      obtain ⟨w12, hq12⟩ : ∃ x, x = (w11.alloc (.cells (List.toArray [Value.int .u64 (sr.x0 : Int), Value.int .u64 (sr.x1 : Int), Value.int .u64 (rl.x0 : Int), Value.int .u64 (rl.x1 : Int)]) 68)) := ⟨_, rfl⟩
      have hx2 : Below w11.heap.size w11 w12 := by rw [hq12]; exact (Below.refl _ _).alloc (Nat.le_refl _) _
      have hbe2 : Below w10.heap.size w10 w12 := hbe1.trans (hx2.mono hbe1.size)
      have hop2 : Bx w12 wr.heap.size [.int .u64 (r.x0 : Int), .int .u64 (r.x1 : Int)] ∧ Bx w12 w8.heap.size [.int .u64 (sr.x0 : Int), .int .u64 (sr.x1 : Int)] := ⟨hHeld.1.under hx2, hHeld.2.under hx2⟩
      have hbz : Bx w12 w11.heap.size [Value.int .u64 (sr.x0 : Int), Value.int .u64 (sr.x1 : Int), Value.int .u64 (rl.x0 : Int), Value.int .u64 (rl.x1 : Int)] := by rw [hq12]; exact Bx.new _ _ _
      have HO12 := Hid.mk (own_below HO10.out hbe2)
      rw [← hq12]
      clear hq12
      refine hK.out _ _ (hop2) (fun hHeld => ?_)
      clear hK K
      try simp only [Act.put, sa, s0, s1]
      refine wpAnyH_ready (rs := [7]) (by kernel_rfl) (by simp) ?_
      refine AllReadyH.cons (o := qc6f_37_12_7) rfl (fun K hK => ?_) AllReadyH.nil
      refine step_append_src w12 rfl _ _ 62 62 rfl (w4.heap.size + 1) 68 iG (.agg (List.toArray [.int .u64 0, .int .u64 0, .int .u64 0, .int .u64 0])) 4 32 Tryd.underlying62 hiG hzG0 hzG1 hzG2 rfl u4 gs.length css.flatten rfl HO12.out (.slice (some ⟨w11.heap.size, 0, none⟩) 1 1) rfl 1 [Value.int .u64 (sr.x0 : Int), Value.int .u64 (sr.x1 : Int), Value.int .u64 (rl.x0 : Int), Value.int .u64 (rl.x1 : Int)] (Src.ofSlice w12 Tryd.underlying62 ⟨w11.heap.size, 0, none⟩ 1 1 _ rfl (bx_news hbz) (by intro u hu; simp at hu; rcases hu with rfl | rfl | rfl | rfl <;> rfl)) (by unfold maxLen; omega) (by omega) (by have h1 := hbe2.size; have h2 := HB10.out.2.2; omega) ?_
      intro v13 w13 ho13 hgr13 hat13
      have hbe3 : Below w.heap.size w w13 := (hbw10.trans (hbe2.mono hbw10.size)).grown hgr13 (Nat.le_trans hbw10.size hbe2.size) (fun x h => by have := (HO12.out.lt x h).1; omega)
      have hop3 : Bx w13 wr.heap.size [.int .u64 (r.x0 : Int), .int .u64 (r.x1 : Int)] ∧ Bx w13 w8.heap.size [.int .u64 (sr.x0 : Int), .int .u64 (sr.x1 : Int)] := ⟨bx_grown hHeld.1 hgr13 (fun h => by have := HUB.out _ h; omega), bx_grown hHeld.2 hgr13 (fun h => by have := HUB.out _ h; omega)⟩
      refine hK.out _ _ (hop3) (fun hHeld => ?_)
      clear hK K
      try simp only [Act.put, sa, s0, s1]
      refine tk 8 qc6f_37_12_8 (some 4) (v := ?v6) rfl rfl (by kernel_rfl) hHeld (by rfl) (fun _ _ _ x => x) (fun w h => ?y6) ?_; (case y6 => (try dsimp only at h); go_simp; try (with_reducible rfl)); try simp only [Act.put, sa, s0, s1]
      refine wpAnyH_done (by kernel_rfl) ?_ _
      have hT13 : Below w.heap.size w10 w13 := (hbe2.mono hbw10.size).grown hgr13 (Nat.le_trans hbw10.size hbe2.size) (fun x h => by have := (HO12.out.lt x h).1; omega)
      have HRn : Hid (RowR 4 68 rGrp w.heap.size w13 (w4.heap.size + 1) v13 (gs ++ [⟨sr, rl⟩])) := RowR.push rGrp_good HR1.out HR2.out HR3.out hT13 rfl ⟨rfl, HOKs.out.2, hrlo⟩ ho13
      have hne : ∀ b, b < w4.heap.size + 1 → u4.ownBlock ≠ some b := fun b hb h => by have := (HO12.out.lt b h).1; omega
      have HB13 : Hid (Bw w13 w4.heap.size 66 (s.join sr).cells ∧ Bw w13 w3.heap.size 66 (flatS rs) ∧ w4.heap.size + 1 ≤ w13.heap.size) := ⟨bw_grown (HB10.out.1.under hbe2) hgr13 (hne _ (by omega)), bw_grown (HB10.out.2.1.under hbe2) hgr13 (hne _ (by omega)), by have h1 := hbe2.size; have h2 := HB10.out.2.2; have h3 := hgr13.size; omega⟩
      clear ho13 hgr13 hat13 HB10 HO10 HO12 x0 x1 y0 y1
      go_wp2_with fail
      go_roundw
      case rel => exact ⟨k + 1, ps ++ [k], gs ++ [⟨sr, rl⟩], s.join sr, by omega, by go_num, HRn, HSn, HB13, hbe3⟩
      case measure => simp [intOf]; omega
    · have hkn : k = n := by omega
      have HV : Hid (GroupsL m gs) := .inr ⟨by have h := HGO.out; rw [HLM.out] at h; exact h, ps, by rw [← HLM.out, ← HX.out, ← hkn]; exact HSk.out.grp⟩
      have HRb := Hid.mk (RowR.base HRk.out (show w.heap.size ≤ w4.heap.size + 1 by omega))
      go_wp2_with fail
      go_ret
      exact ⟨_, gs, rfl, HV.out, HRb.out, hbk⟩

end Go.Proofs.YtmigamgcmhdncaaDoor
