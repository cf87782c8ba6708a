/-
  The program raises a tower on each node.
-/
import Derived.Test.YtadadkookbkkoaaDoorTowM
import Derived.Test.YtadadkookbkkoaaDoorRowG
namespace Go.Proofs.YtadadkookbkkoaaDoor
open Go.RowKit Go.Maps
set_option linter.unusedVariables false
set_option linter.unusedSimpArgs false
set_option maxRecDepth 10000

theorem Bw.other {w : World} {b b' i : Nat} {t : TypeId} {vs : List Value} {u : Value} (h : Bw w b t vs) (hne : b ≠ b') : Bw (w.setCell ⟨b', i, none⟩ u) b t vs := by
  unfold Bw at h ⊢
  rw [heap_setCell_other w ⟨b', i, none⟩ b u hne]
  exact h

set_option maxHeartbeats 400000 in
theorem height_any (x : MNode) (w : World) :
    Calls Tryd.prog 42 #[.agg #[.string x.fP.fKey, .string x.fP.fVal, .bool x.fP.fGone, .int .i64 x.fTower]] w fun e w' => e = .returned (.int .i64 x.fTower) ∧ Below w.heap.size w w' := by
  have hbx := Bx.new w [.string x.fP.fKey, .string x.fP.fVal, .bool x.fP.fGone, .int .i64 x.fTower] 36
  have y3 := hbx.2 3 _ rfl
  go_enter Tryd.func42, Tryd.ntmps42
  go_wp2_with fail
  go_ret
  exact ⟨rfl, (Below.refl _ _).alloc (Nat.le_refl _) _⟩

theorem four_set {p : Value} {k : Nat} (h : k < 4) : (List.replicate k p ++ List.replicate (4 - k) (Value.pointer none)).set k p = List.replicate (k + 1) p ++ List.replicate (4 - (k + 1)) (Value.pointer none) := by
  rcases k with _ | _ | _ | _ | k <;> first | rfl | omega
theorem four_at {p : Value} {k : Nat} (h : k < 4) : (List.replicate k p ++ List.replicate (4 - k) (Value.pointer none))[k]? = some (Value.pointer none) := by
  rcases k with _ | _ | _ | _ | k <;> first | rfl | omega

set_option maxHeartbeats 4000000 in
theorem raise_any (a : Option Addr) (n c : Nat) (l : List MNode) (w : World) (hx : l.length = n) (hn : n ≤ 1048576) (hL : LeafL 4 rNode w.heap.size w a c l) :
    Calls Tryd.prog 41 #[.slice a n c, .func (.func 42) #[] #[]] w fun e w' => ∃ B : Nat → Nat, e = .returned (.pointer (some ⟨B 0, 0, none⟩)) ∧ (∀ i j, i < j → j ≤ n → B i < B j) ∧ (∀ j, j ≤ n → Bw w' (B j) 75 (towV l B (nx l n j) j)) ∧ Below w.heap.size w w' := by
  have HX := Hid.mk hx
  have HL := Hid.mk hL
  clear hx hL
  go_enter Tryd.func41, Tryd.ntmps41
  go_wp2_with fail
  obtain ⟨wq, hwq⟩ : ∃ x, x = (w.alloc (.cells #[.string ⟨#[]⟩, .string ⟨#[]⟩, .bool false, .int .i64 0, .int .i64 0, .pointer none, .pointer none, .pointer none, .pointer none] 75)).alloc (.cells #[.pointer none, .pointer none, .pointer none, .pointer none] 73) := ⟨_, rfl⟩
  have hbq : Below w.heap.size w wq := by rw [hwq]; exact ((Below.refl _ _).alloc (Nat.le_refl _) _).alloc (by simp) _
  have hw0 : Bw wq w.heap.size 75 [.string ⟨#[]⟩, .string ⟨#[]⟩, .bool false, .int .i64 0, .int .i64 0, .pointer none, .pointer none, .pointer none, .pointer none] := by rw [hwq]; exact (Bw.new w _ _).alloc _
  have hw1 : Bw wq (w.heap.size + 1) 73 [.pointer none, .pointer none, .pointer none, .pointer none] := by rw [hwq]; exact Bw.new' _ _ _ (by simp)
  rw [← hwq]
  clear hwq
  go_loopw [14] (fun i wr => ∃ k : Nat, k ≤ 4 ∧ i = .int .i64 k ∧ Bw wr (w.heap.size + 1) 73 (List.replicate k (.pointer (some ⟨w.heap.size, 0, none⟩)) ++ List.replicate (4 - k) (.pointer none)) ∧ Bw wr w.heap.size 75 [.string ⟨#[]⟩, .string ⟨#[]⟩, .bool false, .int .i64 0, .int .i64 0, .pointer none, .pointer none, .pointer none, .pointer none] ∧ Below w.heap.size w wr) (fun i _ => 4 - (intOf i).toNat)
  case atStart => exact ⟨0, by omega, rfl, hw1, hw0, hbq⟩
  case round =>
    obtain ⟨k, hk, rfl, hl1, hl0, hbk⟩ := hrel
    clear hw0 hw1 hbq
    by_cases hlt : k < 4
    · have y1 := hl1.cell k _ (four_at hlt)
      have f1 := hl1.free k
      have z1 := hl1.lt
      have HB1 : Hid (∀ u, Bw (wr.setCell ⟨w.heap.size + 1, k, none⟩ u) w.heap.size 75 [.string ⟨#[]⟩, .string ⟨#[]⟩, .bool false, .int .i64 0, .int .i64 0, .pointer none, .pointer none, .pointer none, .pointer none]) := fun u => hl0.other (by omega)
      have HB2 : Hid (Bw (wr.setCell ⟨w.heap.size + 1, k, none⟩ (.pointer (some ⟨w.heap.size, 0, none⟩))) (w.heap.size + 1) 73 (List.replicate (k + 1) (.pointer (some ⟨w.heap.size, 0, none⟩)) ++ List.replicate (4 - (k + 1)) (.pointer none))) := by have h := hl1.put k (.pointer (some ⟨w.heap.size, 0, none⟩)); rw [four_set hlt] at h; exact h
      have hk4 : (k : Int) < 4 := by omega
      go_wp2_with fail
      go_roundw
      case rel => exact ⟨k + 1, by omega, by go_num, HB2.out, HB1.out _, hbk.setCell (by simp) _⟩
      case measure => simp [intOf]; omega
    · have hk4 : k = 4 := by omega
      subst hk4
      go_wp2_with fail
      simp only [show ((4 : Nat) : Int) = 4 from rfl]
      obtain ⟨wb, hwb⟩ : ∃ x, x = wr := ⟨_, rfl⟩
      rw [← hwb]
      rw [← hwb] at hl1 hl0 hbk
      clear hwb
      go_loopw [23] (fun i wr => ∃ (k : Nat) (B : Nat → Nat), k ≤ n ∧ i = .int .i64 k ∧ B 0 = w.heap.size ∧ Hid ((∀ i j, i < j → j ≤ k → B i < B j) ∧ (∀ j, j ≤ k → w.heap.size ≤ B j ∧ B j ≠ w.heap.size + 1)) ∧ Hid (∀ j, j ≤ k → Bw wr (B j) 75 (towV l B (nx l k j) j)) ∧ Hid (Bw wr (w.heap.size + 1) 73 (lastV B (lst l k))) ∧ Below w.heap.size w wr) (fun i _ => n - (intOf i).toNat)
      case atStart =>
        refine ⟨0, fun _ => w.heap.size, Nat.zero_le _, rfl, rfl, ⟨fun i j h1 h2 => by omega, fun j hj => ⟨Nat.le_refl _, by show w.heap.size ≠ w.heap.size + 1; omega⟩⟩, fun j hj => ?_, ?_, hbk⟩
        · obtain rfl : j = 0 := by omega
          exact hl0
        · exact hl1
      case round =>
        obtain ⟨k, B, hk, rfl, hB0, HO, HTW, HLA, hbk2⟩ := hrel
        clear hl1 hl0 hbk
        have hbz := hbk2.size
        by_cases hlt : k < n
        · have hkl : k < l.length := by rw [HX.out]; exact hlt
          obtain ⟨b1, o1, rfl, hB, cs, hcl, hcell, rfl, g0, g1, _, g3, _⟩ := (HL.out.2.2.below rNode_good hbk2) k hkl
          have hB' : b1 < wr.heap.size := by omega
          have k0 := hcell 0 _ rfl
          have k1 := hcell 1 _ rfl
          have k2 := hcell 2 _ rfl
          have k3 := hcell 3 _ rfl
          rw [Nat.add_zero] at k0
          have HIT := Hid.mk (itm_at hkl)
          have HHG := Hid.mk (hgt_at hkl)
          obtain ⟨x, hxk⟩ : ∃ x, x = l[k] := ⟨_, rfl⟩
          rw [← hxk] at k0 k1 k2 k3 g0 g1 g3 HIT HHG
          clear hcell hcl hxk
          obtain ⟨wi, hwi⟩ : ∃ q, q = wr.alloc (.cells #[.string x.fP.fKey, .string x.fP.fVal, .bool x.fP.fGone, .int .i64 x.fTower] 36) := ⟨_, rfl⟩
          obtain ⟨wp, hwp⟩ : ∃ q, q = wi.alloc (.cells #[.string x.fP.fKey, .string x.fP.fVal, .bool x.fP.fGone, .int .i64 x.fTower, .int .i64 k, .pointer none, .pointer none, .pointer none, .pointer none] 75) := ⟨_, rfl⟩
          have hzi : wi.heap.size = wr.heap.size + 1 := by rw [hwi]; simp
          have hbi : Below wr.heap.size wr wi := by rw [hwi]; exact (Below.refl _ _).alloc (Nat.le_refl _) _
          have hbxi : Bx wi wr.heap.size [.string x.fP.fKey, .string x.fP.fVal, .bool x.fP.fGone, .int .i64 x.fTower] := by rw [hwi]; exact Bx.new _ _ _
          have hbp : Below wi.heap.size wi wp := by rw [hwp]; exact (Below.refl _ _).alloc (Nat.le_refl _) _
          have hbxp := hbxi.under hbp
          have hwt : Bw wp (wr.heap.size + 1) 75 [.string x.fP.fKey, .string x.fP.fVal, .bool x.fP.fGone, .int .i64 x.fTower, .int .i64 k, .pointer none, .pointer none, .pointer none, .pointer none] := by rw [hwp]; exact Bw.new' _ _ _ hzi.symm
          have hbrp := bthen hbi hbp
          go_wp2_with fail
          rw [← hwi, ← hwp]
          refine (height_any x _).mono ?_
          rintro e w2 ⟨rfl, hx2⟩
          have hbr2 := bthen hbrp hx2
          have hb2 := bthen hbk2 hbr2
          obtain ⟨g, hg⟩ : ∃ g, g = wr.heap.size + 1 := ⟨_, rfl⟩
          rw [← hg] at hwt ⊢
          have hzr : w.heap.size + 1 < wr.heap.size := HLA.out.lt
          have HLTS : Hid (∀ j, j ≤ k → B j < wr.heap.size) := fun j hj => (HTW.out j hj).lt
          obtain ⟨B', HB'⟩ : ∃ B' : Nat → Nat, Hid ((∀ j, j ≤ k → B' j = B j) ∧ B' (k + 1) = g) := ⟨fun j => if j ≤ k then B j else g, fun j hj => if_pos hj, if_neg (by omega)⟩
          have HO2 : Hid ((∀ i j, i < j → j ≤ k + 1 → B' i < B' j) ∧ (∀ j, j ≤ k + 1 → w.heap.size ≤ B' j ∧ B' j ≠ w.heap.size + 1)) := by
            refine ⟨fun i j h1 h2 => ?_, fun j hj => ?_⟩
            · by_cases hj : j ≤ k
              · rw [HB'.out.1 i (by omega), HB'.out.1 j hj]; exact HO.out.1 i j h1 hj
              · obtain rfl : j = k + 1 := by omega
                rw [HB'.out.1 i (by omega), HB'.out.2, hg]
                have := HLTS.out i (by omega)
                omega
            · by_cases hj2 : j ≤ k
              · rw [HB'.out.1 j hj2]; exact HO.out.2 j hj2
              · obtain rfl : j = k + 1 := by omega
                rw [HB'.out.2, hg]
                omega
          have HT2 : Hid (∀ j, j ≤ k + 1 → Bw w2 (B' j) 75 (towV l B' (nxM l k 0 j) j)) := by
            intro j hj
            rw [nxM_zero]
            by_cases hj2 : j ≤ k
            · have h := (HTW.out j hj2).under hbr2
              rw [HB'.out.1 j hj2, towV_congr (B := B') (B' := B) (R := nx l k j) (R' := nx l k j) (fun h' _ => ?_)]
              · exact h
              · cases he : nx l k j h' with
                | none => rfl
                | some i => unfold pv; simp only; rw [HB'.out.1 i (nx_le l _ he)]
            · obtain rfl : j = k + 1 := by omega
              have h := hwt.under hx2
              rw [HB'.out.2]
              unfold towV
              rw [HIT.out, nx_over l k (by omega), nx_over l k (by omega), nx_over l k (by omega), nx_over l k (by omega)]
              exact h
          have HL2 : Hid (Bw w2 (w.heap.size + 1) 73 (lastV B' (lstM l k 0))) := by
            have h := HLA.out.under hbr2
            rw [lstM_zero]
            unfold Hid
            rw [lastV_congr (B := B') (B' := B) (L := lst l k) (L' := lst l k) (fun h' _ => HB'.out.1 _ (lst_le l k h'))]
            exact h
          have hB00 : B' 0 = w.heap.size := by rw [HB'.out.1 0 (by omega), hB0]
          have HGE : Hid (B' (k + 1) = g) := HB'.out.2
          clear hwi hwp hbxi hbxp hbi hbp hwt hbrp hx2 HTW HLA HO HLTS HB' k0 k1 k2 k3 hg hB0
          by_cases h4t : 4 < x.fTower
          · have HHM : Hid (hgt l (k + 1) = ((4 : Int)).toNat) := by show _ = _; rw [HHG.out]; omega
            have htm : (4 : Int) ≤ 4 := by omega
            generalize wr = wo at *
            go_wp2_with fail
            go_loopw [36] (fun i wr => ∃ h : Nat, h ≤ ((4 : Int)).toNat ∧ i = .int .i64 h ∧ Hid (∀ j, j ≤ k + 1 → Bw wr (B' j) 75 (towV l B' (nxM l k h j) j)) ∧ Hid (Bw wr (w.heap.size + 1) 73 (lastV B' (lstM l k h))) ∧ Below w.heap.size w wr) (fun i _ => ((4 : Int)).toNat - (intOf i).toNat)
            case atStart => exact ⟨0, Nat.zero_le _, rfl, HT2, HL2, hb2⟩
            case round =>
              obtain ⟨h, hh, rfl, HTh, HLh, hbh⟩ := hrel
              clear HT2 HL2
              by_cases hlt2 : (h : Int) < (4 : Int)
              · have hlt3 : h < ((4 : Int)).toNat := by omega
                have h4 : h < 4 := by omega
                have hhg : h < hgt l (k + 1) := by rw [HHM.out]; exact hlt3
                have hll : (lst l k h) ≤ k := lst_le l k h
                have hkn : k + 1 ≤ l.length := by rw [HX.out]; omega
                have y1 := HLh.out.cell h _ (lastV_at h4)
                rw [lstM_at] at y1
                have HST := Hid.mk (fun j => nxM_step (l := l) (k := k) (h := h) (j := j) hhg)
                have HLS := Hid.mk (lstM_step (l := l) (k := k) (h := h) hhg)
                obtain ⟨q, HQ⟩ : ∃ q, Hid (q = lst l k h) := ⟨_, Hid.mk rfl⟩
                rw [← HQ.out] at y1 hll
                simp only [← HQ.out] at HST
                have y2 := (HTh.out q (by omega)).cell (5 + h) _ (towV_right (by omega) h4)
                have f2 := (HTh.out q (by omega)).free (5 + h)
                have hbq := HO2.out.2 q (by omega)
                have f1 : (wr.setCell ⟨B' q, 5 + h, none⟩ (.pointer (some ⟨g, 0, none⟩))).frozen? ⟨w.heap.size + 1, h, none⟩ = false := (HLh.out.other (fun e => hbq.2 e.symm)).free h
                have y3 : (wr.setCell ⟨B' q, 5 + h, none⟩ (.pointer (some ⟨g, 0, none⟩))).cell? ⟨w.heap.size + 1, h, none⟩ = some (.pointer (some ⟨B' q, 0, none⟩)) := by
                  refine (HLh.out.other (fun e => hbq.2 e.symm)).cell h _ ?_
                  rw [lastV_at h4, lstM_at, ← HQ.out]
                have HT3 : Hid (∀ j, j ≤ k + 1 → Bw ((wr.setCell ⟨B' q, 5 + h, none⟩ (.pointer (some ⟨g, 0, none⟩))).setCell ⟨w.heap.size + 1, h, none⟩ (.pointer (some ⟨g, 0, none⟩))) (B' j) 75 (towV l B' (nxM l k (h + 1) j) j)) := by
                  intro j hj
                  refine Bw.other ?_ (HO2.out.2 j hj).2
                  by_cases he : j = q
                  · subst he
                    have h1 := (HTh.out j hj).put (5 + h) (.pointer (some ⟨g, 0, none⟩))
                    rw [towV_set (R' := nxM l k (h + 1) j) (by omega) h4 (by rw [(HST.out j).1 rfl]; unfold pv; simp only; rw [HGE.out]) (HST.out j).2.2] at h1
                    exact h1
                  · have hne : B' j ≠ B' q := by
                      rcases Nat.lt_or_gt_of_ne he with h1 | h1
                      · exact Nat.ne_of_lt (HO2.out.1 j q h1 (by omega))
                      · exact Nat.ne_of_gt (HO2.out.1 q j h1 hj)
                    have h1 := (HTh.out j hj).other (i := 5 + h) (u := .pointer (some ⟨g, 0, none⟩)) hne
                    rw [(HST.out j).2.1 he]
                    exact h1
                have HL3 : Hid (Bw ((wr.setCell ⟨B' q, 5 + h, none⟩ (.pointer (some ⟨g, 0, none⟩))).setCell ⟨w.heap.size + 1, h, none⟩ (.pointer (some ⟨g, 0, none⟩))) (w.heap.size + 1) 73 (lastV B' (lstM l k (h + 1)))) := by
                  have h1 := (HLh.out.other (b' := B' q) (i := 5 + h) (u := .pointer (some ⟨g, 0, none⟩)) (fun e => hbq.2 e.symm)).put h (.pointer (some ⟨g, 0, none⟩))
                  rw [lastV_set (L' := lstM l k (h + 1)) h4 (by rw [HLS.out.1]; unfold pv; simp only; rw [HGE.out]) HLS.out.2] at h1
                  exact h1
                have hb3 : Below w.heap.size w ((wr.setCell ⟨B' q, 5 + h, none⟩ (.pointer (some ⟨g, 0, none⟩))).setCell ⟨w.heap.size + 1, h, none⟩ (.pointer (some ⟨g, 0, none⟩))) := (hbh.setCell (p := ⟨B' q, 5 + h, none⟩) hbq.1 _).setCell (p := ⟨w.heap.size + 1, h, none⟩) (by simp) _
                have hh4 : (h : Int) < 4 := by omega
                have HHB := Hid.mk hb3
                obtain ⟨bq, hbqe⟩ : ∃ z, z = B' q := ⟨_, rfl⟩
                rw [← hbqe] at y1 y2 f2 f1 y3 HT3 HL3 HHB
                clear HTh HLh HST HLS hbq hb3 hbqe HQ hhg
                go_wp2_with fail
                go_roundw
                case rel => exact ⟨h + 1, by omega, by go_num, HT3, HL3, HHB.out⟩
                case measure => simp [intOf]; omega
              · have hhe : h = hgt l (k + 1) := by rw [HHM.out]; omega
                have HT3 : Hid (∀ j, j ≤ k + 1 → Bw wr (B' j) 75 (towV l B' (nx l (k + 1) j) j)) := fun j hj => by have h1 := HTh.out j hj; rw [nxM_full l k j hhe] at h1; exact h1
                have HL3 : Hid (Bw wr (w.heap.size + 1) 73 (lastV B' (lst l (k + 1)))) := by have h1 := HLh.out; rw [lstM_full l k hhe] at h1; exact h1
                clear HTh HLh hhe HHM
                go_wp2_with fail
                go_roundw
                case rel => exact ⟨k + 1, B', by omega, by go_num, hB00, HO2, HT3, HL3, hbh⟩
                case measure => simp [intOf]; omega
          · have HHM : Hid (hgt l (k + 1) = (x.fTower).toNat) := by show _ = _; rw [HHG.out]; omega
            have htm : x.fTower ≤ 4 := by omega
            generalize wr = wo at *
            go_wp2_with fail
            go_loopw [36] (fun i wr => ∃ h : Nat, h ≤ (x.fTower).toNat ∧ i = .int .i64 h ∧ Hid (∀ j, j ≤ k + 1 → Bw wr (B' j) 75 (towV l B' (nxM l k h j) j)) ∧ Hid (Bw wr (w.heap.size + 1) 73 (lastV B' (lstM l k h))) ∧ Below w.heap.size w wr) (fun i _ => (x.fTower).toNat - (intOf i).toNat)
            case atStart => exact ⟨0, Nat.zero_le _, rfl, HT2, HL2, hb2⟩
            case round =>
              obtain ⟨h, hh, rfl, HTh, HLh, hbh⟩ := hrel
              clear HT2 HL2
              by_cases hlt2 : (h : Int) < x.fTower
              · have hlt3 : h < (x.fTower).toNat := by omega
                have h4 : h < 4 := by omega
                have hhg : h < hgt l (k + 1) := by rw [HHM.out]; exact hlt3
                have hll : (lst l k h) ≤ k := lst_le l k h
                have hkn : k + 1 ≤ l.length := by rw [HX.out]; omega
                have y1 := HLh.out.cell h _ (lastV_at h4)
                rw [lstM_at] at y1
                have HST := Hid.mk (fun j => nxM_step (l := l) (k := k) (h := h) (j := j) hhg)
                have HLS := Hid.mk (lstM_step (l := l) (k := k) (h := h) hhg)
                obtain ⟨q, HQ⟩ : ∃ q, Hid (q = lst l k h) := ⟨_, Hid.mk rfl⟩
                rw [← HQ.out] at y1 hll
                simp only [← HQ.out] at HST
                have y2 := (HTh.out q (by omega)).cell (5 + h) _ (towV_right (by omega) h4)
                have f2 := (HTh.out q (by omega)).free (5 + h)
                have hbq := HO2.out.2 q (by omega)
                have f1 : (wr.setCell ⟨B' q, 5 + h, none⟩ (.pointer (some ⟨g, 0, none⟩))).frozen? ⟨w.heap.size + 1, h, none⟩ = false := (HLh.out.other (fun e => hbq.2 e.symm)).free h
                have y3 : (wr.setCell ⟨B' q, 5 + h, none⟩ (.pointer (some ⟨g, 0, none⟩))).cell? ⟨w.heap.size + 1, h, none⟩ = some (.pointer (some ⟨B' q, 0, none⟩)) := by
                  refine (HLh.out.other (fun e => hbq.2 e.symm)).cell h _ ?_
                  rw [lastV_at h4, lstM_at, ← HQ.out]
                have HT3 : Hid (∀ j, j ≤ k + 1 → Bw ((wr.setCell ⟨B' q, 5 + h, none⟩ (.pointer (some ⟨g, 0, none⟩))).setCell ⟨w.heap.size + 1, h, none⟩ (.pointer (some ⟨g, 0, none⟩))) (B' j) 75 (towV l B' (nxM l k (h + 1) j) j)) := by
                  intro j hj
                  refine Bw.other ?_ (HO2.out.2 j hj).2
                  by_cases he : j = q
                  · subst he
                    have h1 := (HTh.out j hj).put (5 + h) (.pointer (some ⟨g, 0, none⟩))
                    rw [towV_set (R' := nxM l k (h + 1) j) (by omega) h4 (by rw [(HST.out j).1 rfl]; unfold pv; simp only; rw [HGE.out]) (HST.out j).2.2] at h1
                    exact h1
                  · have hne : B' j ≠ B' q := by
                      rcases Nat.lt_or_gt_of_ne he with h1 | h1
                      · exact Nat.ne_of_lt (HO2.out.1 j q h1 (by omega))
                      · exact Nat.ne_of_gt (HO2.out.1 q j h1 hj)
                    have h1 := (HTh.out j hj).other (i := 5 + h) (u := .pointer (some ⟨g, 0, none⟩)) hne
                    rw [(HST.out j).2.1 he]
                    exact h1
                have HL3 : Hid (Bw ((wr.setCell ⟨B' q, 5 + h, none⟩ (.pointer (some ⟨g, 0, none⟩))).setCell ⟨w.heap.size + 1, h, none⟩ (.pointer (some ⟨g, 0, none⟩))) (w.heap.size + 1) 73 (lastV B' (lstM l k (h + 1)))) := by
                  have h1 := (HLh.out.other (b' := B' q) (i := 5 + h) (u := .pointer (some ⟨g, 0, none⟩)) (fun e => hbq.2 e.symm)).put h (.pointer (some ⟨g, 0, none⟩))
                  rw [lastV_set (L' := lstM l k (h + 1)) h4 (by rw [HLS.out.1]; unfold pv; simp only; rw [HGE.out]) HLS.out.2] at h1
                  exact h1
                have hb3 : Below w.heap.size w ((wr.setCell ⟨B' q, 5 + h, none⟩ (.pointer (some ⟨g, 0, none⟩))).setCell ⟨w.heap.size + 1, h, none⟩ (.pointer (some ⟨g, 0, none⟩))) := (hbh.setCell (p := ⟨B' q, 5 + h, none⟩) hbq.1 _).setCell (p := ⟨w.heap.size + 1, h, none⟩) (by simp) _
                have hh4 : (h : Int) < 4 := by omega
                have HHB := Hid.mk hb3
                obtain ⟨bq, hbqe⟩ : ∃ z, z = B' q := ⟨_, rfl⟩
                rw [← hbqe] at y1 y2 f2 f1 y3 HT3 HL3 HHB
                clear HTh HLh HST HLS hbq hb3 hbqe HQ hhg
                go_wp2_with fail
                go_roundw
                case rel => exact ⟨h + 1, by omega, by go_num, HT3, HL3, HHB.out⟩
                case measure => simp [intOf]; omega
              · have hhe : h = hgt l (k + 1) := by rw [HHM.out]; omega
                have HT3 : Hid (∀ j, j ≤ k + 1 → Bw wr (B' j) 75 (towV l B' (nx l (k + 1) j) j)) := fun j hj => by have h1 := HTh.out j hj; rw [nxM_full l k j hhe] at h1; exact h1
                have HL3 : Hid (Bw wr (w.heap.size + 1) 73 (lastV B' (lst l (k + 1)))) := by have h1 := HLh.out; rw [lstM_full l k hhe] at h1; exact h1
                clear HTh HLh hhe HHM
                go_wp2_with fail
                go_roundw
                case rel => exact ⟨k + 1, B', by omega, by go_num, hB00, HO2, HT3, HL3, hbh⟩
                case measure => simp [intOf]; omega
        · have hkn : k = n := by omega
          subst hkn
          go_wp2_with fail
          go_ret
          exact ⟨B, by rw [hB0]; rfl, HO.out.1, HTW.out, hbk2⟩

end Go.Proofs.YtadadkookbkkoaaDoor
