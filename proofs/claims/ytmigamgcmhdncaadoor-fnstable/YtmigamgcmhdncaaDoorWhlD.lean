/-
  The dots at the places of a set: the program's dotsAt.
-/
import Derived.Test.YtmigamgcmhdncaaDoorWhlS
import Derived.Test.YtmigamgcmhdncaaDoorSetM
namespace Go.Proofs.YtmigamgcmhdncaaDoor
open Go.RowKit
set_option linter.unusedVariables false
set_option linter.unusedSimpArgs false
set_option maxRecDepth 10000

set_option maxHeartbeats 4000000 in
theorem dotsAt_any (cs : List Value) (m : MGraph) (s : MSet) (w : World) (hr : rGraph w.heap.size w cs m) (hs : s.ok) (hn : m.fItems.length ≤ 100) :
    Calls Tryd.prog 38 #[.agg cs.toArray, .agg s.cells.toArray] w fun e w' => ∃ v : Value, e = .returned v ∧ RowR 2 40 rDot w.heap.size w' w.heap.size v (pickT s.has m.fItems m.fItems.length) ∧ Below w.heap.size w w' := by
  obtain ⟨iD, hiD, hzD0, hzD1, hzD2⟩ := info_parts Tryd.infoOfDot
  obtain ⟨a, cap, rfl, hL, _⟩ := hr
  have HL := Hid.mk hL
  obtain ⟨n, hx⟩ : ∃ n, n = m.fItems.length := ⟨_, rfl⟩
  rw [← hx] at hn ⊢
  have HX := Hid.mk hx
  have HSK := Hid.mk hs
  clear hL hx hs
  obtain ⟨X0, hX0⟩ : ∃ x : Nat, x = s.x0 := ⟨_, rfl⟩
  obtain ⟨X1, hX1⟩ : ∃ x : Nat, x = s.x1 := ⟨_, rfl⟩
  have HSC : Hid (s.cells.toArray = #[.int .u64 (X0 : Int), .int .u64 (X1 : Int)]) := by unfold Hid MSet.cells; rw [hX0, hX1]
  clear hX0 hX1
  rw [HSC.out]
  have hCh := fun (k : Nat) (hk : k < 128) (W : World) => has_any s k W HSK.out hk
  rw [HSC.out] at hCh
  go_enter Tryd.func38, Tryd.ntmps38
  go_wp2_with fail
  obtain ⟨w1, hw1⟩ : ∃ x, x = (w.alloc (.cells #[.slice a n cap] 30)).alloc (.cells #[.int .u64 (X0 : Int), .int .u64 (X1 : Int)] 66) := ⟨_, rfl⟩
  have hb01 : Below w.heap.size w w1 := by rw [hw1]; exact ((Below.refl _ _).alloc (Nat.le_refl _) _).alloc (by simp) _
  have hbs1 : Bx w1 (w.heap.size + 1) [.int .u64 (X0 : Int), .int .u64 (X1 : Int)] := by rw [hw1]; have h := Bx.new (w.alloc (.cells #[.slice a n cap] 30)) [.int .u64 (X0 : Int), .int .u64 (X1 : Int)] 66; simpa using h
  have hs1 : w.heap.size + 2 ≤ w1.heap.size := by rw [hw1]; simp
  rw [← hw1]
  clear hw1
  have HR0 : Hid (RowR 2 40 rDot w.heap.size w1 (w.heap.size + 2) (.slice none 0 0) (pickT s.has m.fItems 0)) := RowR.start
  go_loopw [5, 11] (fun v iv wr => ∃ k : Nat, k ≤ n ∧ iv = .int .i64 k ∧ Hid (RowR 2 40 rDot w.heap.size wr (w.heap.size + 2) v (pickT s.has m.fItems k)) ∧ Below (w.heap.size + 2) w1 wr) (fun _ iv _ => n - (intOf iv).toNat)
  case atStart => exact ⟨0, Nat.zero_le _, rfl, HR0, Below.refl _ _⟩
  case round =>
    obtain ⟨k, hk, rfl, HRk, hbk⟩ := hrel
    have hbw : Below w.heap.size w wr := hb01.trans (hbk.mono (by omega))
    have hbs := hbs1.below hbk (by omega)
    have hzk : w.heap.size + 2 ≤ wr.heap.size := Nat.le_trans hs1 hbk.size
    by_cases hlt : k < n
    · have hkl : k < m.fItems.length := by rw [← HX.out]; exact hlt
      obtain ⟨b1, o1, rfl, hB, cs, hcl, hcell, a2, c2, rfl, g0, g1, g2, _⟩ := (HL.out.2.2.below rItem_good hbw) k hkl
      have k0 := hcell 0 _ rfl
      have k1 := hcell 1 _ rfl
      have k2 := hcell 2 _ rfl
      rw [Nat.add_zero] at k0
      have hpl := pickT_len s.has m.fItems k
      have HPY : Hid (s.has k = true → pickT s.has m.fItems (k + 1) = pickT s.has m.fItems k ++ [m.fItems[k].fD]) := fun h => pickT_yes hkl h
      have HPN : Hid (s.has k = false → pickT s.has m.fItems (k + 1) = pickT s.has m.fItems k) := fun h => pickT_no h
      have hC := hCh k (by omega)
      clear hcell hcl g2
      generalize m.fItems[k] = x at *
      generalize hpk : pickT s.has m.fItems k = pl at *
      clear hpk
      obtain ⟨wp, hwp⟩ : ∃ y, y = wr.alloc (.cells #[.int .i64 x.fD.fR, .int .i64 x.fD.fN, .slice a2 x.fDeps.length c2] 52) := ⟨_, rfl⟩
      have hbp : Below wr.heap.size wr wp := by rw [hwp]; exact (Below.refl _ _).alloc (Nat.le_refl _) _
      have hbxp : Bx wp wr.heap.size [.int .i64 x.fD.fR, .int .i64 x.fD.fN, .slice a2 x.fDeps.length c2] := by rw [hwp]; exact Bx.new _ _ _
      have j0 := hbs.2 0 _ rfl
      have j1 := hbs.2 1 _ rfl
      have hjl : w.heap.size + 1 < wr.heap.size := hbs.1
      go_wp2_with fail
      rw [← hwp]
      clear hwp
      refine (hC wp).mono ?_
      rintro e w3 ⟨rfl, hx3⟩
      have hb3 := bthen hbp hx3
      have hbx3 := hbxp.under hx3
      have d0 := hbx3.2 0 _ rfl
      have d1 := hbx3.2 1 _ rfl
      have hz3 := hb3.size
      rcases hsk : s.has k with _ | _
      · have HP := Hid.mk (HPN.out hsk)
        have HRn := Hid.mk (RowR.keep rDot_good HRk.out hb3 (by omega))
        rw [← HP.out] at HRn
        go_wp2_with fail
        go_roundw
        case rel => exact ⟨k + 1, by omega, by go_num, HRn, hbk.trans (hb3.mono hzk)⟩
        case measure => simp [intOf]; omega
      · have HP := Hid.mk (HPY.out hsk)
        obtain ⟨css, r1, r2, r3, r4⟩ := RowR.keep rDot_good HRk.out hb3 (by omega)
        have HR1 := Hid.mk r1
        have HR2 := Hid.mk r2
        have HR3 := Hid.mk r3
        clear r1 r2 r3
        generalize x.fD = d at *
        obtain ⟨w5, hw5⟩ : ∃ y, y = w3.alloc (.cells #[.int .i64 d.fR, .int .i64 d.fN] 40) := ⟨_, rfl⟩
        have hb5 : Below w3.heap.size w3 w5 := by rw [hw5]; exact (Below.refl _ _).alloc (Nat.le_refl _) _
        have hbx5 : Bx w5 w3.heap.size [.int .i64 d.fR, .int .i64 d.fN] := by rw [hw5]; exact Bx.new _ _ _
        have r5 := own_below r4 hb5
        have hz5 := hb5.size
        go_wp2_with (at_builtin; rw [← hw5]; refine wpList_append_src_y rfl _ _ 26 26 rfl (w.heap.size + 2) 40 iD (.agg #[.int .i64 0, .int .i64 0]) 2 16 Tryd.underlying26 hiD hzD0 hzD1 hzD2 rfl _ _ _ rfl r5 _ rfl 1 [.int .i64 d.fR, .int .i64 d.fN] (Src.ofSlice w5 Tryd.underlying26 ⟨w3.heap.size, 0, none⟩ 1 1 _ rfl (bx_news hbx5) (by intro u hu; simp at hu; rcases hu with rfl | rfl <;> rfl)) (by unfold maxLen; omega) (by omega) (by omega) ?_; intro v6 w6 ho6 hgr6 hat6)
        have hT : Below (w.heap.size + 2) w3 w6 := (hb5.mono (by omega)).grown hgr6 (by omega) (fun x hx => (r4.lt x hx).1)
        have HRn : Hid (RowR 2 40 rDot w.heap.size w6 (w.heap.size + 2) v6 (pl ++ [d])) := RowR.push rDot_good HR1.out HR2.out HR3.out (hT.mono (by omega)) rfl ⟨rfl, g0, g1, trivial⟩ ho6
        rw [← HP.out] at HRn
        exact ⟨⟨k + 1, by omega, by go_num, HRn, (hbk.trans (hb3.mono hzk)).trans hT⟩, by simp [intOf]; omega⟩
    · have hkn : k = n := by omega
      subst hkn
      have HRb := Hid.mk (RowR.base HRk.out (show w.heap.size ≤ w.heap.size + 2 by omega))
      go_wp2_with fail
      go_ret
      exact ⟨_, rfl, HRb.out, hbw⟩

end Go.Proofs.YtmigamgcmhdncaaDoor
