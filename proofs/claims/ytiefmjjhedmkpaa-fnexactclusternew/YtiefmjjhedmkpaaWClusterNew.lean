/-
  The exact law of ClusterNew: at every number the program and the specification answer the same.
-/
import Derived.Test.YtiefmjjhedmkpaaCluI
import Derived.Test.YtiefmjjhedmkpaaCluC
namespace Go.Proofs.Ytiefmjjhedmkpaa
open Go.RowKit Go.Maps
set_option linter.unusedVariables false
set_option linter.unusedSimpArgs false
set_option maxRecDepth 10000

set_option maxHeartbeats 4000000 in
theorem law_FnExactClusterNew (n : Int) (w : World) (h0 : (Lit.int .i64 n).wf = true) :
    Calls Try.prog 3 #[.int .i64 n] w fun e w' => e = .returned (.bool true) ∧ Below w.heap.size w w' := by
  have HI := Hid.mk (fun W : World => implClusterNew_any n W h0)
  have HS := Hid.mk (fun W : World => specClusterNew_any n W h0)
  have hN7 : (clL n).length ≤ 7 := by rw [clL_len]; exact clN_le n
  generalize clL n = l at HI HS hN7
  obtain ⟨N, hN⟩ : ∃ N, N = l.length := ⟨_, rfl⟩
  rw [← hN] at hN7
  have HN := Hid.mk hN
  clear hN
  have hcnt : sumW cntRn l ≤ 21 := by
    have h : ∀ q : List MRn, sumW cntRn q = 3 * q.length := by
      intro q
      induction q with
      | nil => rfl
      | cons x r ih => simp only [sumW, ih, List.length_cons, cntRn]; omega
    rw [h, ← HN.out]; omega
  obtain ⟨Q, hQ⟩ : ∃ Q : Int, Q = 1 + (sumW cntRn l : Int) := ⟨_, rfl⟩
  have HQ := Hid.mk hQ
  have hQ1 : 0 ≤ Q := by omega
  have hQ2 : Q ≤ 22 := by omega
  have hc2 : (1 : Int) + (sumW cntRn l : Int) ≤ 70368744177664 := by omega
  clear hQ hcnt
  go_enter Try.func3, Try.ntmps3
  go_wp2_with fail
  refine (HS.out w).mono ?_
  rintro e w1 ⟨v0, F0, rfl, ho0, _, _, hx1⟩
  obtain ⟨a0, c0, hv0, hl0⟩ := ownS.read oRn_good ho0
  rw [← HN.out] at hv0
  subst hv0
  have HL0 := Hid.mk hl0
  clear ho0 hl0
  go_wp2_with fail
  obtain ⟨wq, hwq⟩ : ∃ wq, wq = w1.alloc (.cells #[.slice a0 N c0, .slice none 0 0, .slice none 0 0] 26) := ⟨_, rfl⟩
  have hxq : Below w1.heap.size w1 wq := by rw [hwq]; exact (Below.refl _ _).alloc (Nat.le_refl _) _
  have hbW : Below w.heap.size w wq := bthen hx1 hxq
  have hbx : Bx wq w1.heap.size [.slice a0 N c0, .slice none 0 0, .slice none 0 0] := by rw [hwq]; exact Bx.new _ _ _
  replace HL0 : Hid (LeafL 8 rRn wq.heap.size wq a0 c0 l) := LeafL.mono rRn_good (LeafL.below rRn_good HL0.out hxq) hxq.size
  rw [← hwq]
  clear hwq hx1 hxq
  refine (HI.out wq).mono ?_
  rintro e w2 ⟨v1, F1, rfl, ho1, hN1, hge1, hx2⟩
  obtain ⟨a1, c1, hv1, _⟩ := ownS.read oRn_good ho1
  rw [← HN.out] at hv1
  subst hv1
  have HBQ := Hid.mk hx2
  have HGQ : Hid (∀ b, b ∈ F1 → wq.heap.size ≤ b) := hge1
  have HO1 := Hid.mk ho1
  have HGE1 : Hid (∀ b, b ∈ F1 → w1.heap.size < b) := fun b hb => Nat.lt_of_lt_of_le hbx.1 (hge1 b hb)
  have HGW : Hid (∀ b, b ∈ F1 → w.heap.size ≤ b) := fun b hb => Nat.le_trans hbW.size (hge1 b hb)
  clear ho1 hge1
  replace hbW := bthen hbW hx2
  replace hbx := hbx.under hx2
  clear hx2
  have y0 := fun o => (hbx.alloc o).2 0 _ rfl
  have y1 := fun o => (hbx.alloc o).2 1 _ rfl
  have y2 := fun o => (hbx.alloc o).2 2 _ rfl
  go_wp2_with fail
  obtain ⟨wr, hwr⟩ : ∃ wr, wr = w2.alloc (.cells #[.slice a1 N c1, .slice none 0 0, .slice none 0 0] 26) := ⟨_, rfl⟩
  have hxr : Below w2.heap.size w2 wr := by rw [hwr]; exact (Below.refl _ _).alloc (Nat.le_refl _) _
  have hbR : Below w.heap.size w wr := bthen hbW hxr
  have hby : Bx wr w2.heap.size [.slice a1 N c1, .slice none 0 0, .slice none 0 0] := by rw [hwr]; exact Bx.new _ _ _
  replace hbx : Bx wr w1.heap.size [.slice a0 N c0, .slice none 0 0, .slice none 0 0] := hbx.under hxr
  replace HBQ := Hid.mk (bthen HBQ.out hxr)
  have HLT1 : Hid (∀ b, b ∈ F1 → b < w2.heap.size) := fun b hb => ownS.lt oRn_good HO1.out b hb
  replace HO1 : Hid (ownS 8 37 oRn wr (.slice a1 N c1) l F1) := ownS.frame oRn_good HO1.out (fun b hb => hxr.block b (HLT1.out b hb))
  rw [← hwr]
  clear hwr hbW y0 y1 y2 hxr
  have y0 := hbx.2 0 _ rfl
  have y1 := hbx.2 1 _ rfl
  have y2 := hbx.2 2 _ rfl
  have z0 := hby.2 0 _ rfl
  have z1 := hby.2 1 _ rfl
  have z2 := hby.2 2 _ rfl
  go_wp2_with fail
  refine (eqCluster_new _ _ N _ _ l wr HN.out.symm (by have h := HO1.out; rw [HN.out] at h; exact ownS.leaf oRn_good h) (LeafL.mono rRn_good (LeafL.below rRn_good HL0.out HBQ.out) HBQ.out.size)).mono ?_
  rintro e w11 ⟨rfl, hx⟩
  replace hbR := bthen hbR hx
  replace hbx := hbx.under hx
  replace hby := hby.under hx
  replace HO1 : Hid (ownS 8 37 oRn w11 (.slice a1 N c1) l F1) := ownS.frame oRn_good HO1.out (fun b hb => hx.block b (ownS.lt oRn_good HO1.out b hb))
  replace HBQ := Hid.mk (bthen HBQ.out hx)
  clear y0 y1 y2 z0 z1 z2
  clear hx
  have y0 := hbx.2 0 _ rfl
  have y1 := hbx.2 1 _ rfl
  have y2 := hbx.2 2 _ rfl
  have z0 := hby.2 0 _ rfl
  have z1 := hby.2 1 _ rfl
  have z2 := hby.2 2 _ rfl
  go_wp2_with fail
  refine (markCluster_new _ l F1 1 w11 (by omega) hc2 HO1.out hN1).mono ?_
  rintro e w12 ⟨rfl, l1, ho2, hl2, hh2, ht2⟩
  rw [← HQ.out] at hh2 ⊢
  rw [← HN.out] at hl2
  have HO2 := Hid.mk ho2
  have HH2 := Hid.mk hh2
  have HN2 := Hid.mk hl2
  clear ho2 hh2 hl2
  clear y0 y1 y2 z0 z1 z2
  replace hbx := hbx.turn ht2 (fun h => by have := HGE1.out _ h; omega)
  replace hby := hby.turn ht2 (fun h => by have := HLT1.out _ h; omega)
  replace hbR : Below w.heap.size w w12 := hbR.trans (ht2.below HGW.out hbR.size)
  replace HBQ : Hid (Below wq.heap.size wq w12) := HBQ.out.trans (ht2.below HGQ.out HBQ.out.size)
  clear ht2 HO1
  have y0 := hbx.2 0 _ rfl
  have y1 := hbx.2 1 _ rfl
  have y2 := hbx.2 2 _ rfl
  have z0 := hby.2 0 _ rfl
  have z1 := hby.2 1 _ rfl
  have z2 := hby.2 2 _ rfl
  go_wp2_with fail
  refine (heldCluster_new _ N _ l1 1 Q w12 HN2.out (by have h := HO2.out; rw [← HN2.out] at h; exact ownS.leaf oRn_good h) HH2.out (by omega) hQ1 (by omega)).mono ?_
  rintro e w13 ⟨rfl, hx⟩
  replace hbR := bthen hbR hx
  replace hbx := hbx.under hx
  replace hby := hby.under hx
  replace HO2 : Hid (ownS 8 37 oRn w13 (.slice a1 N c1) l1 F1) := ownS.frame oRn_good HO2.out (fun b hb => hx.block b (ownS.lt oRn_good HO2.out b hb))
  replace HBQ := Hid.mk (bthen HBQ.out hx)
  clear y0 y1 y2 z0 z1 z2 hx
  have y0 := hbx.2 0 _ rfl
  have y1 := hbx.2 1 _ rfl
  have y2 := hbx.2 2 _ rfl
  have z0 := hby.2 0 _ rfl
  have z1 := hby.2 1 _ rfl
  have z2 := hby.2 2 _ rfl
  go_wp2_with fail
  refine (HI.out w13).mono ?_
  rintro e w14 ⟨v4, F4, rfl, ho4, _, _, hx⟩
  obtain ⟨a4, c4, hv4, hl4⟩ := ownS.read oRn_good ho4
  rw [← HN.out] at hv4
  subst hv4
  have HL4 := Hid.mk hl4
  clear ho4 hl4
  replace hbR := bthen hbR hx
  replace hbx := hbx.under hx
  replace hby := hby.under hx
  replace HO2 : Hid (ownS 8 37 oRn w14 (.slice a1 N c1) l1 F1) := ownS.frame oRn_good HO2.out (fun b hb => hx.block b (ownS.lt oRn_good HO2.out b hb))
  replace HBQ := Hid.mk (bthen HBQ.out hx)
  clear y0 y1 y2 z0 z1 z2
  clear hx
  have y0 := fun o => (hbx.alloc o).2 0 _ rfl
  have y1 := fun o => (hbx.alloc o).2 1 _ rfl
  have y2 := fun o => (hbx.alloc o).2 2 _ rfl
  have z0 := fun o => (hby.alloc o).2 0 _ rfl
  have z1 := fun o => (hby.alloc o).2 1 _ rfl
  have z2 := fun o => (hby.alloc o).2 2 _ rfl
  go_wp2_with fail
  obtain ⟨wt, hwt⟩ : ∃ wt, wt = w14.alloc (.cells #[.slice a4 N c4, .slice none 0 0, .slice none 0 0] 26) := ⟨_, rfl⟩
  have hxt : Below w14.heap.size w14 wt := by rw [hwt]; exact (Below.refl _ _).alloc (Nat.le_refl _) _
  replace hbR : Below w.heap.size w wt := bthen hbR hxt
  have hbz : Bx wt w14.heap.size [.slice a4 N c4, .slice none 0 0, .slice none 0 0] := by rw [hwt]; exact Bx.new _ _ _
  replace hbx := hbx.under hxt
  replace hby := hby.under hxt
  replace HO2 : Hid (ownS 8 37 oRn wt (.slice a1 N c1) l1 F1) := ownS.frame oRn_good HO2.out (fun b hb => hxt.block b (ownS.lt oRn_good HO2.out b hb))
  replace HBQ := Hid.mk (bthen HBQ.out hxt)
  replace HL4 : Hid (LeafL 8 rRn wt.heap.size wt a4 c4 l) := LeafL.mono rRn_good (LeafL.below rRn_good HL4.out hxt) hxt.size
  rw [← hwt]
  clear hwt hxt y0 y1 y2 z0 z1 z2
  have x0 := hbz.2 0 _ rfl
  have x1 := hbz.2 1 _ rfl
  have x2 := hbz.2 2 _ rfl
  have y0 := hbx.2 0 _ rfl
  have y1 := hbx.2 1 _ rfl
  have y2 := hbx.2 2 _ rfl
  have z0 := hby.2 0 _ rfl
  have z1 := hby.2 1 _ rfl
  have z2 := hby.2 2 _ rfl
  go_wp2_with fail
  refine (eqCluster_new _ _ N _ _ l wt HN.out.symm HL4.out (LeafL.mono rRn_good (LeafL.below rRn_good HL0.out HBQ.out) HBQ.out.size)).mono ?_
  rintro e w16 ⟨rfl, hx⟩
  replace hbR := bthen hbR hx
  replace hbx := hbx.under hx
  replace hby := hby.under hx
  replace HO2 : Hid (ownS 8 37 oRn w16 (.slice a1 N c1) l1 F1) := ownS.frame oRn_good HO2.out (fun b hb => hx.block b (ownS.lt oRn_good HO2.out b hb))
  clear x0 x1 x2 y0 y1 y2 z0 z1 z2 hx
  have y0 := hbx.2 0 _ rfl
  have y1 := hbx.2 1 _ rfl
  have y2 := hbx.2 2 _ rfl
  have z0 := hby.2 0 _ rfl
  have z1 := hby.2 1 _ rfl
  have z2 := hby.2 2 _ rfl
  go_wp2_with fail
  refine (heldCluster_new _ N _ l1 1 Q w16 HN2.out (by have h := HO2.out; rw [← HN2.out] at h; exact ownS.leaf oRn_good h) HH2.out (by omega) hQ1 (by omega)).mono ?_
  rintro e w17 ⟨rfl, hx⟩
  replace hbR := bthen hbR hx
  clear y0 y1 y2 z0 z1 z2 hx
  go_wp2_with fail
  go_ret
  exact ⟨rfl, hbR⟩

end Go.Proofs.Ytiefmjjhedmkpaa
