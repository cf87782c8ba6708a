/-
  The program's copy of a graph: the same, in memory of its own.
-/
import Derived.Test.YtmigamgcmhdncaaDoorCatH
import Derived.Test.YtmigamgcmhdncaaDoorCatItem
import Derived.Test.YtmigamgcmhdncaaDoorCatDot
namespace Go.Proofs.YtmigamgcmhdncaaDoor
open Go.RowKit
set_option linter.unusedVariables false
set_option linter.unusedSimpArgs false
set_option maxRecDepth 10000

set_option maxHeartbeats 4000000 in
theorem copyGraph_any (cs : List Value) (m : MGraph) (w : World) (hr : rGraph w.heap.size w cs m) (hn : m.fItems.length ≤ 2097152) (hd : ∀ k, (h : k < m.fItems.length) → m.fItems[k].fDeps.length ≤ 1048576) :
    Calls Tryd.prog 59 #[.agg cs.toArray] w fun e w' => ∃ (cs' : List Value) (F : List Nat), e = .returned (.agg cs'.toArray) ∧ oGraph w' cs' m F ∧ F.Nodup ∧ (∀ b, b ∈ F → w.heap.size ≤ b) ∧ Below w.heap.size w w' := by
  obtain ⟨a, cap, rfl, hL, _⟩ := hr
  have HO : Hid (∀ (w' : World) (v : Value) (F : List Nat), ownS 3 52 oItem w' v m.fItems F → oGraph w' [v] m F) := fun w' v F h => ⟨v, F, rfl, h, by simp⟩
  obtain ⟨l, hl⟩ : ∃ l, l = m.fItems := ⟨_, rfl⟩
  have HD : Hid (∀ k, (h : k < l.length) → l[k].fDeps.length ≤ 1048576) := by unfold Hid; rw [hl]; exact hd
  rw [← hl] at hL hn HO ⊢
  clear hd hl
  obtain ⟨n, hx⟩ : ∃ n, n = l.length := ⟨_, rfl⟩
  have HL := Hid.mk hL
  have HX := Hid.mk hx.symm
  rw [← hx] at hn ⊢
  clear hL hx
  go_enter Tryd.func59, Tryd.ntmps59
  go_wp2_with fail
  obtain ⟨wq, hwq⟩ : ∃ wq, wq = ((w.alloc (.cells #[.slice a n cap] 30)).alloc (.cells #[.slice none 0 0] 30)).alloc (.cells #[.slice a n cap] 28) := ⟨_, rfl⟩
  have hbq : Below w.heap.size w wq := by rw [hwq]; exact (((Below.refl _ _).alloc (Nat.le_refl _) _).alloc (by simp) _).alloc (by simp; omega) _
  have hqs : wq.heap.size = w.heap.size + 3 := by rw [hwq]; simp
  have hbr : Bw wq (w.heap.size + 1) 30 [.slice none 0 0] := by rw [hwq]; exact (Bw.new' _ _ _ (by simp)).alloc _
  have hbx : Bx wq (w.heap.size + 1 + 1) [.slice a n cap] := by rw [hwq]; have h := Bx.new ((w.alloc (.cells #[.slice a n cap] 30)).alloc (.cells #[.slice none 0 0] 30)) [.slice a n cap] 28; simpa using h
  rw [← hwq]
  clear hwq
  have HQS := Hid.mk hqs
  clear hqs
  refine (concatItem_any (w.heap.size + 1 + 1) 1 [(a, cap, l)] wq rfl (by omega) hbx.1 (fun i h => ?_) (fun i h => ?_) ?_).mono ?_
  · have h0 : i = 0 := by simp at h; omega
    subst h0
    simp only [List.getElem_cons_zero, HX.out]
    exact hbx.2 0 _ rfl
  · have h0 : i = 0 := by simp at h; omega
    subst h0
    exact (HL.out.below rItem_good hbq).mono rItem_good hbq.size
  · have h0 : sumW lenItem [(a, cap, l)] = l.length := by simp [sumW, lenItem]
    rw [h0, HX.out]; omega
  rintro e w1 ⟨v, rfl, hrow, hx1⟩
  have hcat : catItem [(a, cap, l)] = l := by simp [catItem]
  rw [hcat] at hrow
  clear hcat
  have hb1 := bthen hbq hx1
  obtain ⟨css, q1, q2, q3, q4⟩ := id hrow
  rcases q4.2 with ⟨rfl, h0⟩ | ⟨g, c2, cur, rfl, hb, hg, hnc, hm, hs, ht⟩
  · have hl0 : l = [] := List.eq_nil_of_length_eq_zero h0
    have hn0 : n = 0 := by have := HX.out; omega
    subst hl0
    subst hn0
    have HF : Hid (ownS 3 52 oItem (w1.setCell ⟨w.heap.size + 1, 0, none⟩ (.slice none 0 0)) (.slice none 0 0) ([] : List MItem) []) := .inl ⟨rfl, rfl, rfl⟩
    have hbw := hbr.under hx1
    have y0 := hbw.cell 0 _ rfl
    have y1 := hbw.free 0
    have hyl := hbw.lt
    clear hrow q1 q2 q3 q4 h0
    go_wp2_with fail
    go_loopw [12] (fun i wr => i = .int .i64 0 ∧ wr = w1) (fun _ _ => 0)
    case atStart => exact ⟨rfl, rfl⟩
    case round =>
      obtain ⟨rfl, hwr⟩ := hrel
      replace hwr := hwr.symm
      subst hwr
      go_wp2_with fail
      exact bodyPost_ret (v := .agg #[.slice none 0 0]) (by simp [results, Tryd.results59, go_sem, *]) rfl ⟨[.slice none 0 0], [], rfl, HO.out _ _ _ HF.out, List.nodup_nil, (fun b hb => by cases hb), hb1.setCell (by simp) _⟩
  · rw [HX.out]
    obtain ⟨hH0, hgB, hgl⟩ := Half.start (O := oItem) hrow
    have HH0 := Hid.mk hH0
    have hcm : c2 ≤ 9223372036854775807 := by simpa [maxLen] using hm
    clear hrow q1 q2 q3 q4 hH0 hb hg hs ht cur
    have hqs := HQS.out
    go_wp2_with fail
    go_loopw [12] (fun i wr => ∃ (k : Nat) (Fs : List (List Nat)), k ≤ n ∧ i = .int .i64 k ∧ Hid (Half 3 52 oItem rItem wq.heap.size wr g c2 l k Fs) ∧ g < wr.heap.size ∧ Below wq.heap.size wq wr) (fun i _ => n - (intOf i).toNat)
    case atStart => exact ⟨0, [], Nat.zero_le _, rfl, HH0, hgl, hx1⟩
    case round =>
      obtain ⟨k, Fs, hk, rfl, HHk, hgw, hbk⟩ := hrel
      have hbz := hbk.size
      by_cases hlt : k < n
      · have hkl : k < l.length := by rw [HX.out]; exact hlt
        obtain ⟨cs, hRk, hcl, hcell, hfz, hstep⟩ := HHk.out.at hkl
        have hdk := HD.out k hkl
        obtain ⟨a2, e2, rfl, g0, g1, g2, _⟩ := hRk
        have HST := Hid.mk hstep
        have HG2 := Hid.mk g2
        have k0 := hcell 0 _ rfl
        have k1 := hcell 1 _ rfl
        have k2 := hcell 2 _ rfl
        rw [Nat.add_zero] at k0
        clear hcell hstep g2 hcl
        generalize l[k] = x at *
        go_wp2_with fail
        obtain ⟨wz, hwz⟩ : ∃ wz, wz = (wr.alloc (.cells #[.int .i64 x.fD.fR, .int .i64 x.fD.fN, .slice a2 x.fDeps.length e2] 52)).alloc (.cells #[.slice a2 x.fDeps.length e2] 26) := ⟨_, rfl⟩
        have hbzz : Below wr.heap.size wr wz := by rw [hwz]; exact ((Below.refl _ _).alloc (Nat.le_refl _) _).alloc (by simp) _
        have hbz1 : Bx wz (wr.heap.size + 1) [.slice a2 x.fDeps.length e2] := by rw [hwz]; have h := Bx.new (wr.alloc (.cells #[.int .i64 x.fD.fR, .int .i64 x.fD.fN, .slice a2 x.fDeps.length e2] 52)) [.slice a2 x.fDeps.length e2] 26; simpa using h
        rw [← hwz]
        clear hwz
        have hbzw : Below wq.heap.size wr wz := hbzz.mono hbz
        have hzz := hbzz.size
        refine (concatDot_any (wr.heap.size + 1) 1 [(a2, e2, x.fDeps)] wz rfl (by omega) hbz1.1 (fun i h => ?_) (fun i h => ?_) ?_).mono ?_
        · have h0 : i = 0 := by simp at h; omega
          subst h0
          exact hbz1.2 0 _ rfl
        · have h0 : i = 0 := by simp at h; omega
          subst h0
          exact (HG2.out.below rDot_good hbzw).mono rDot_good (by omega)
        · have h0 : sumW lenDot [(a2, e2, x.fDeps)] = x.fDeps.length := by simp [sumW, lenDot]
          rw [h0]; omega
        rintro e w2 ⟨v2, rfl, hrow2, hx2⟩
        have hcat2 : catDot [(a2, e2, x.fDeps)] = x.fDeps := by simp [catDot]
        rw [hcat2] at hrow2
        clear hcat2
        obtain ⟨ho2, hN2, hge2⟩ := dots_own hrow2
        have hb2 : Below wr.heap.size wr w2 := bthen hbzz hx2
        have HNX : Hid (Half 3 52 oItem rItem wq.heap.size (w2.setCell ⟨g, k * 3 + 2, none⟩ v2) g c2 l (k + 1) (Fs ++ [v2.ownBlock.toList])) := HST.out w2 2 v2 _ hgB hgw hb2 (by omega) rItem_good oItem_good ⟨v2, _, rfl, g0, g1, ho2, by simp⟩ hN2 (fun b hb => by have := hge2 b hb; omega) hbz
        have hbN : Below wq.heap.size wq (w2.setCell ⟨g, k * 3 + 2, none⟩ v2) := (bthen hbk hb2).setCell hgB v2
        have t2 := (hb2.cell (p := ⟨g, k * 3 + 2, none⟩) hgw).trans k2
        have tf : w2.frozen? ⟨g, k * 3 + 2, none⟩ = false := by
          obtain ⟨cur, c1, _⟩ := HHk.out.row
          exact frozen_of_row w2 g _ cur _ ((hb2.block g hgw).trans c1)
        have hg2 : g < w2.heap.size := Nat.lt_of_lt_of_le hgw hb2.size
        have hone : v2.oneCell' = true := by obtain ⟨_, _, h, _⟩ := ownS.read oDot_good ho2; rw [h]; rfl
        obtain ⟨av, cv, rfl, _⟩ := ownS.read oDot_good ho2
        clear hrow2 ho2 hN2 hge2 HST HHk k0 k1 k2 hfz
        go_wp2_with fail
        go_roundw
        case rel => exact ⟨k + 1, _, by omega, by go_num, HNX, by simpa using hg2, hbN⟩
        case measure => simp [intOf]; omega
      · have hkn : k = n := by omega
        have hd2 := HHk.out.done (by rw [HX.out]; omega) (by rw [HX.out]; omega)
        have hov := HHk.out.over
        have HD2 := Hid.mk hd2
        have HOV := Hid.mk hov
        clear hd2 hov HHk
        have hbw := hbr.under hbk
        have y0 := hbw.cell 0 _ rfl
        have y1 := hbw.free 0
        have hyl := hbw.lt
        go_wp2_with fail
        refine bodyPost_ret (v := .agg #[.slice (some ⟨g, 0, none⟩) n c2]) (by simp [results, Tryd.results59, go_sem, *]) rfl ⟨[.slice (some ⟨g, 0, none⟩) n c2], g :: Fs.flatten, rfl, HO.out _ _ _ ?_, HD2.out.2, ?_, (bthen hbq hbk).setCell (by simp) _⟩
        · have h := HD2.out.1
          rw [HX.out] at h
          refine ownS.frame oItem_good h (fun b hb => heap_setCell_other wr ⟨w.heap.size + 1, 0, none⟩ b _ ?_)
          rcases List.mem_cons.1 hb with rfl | hb
          · show b ≠ w.heap.size + 1; omega
          · have := HOV.out b hb; show b ≠ w.heap.size + 1; omega
        · intro b hb
          rcases List.mem_cons.1 hb with rfl | hb
          · omega
          · have := HOV.out b hb; omega

end Go.Proofs.YtmigamgcmhdncaaDoor
