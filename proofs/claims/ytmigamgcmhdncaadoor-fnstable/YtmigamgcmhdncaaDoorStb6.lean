/-
  Part 7 of the texts that the proof leans on.
-/
import Derived.Test.YtmigamgcmhdncaaDoorStb5
import Derived.Test.YtmigamgcmhdncaaDoorStb0
import Derived.Test.YtmigamgcmhdncaaDoorStb3
set_option linter.unusedVariables false
set_option linter.unusedSimpArgs false
set_option maxRecDepth 10000

namespace Go.Proofs.YtmigamgcmhdncaaDoor
open Go.RowKit

set_option maxHeartbeats 4000000 in
theorem copyGraph_any (cs : List Value) (m : MGraph) (w : World) (hr : rGraph w.heap.size w cs m) (hn : m.fItems.length ≤ 2097152) (hd : ∀ k, (h : k < m.fItems.length) → m.fItems[k].fDeps.length ≤ 1048576) :
    Calls Tryd.prog 59 #[.agg cs.toArray] w fun e w' => ∃ (cs' : List Value) (F : List Nat), e = .returned (.agg cs'.toArray) ∧ oGraph w' cs' m F ∧ F.Nodup ∧ (∀ b, b ∈ F → w.heap.size ≤ b) ∧ Below w.heap.size w w' := by
  obtain ⟨a, cap, rfl, hL, _⟩ := hr
  have HO : Hid (∀ (w' : World) (v : Value) (F : List Nat), ownS 3 52 oItem w' v m.fItems F → oGraph w' [v] m F) := fun w' v F h => ⟨v, F, rfl, h, by simp⟩
  obtain ⟨l, hl⟩ : ∃ l, l = m.fItems := ⟨_, rfl⟩
  have HD : Hid (∀ k, (h : k < l.length) → l[k].fDeps.length ≤ 1048576) := by unfold Hid; rw [hl]; exact hd
  rw [← hl] at hL hn HO ⊢
  clear hd hl
  obtain ⟨n, hx⟩ : ∃ n, n = l.length := ⟨_, rfl⟩
  have HL := Hid.mk hL
  have HX := Hid.mk hx.symm
  rw [← hx] at hn ⊢
  clear hL hx
  go_enter Tryd.func59, Tryd.ntmps59
  go_wp2_with fail
  obtain ⟨wq, hwq⟩ : ∃ wq, wq = ((w.alloc (.cells #[.slice a n cap] 30)).alloc (.cells #[.slice none 0 0] 30)).alloc (.cells #[.slice a n cap] 28) := ⟨_, rfl⟩
  have hbq : Below w.heap.size w wq := by rw [hwq]; exact (((Below.refl _ _).alloc (Nat.le_refl _) _).alloc (by simp) _).alloc (by simp; omega) _
  have hqs : wq.heap.size = w.heap.size + 3 := by rw [hwq]; simp
  have hbr : Bw wq (w.heap.size + 1) 30 [.slice none 0 0] := by rw [hwq]; exact (Bw.new' _ _ _ (by simp)).alloc _
  have hbx : Bx wq (w.heap.size + 1 + 1) [.slice a n cap] := by rw [hwq]; have h := Bx.new ((w.alloc (.cells #[.slice a n cap] 30)).alloc (.cells #[.slice none 0 0] 30)) [.slice a n cap] 28; simpa using h
  rw [← hwq]
  clear hwq
  have HQS := Hid.mk hqs
  clear hqs
  refine (concatItem_any (w.heap.size + 1 + 1) 1 [(a, cap, l)] wq rfl (by omega) hbx.1 (fun i h => ?_) (fun i h => ?_) ?_).mono ?_
  · have h0 : i = 0 := by simp at h; omega
    subst h0
    simp only [List.getElem_cons_zero, HX.out]
    exact hbx.2 0 _ rfl
  · have h0 : i = 0 := by simp at h; omega
    subst h0
    exact (HL.out.below rItem_good hbq).mono rItem_good hbq.size
  · have h0 : sumW lenItem [(a, cap, l)] = l.length := by simp [sumW, lenItem]
    rw [h0, HX.out]; omega
  rintro e w1 ⟨v, rfl, hrow, hx1⟩
  have hcat : catItem [(a, cap, l)] = l := by simp [catItem]
  rw [hcat] at hrow
  clear hcat
  have hb1 := bthen hbq hx1
  obtain ⟨css, q1, q2, q3, q4⟩ := id hrow
  rcases q4.2 with ⟨rfl, h0⟩ | ⟨g, c2, cur, rfl, hb, hg, hnc, hm, hs, ht⟩
  · have hl0 : l = [] := List.eq_nil_of_length_eq_zero h0
    have hn0 : n = 0 := by have := HX.out; omega
    subst hl0
    subst hn0
    have HF : Hid (ownS 3 52 oItem (w1.setCell ⟨w.heap.size + 1, 0, none⟩ (.slice none 0 0)) (.slice none 0 0) ([] : List MItem) []) := .inl ⟨rfl, rfl, rfl⟩
    have hbw := hbr.under hx1
    have y0 := hbw.cell 0 _ rfl
    have y1 := hbw.free 0
    have hyl := hbw.lt
    clear hrow q1 q2 q3 q4 h0
    go_wp2_with fail
    go_loopw [12] (fun i wr => i = .int .i64 0 ∧ wr = w1) (fun _ _ => 0)
    case atStart => exact ⟨rfl, rfl⟩
    case round =>
      obtain ⟨rfl, hwr⟩ := hrel
      replace hwr := hwr.symm
      subst hwr
      go_wp2_with fail
      exact bodyPost_ret (v := .agg #[.slice none 0 0]) (by simp [results, Tryd.results59, go_sem, *]) rfl ⟨[.slice none 0 0], [], rfl, HO.out _ _ _ HF.out, List.nodup_nil, (fun b hb => by cases hb), hb1.setCell (by simp) _⟩
  · rw [HX.out]
    obtain ⟨hH0, hgB, hgl⟩ := Half.start (O := oItem) hrow
    have HH0 := Hid.mk hH0
    have hcm : c2 ≤ 9223372036854775807 := by simpa [maxLen] using hm
    clear hrow q1 q2 q3 q4 hH0 hb hg hs ht cur
    have hqs := HQS.out
    go_wp2_with fail
    go_loopw [12] (fun i wr => ∃ (k : Nat) (Fs : List (List Nat)), k ≤ n ∧ i = .int .i64 k ∧ Hid (Half 3 52 oItem rItem wq.heap.size wr g c2 l k Fs) ∧ g < wr.heap.size ∧ Below wq.heap.size wq wr) (fun i _ => n - (intOf i).toNat)
    case atStart => exact ⟨0, [], Nat.zero_le _, rfl, HH0, hgl, hx1⟩
    case round =>
      obtain ⟨k, Fs, hk, rfl, HHk, hgw, hbk⟩ := hrel
      have hbz := hbk.size
      by_cases hlt : k < n
      · have hkl : k < l.length := by rw [HX.out]; exact hlt
        obtain ⟨cs, hRk, hcl, hcell, hfz, hstep⟩ := HHk.out.at hkl
        have hdk := HD.out k hkl
        obtain ⟨a2, e2, rfl, g0, g1, g2, _⟩ := hRk
        have HST := Hid.mk hstep
        have HG2 := Hid.mk g2
        have k0 := hcell 0 _ rfl
        have k1 := hcell 1 _ rfl
        have k2 := hcell 2 _ rfl
        rw [Nat.add_zero] at k0
        clear hcell hstep g2 hcl
        generalize l[k] = x at *
        go_wp2_with fail
        obtain ⟨wz, hwz⟩ : ∃ wz, wz = (wr.alloc (.cells #[.int .i64 x.fD.fR, .int .i64 x.fD.fN, .slice a2 x.fDeps.length e2] 52)).alloc (.cells #[.slice a2 x.fDeps.length e2] 26) := ⟨_, rfl⟩
        have hbzz : Below wr.heap.size wr wz := by rw [hwz]; exact ((Below.refl _ _).alloc (Nat.le_refl _) _).alloc (by simp) _
        have hbz1 : Bx wz (wr.heap.size + 1) [.slice a2 x.fDeps.length e2] := by rw [hwz]; have h := Bx.new (wr.alloc (.cells #[.int .i64 x.fD.fR, .int .i64 x.fD.fN, .slice a2 x.fDeps.length e2] 52)) [.slice a2 x.fDeps.length e2] 26; simpa using h
        rw [← hwz]
        clear hwz
        have hbzw : Below wq.heap.size wr wz := hbzz.mono hbz
        have hzz := hbzz.size
        refine (concatDot_any (wr.heap.size + 1) 1 [(a2, e2, x.fDeps)] wz rfl (by omega) hbz1.1 (fun i h => ?_) (fun i h => ?_) ?_).mono ?_
        · have h0 : i = 0 := by simp at h; omega
          subst h0
          exact hbz1.2 0 _ rfl
        · have h0 : i = 0 := by simp at h; omega
          subst h0
          exact (HG2.out.below rDot_good hbzw).mono rDot_good (by omega)
        · have h0 : sumW lenDot [(a2, e2, x.fDeps)] = x.fDeps.length := by simp [sumW, lenDot]
          rw [h0]; omega
        rintro e w2 ⟨v2, rfl, hrow2, hx2⟩
        have hcat2 : catDot [(a2, e2, x.fDeps)] = x.fDeps := by simp [catDot]
        rw [hcat2] at hrow2
        clear hcat2
        obtain ⟨ho2, hN2, hge2⟩ := dots_own hrow2
        have hb2 : Below wr.heap.size wr w2 := bthen hbzz hx2
        have HNX : Hid (Half 3 52 oItem rItem wq.heap.size (w2.setCell ⟨g, k * 3 + 2, none⟩ v2) g c2 l (k + 1) (Fs ++ [v2.ownBlock.toList])) := HST.out w2 2 v2 _ hgB hgw hb2 (by omega) rItem_good oItem_good ⟨v2, _, rfl, g0, g1, ho2, by simp⟩ hN2 (fun b hb => by have := hge2 b hb; omega) hbz
        have hbN : Below wq.heap.size wq (w2.setCell ⟨g, k * 3 + 2, none⟩ v2) := (bthen hbk hb2).setCell hgB v2
        have t2 := (hb2.cell (p := ⟨g, k * 3 + 2, none⟩) hgw).trans k2
        have tf : w2.frozen? ⟨g, k * 3 + 2, none⟩ = false := by
          obtain ⟨cur, c1, _⟩ := HHk.out.row
          exact frozen_of_row w2 g _ cur _ ((hb2.block g hgw).trans c1)
        have hg2 : g < w2.heap.size := Nat.lt_of_lt_of_le hgw hb2.size
        have hone : v2.oneCell' = true := by obtain ⟨_, _, h, _⟩ := ownS.read oDot_good ho2; rw [h]; rfl
        obtain ⟨av, cv, rfl, _⟩ := ownS.read oDot_good ho2
        clear hrow2 ho2 hN2 hge2 HST HHk k0 k1 k2 hfz
        go_wp2_with fail
        go_roundw
        case rel => exact ⟨k + 1, _, by omega, by go_num, HNX, by simpa using hg2, hbN⟩
        case measure => simp [intOf]; omega
      · have hkn : k = n := by omega
        have hd2 := HHk.out.done (by rw [HX.out]; omega) (by rw [HX.out]; omega)
        have hov := HHk.out.over
        have HD2 := Hid.mk hd2
        have HOV := Hid.mk hov
        clear hd2 hov HHk
        have hbw := hbr.under hbk
        have y0 := hbw.cell 0 _ rfl
        have y1 := hbw.free 0
        have hyl := hbw.lt
        go_wp2_with fail
        refine bodyPost_ret (v := .agg #[.slice (some ⟨g, 0, none⟩) n c2]) (by simp [results, Tryd.results59, go_sem, *]) rfl ⟨[.slice (some ⟨g, 0, none⟩) n c2], g :: Fs.flatten, rfl, HO.out _ _ _ ?_, HD2.out.2, ?_, (bthen hbq hbk).setCell (by simp) _⟩
        · have h := HD2.out.1
          rw [HX.out] at h
          refine ownS.frame oItem_good h (fun b hb => heap_setCell_other wr ⟨w.heap.size + 1, 0, none⟩ b _ ?_)
          rcases List.mem_cons.1 hb with rfl | hb
          · show b ≠ w.heap.size + 1; omega
          · have := HOV.out b hb; show b ≠ w.heap.size + 1; omega
        · intro b hb
          rcases List.mem_cons.1 hb with rfl | hb
          · omega
          · have := HOV.out b hb; omega

abbrev qda8_105_1_0 : Oper := ⟨some 3, .fieldAddr 52 (.tmp 1) 0, 0, "l08_graph.go:49", #[], none⟩
abbrev qda8_105_1_1 : Oper := ⟨some 4, .load 40 (.tmp 3), 40, "l08_graph.go:49", #[⟨0, .data⟩], none⟩
abbrev qda8_105_1_3 : Oper := ⟨some 6, .fieldAddr 52 (.tmp 1) 1, 0, "l08_graph.go:49", #[], none⟩
abbrev qda8_105_1_4 : Oper := ⟨some 7, .load 26 (.tmp 6), 26, "l08_graph.go:49", #[⟨3, .data⟩], none⟩
abbrev qda8_105_1_2 : Oper := ⟨some 5, .buildSlice 26 0 #[], 26, "l08_graph.go:49", #[], none⟩
abbrev qda8_105_1_5 : Oper := ⟨some 8, .call { callee := .builtin .append, args := #[.tmp 5, .tmp 7], argTypes := #[26, 26] }, 26, "l08_graph.go:49", #[⟨2, .data⟩, ⟨4, .data⟩], none⟩
abbrev qda8_105_1_6 : Oper := ⟨some 9, .build 52 #[(0, .tmp 4), (1, .tmp 8)], 52, "l08_graph.go:49", #[⟨1, .data⟩, ⟨5, .data⟩], none⟩
abbrev qda8_105_1_7 : Oper := ⟨none, .store 52 (.tmp 2) (.tmp 9), 0, "l08_graph.go:49", #[⟨6, .data⟩, ⟨5, .chain⟩, ⟨0, .phase⟩, ⟨1, .phase⟩, ⟨2, .phase⟩, ⟨3, .phase⟩, ⟨4, .phase⟩, ⟨5, .phase⟩, ⟨6, .phase⟩], none⟩

theorem own_lit0 (w : World) (base e size : Nat) (h : base ≤ w.heap.size) : (w.alloc (.cells #[] e)).ownsRow base e size (.slice (some ⟨w.heap.size, 0, none⟩) 0 0) 0 [] :=
  ⟨by simp, .inr ⟨w.heap.size, 0, #[], rfl, h, (show (w.heap.push _)[w.heap.size]? = _ from Array.getElem?_push_size), by omega, by simp [maxLen], by simp, by simp⟩⟩

set_option maxHeartbeats 4000000 in
theorem l8CopyItem_any (cs : List Value) (m : MItem) (w : World) (hr : rItem w.heap.size w cs m) (hw : m.fDeps.length ≤ 1048576) :
    Calls Tryd.prog 105 #[.agg cs.toArray] w fun e w' => ∃ (cs' : List Value) (F : List Nat), e = .returned (.agg cs'.toArray) ∧ oItem w' cs' m F ∧ F.Nodup ∧ (∀ b, b ∈ F → w.heap.size ≤ b) ∧ Below w.heap.size w w' := by
  obtain ⟨iT, hiT, hz0, hz1, hz2⟩ := info_parts Tryd.infoOfDot
  obtain ⟨a2, c2, rfl, g0, g1, g2, _⟩ := hr
  have HL := Hid.mk g2
  clear g2
  have HO : Hid (∀ (w' : World) (v : Value) (F : List Nat), ownS 2 40 oDot w' v m.fDeps F → oItem w' [.int .i64 m.fD.fR, .int .i64 m.fD.fN, v] m F) := fun w' v F h => ⟨v, F, rfl, g0, g1, h, by simp⟩
  obtain ⟨l, hl⟩ : ∃ l, l = m.fDeps := ⟨_, rfl⟩
  rw [← hl] at HL HO hw ⊢
  clear hl
  obtain ⟨n, hx⟩ : ∃ n, n = l.length := ⟨_, rfl⟩
  rw [← hx] at hw ⊢
  have HX := Hid.mk hx.symm
  clear hx
  go_enter Tryd.func105, Tryd.ntmps105
  go_wp2_with fail
  obtain ⟨wq, hwq⟩ : ∃ wq, wq = (w.alloc (.cells #[.int .i64 m.fD.fR, .int .i64 m.fD.fN, .slice a2 n c2] 52)).alloc (.cells #[.int .i64 0, .int .i64 0, .slice none 0 0] 52) := ⟨_, rfl⟩
  have hbq : Below w.heap.size w wq := by rw [hwq]; exact ((Below.refl _ _).alloc (Nat.le_refl _) _).alloc (by simp) _
  have hqs : w.heap.size + 2 ≤ wq.heap.size := by rw [hwq]; simp
  have hbx : Bx wq w.heap.size [.int .i64 m.fD.fR, .int .i64 m.fD.fN, .slice a2 n c2] := by rw [hwq]; exact (Bx.new _ _ _).alloc _
  have hbr : Bw wq (w.heap.size + 1) 52 [.int .i64 0, .int .i64 0, .slice none 0 0] := by rw [hwq]; exact Bw.new' _ _ _ (by simp)
  rw [← hwq]
  clear hwq
  have hT0 : Turn [w.heap.size + 1] wq wq.drew := Turn.ofBelow (Below.drew (Below.refl _ _))
  have y0 : ∀ W, Turn [w.heap.size + 1] wq W → W.cell? ⟨w.heap.size, 0, none⟩ = some (.int .i64 m.fD.fR) := fun W h => (hbx.turn h (by simp)).2 0 _ rfl
  have y1 : ∀ W, Turn [w.heap.size + 1] wq W → W.cell? ⟨w.heap.size, 1, none⟩ = some (.int .i64 m.fD.fN) := fun W h => (hbx.turn h (by simp)).2 1 _ rfl
  have y2 : ∀ W, Turn [w.heap.size + 1] wq W → W.cell? ⟨w.heap.size, 2, none⟩ = some (.slice a2 n c2) := fun W h => (hbx.turn h (by simp)).2 2 _ rfl
  refine wp_region_held_drew (S := fun W => Turn [w.heap.size + 1] wq W) (by kernel_rfl) (hT0) (fun hHeld => ?_)
  refine tk 0 qda8_105_1_0 (some 3) (v := ?v1) rfl rfl (by kernel_rfl) hHeld (by rfl) (fun _ _ _ x => x) (fun w h => ?y1) ?_; (case y1 => (try dsimp only at h); go_simp; try (with_reducible rfl)); try simp only [Act.put, sa, s0, s1]
  refine tk 1 qda8_105_1_1 (some 4) (v := ?v2) rfl rfl (by kernel_rfl) hHeld (by rfl) (fun _ _ _ x => x) (fun w h => ?y2) ?_; (case y2 => (try dsimp only at h); go_simp; try (with_reducible rfl)); try simp only [Act.put, sa, s0, s1]
  refine tk 3 qda8_105_1_3 (some 6) (v := ?v3) rfl rfl (by kernel_rfl) hHeld (by rfl) (fun _ _ _ x => x) (fun w h => ?y3) ?_; (case y3 => (try dsimp only at h); go_simp; try (with_reducible rfl)); try simp only [Act.put, sa, s0, s1]
  refine tk 4 qda8_105_1_4 (some 7) (v := ?v4) rfl rfl (by kernel_rfl) hHeld (by rfl) (fun _ _ _ x => x) (fun w h => ?y4) ?_; (case y4 => (try dsimp only at h); go_simp; try (with_reducible rfl)); try simp only [Act.put, sa, s0, s1]
  refine wpAnyH_ready (rs := [2]) (by kernel_rfl) (by simp) ?_
  refine AllReadyH.cons (o := qda8_105_1_2) rfl (fun K hK => ?_) AllReadyH.nil
  go_simp
  obtain ⟨w3, hq3⟩ : ∃ x, x = (wq.alloc (.cells (List.toArray []) 40)).drew := ⟨_, rfl⟩
  have hb3 : Below wq.heap.size wq w3 := by rw [hq3]; exact Below.drew ((Below.refl _ _).alloc (Nat.le_refl _) _)
  have hT1 : Turn [w.heap.size + 1] wq w3 := Turn.ofBelow hb3
  have HO3 : Hid (w3.ownsRow wq.heap.size 40 2 (.slice (some ⟨wq.heap.size, 0, none⟩) 0 0) 0 []) := by unfold Hid; rw [hq3]; exact own_lit0 wq wq.heap.size _ _ (Nat.le_refl _)
  rw [← hq3]
  clear hq3
  refine hK.out _ _ (hT1) (fun hHeld => ?_)
  clear hK K
  try simp only [Act.put, sa, s0, s1]
  refine wpAnyH_ready (rs := [5]) (by kernel_rfl) (by simp) ?_
  refine AllReadyH.cons (o := qda8_105_1_5) rfl (fun K hK => ?_) AllReadyH.nil
  obtain ⟨s1, u1, u2, u3, u4⟩ := Src.any oneDot (P := Tryd.prog) (n := n) (c := c2) Tryd.underlying26 HX.out (HL.out.2.2.below rDot_good (bthen hbq hb3))
  refine step_append_src w3 rfl _ _ 26 26 rfl wq.heap.size 40 iT (.agg (List.toArray [.int .i64 0, .int .i64 0])) 2 16 Tryd.underlying26 hiT hz0 hz1 hz2 rfl (.slice (some ⟨wq.heap.size, 0, none⟩) 0 0) 0 [] rfl HO3.out (.slice a2 n c2) rfl n s1.flatten u4 (by unfold maxLen; omega) (by omega) hb3.size ?_
  intro v5 w5 ho5 hgr5 hat5
  have hb5 : Below wq.heap.size w3 w5 := (Below.refl _ _).grown hgr5 hb3.size (fun k h => by simp [Value.ownBlock] at h; omega)
  have hrow5 : RowR 2 40 rDot w.heap.size w5 wq.heap.size v5 ([] ++ l) := RowR.cat (l1 := []) (c1 := []) rDot_good rfl (fun _ h => by cases h) (fun _ h => by simp at h) u1 u2 u3 (hb5.mono hbq.size) (by have h := ho5; rw [← HX.out] at h; exact h)
  rw [List.nil_append] at hrow5
  obtain ⟨ho, hN, hge⟩ := dots_own hrow5
  obtain ⟨a5, e5, rfl, _⟩ := id (ownS.read oDot_good ho)
  have HO5 := Hid.mk ho
  have HN5 := Hid.mk hN
  have HGE5 := Hid.mk hge
  have hBq5 : Below wq.heap.size wq w5 := hb3.trans hb5
  have hT2 : Turn [w.heap.size + 1] wq w5 := Turn.ofBelow hBq5
  clear ho5 hgr5 hat5 hrow5 ho hN hge u1 u2 u3 u4 HO3
  refine hK.out _ _ (hT2) (fun hHeld => ?_)
  clear hK K
  try simp only [Act.put, sa, s0, s1]
  refine tk 6 qda8_105_1_6 (some 9) (v := ?v5) rfl rfl (by kernel_rfl) hHeld (by rfl) (fun _ _ _ x => x) (fun w h => ?y5) ?_; (case y5 => (try dsimp only at h); go_simp; try (with_reducible rfl)); try simp only [Act.put, sa, s0, s1]
  refine wpAnyH_ready (rs := [7]) (by kernel_rfl) (by simp) ?_
  refine AllReadyH.cons (o := qda8_105_1_7) rfl (fun K hK => ?_) AllReadyH.nil
  have hb7 := hbr.under hBq5
  have x0 := hb7.cell 0 _ rfl
  have x1 := hb7.cell 1 _ rfl
  have x2 := hb7.cell 2 _ rfl
  have f0 := hb7.free 0
  have f1 := hb7.free 1
  have f2 := hb7.free 2
  have hl7 := hb7.lt
  go_simp
  obtain ⟨w7, hq7⟩ : ∃ x, x = ((w5.setCell ⟨w.heap.size + 1, 0, none⟩ (.int .i64 m.fD.fR)).setCell ⟨w.heap.size + 1, 1, none⟩ (.int .i64 m.fD.fN)).setCell ⟨w.heap.size + 1, 2, none⟩ (.slice a5 l.length e5) := ⟨_, rfl⟩
  have hT57 : Turn [w.heap.size + 1] w5 w7 := by rw [hq7]; exact (((Turn.refl _ _).setCell (by simp) _).setCell (by simp) _).setCell (by simp) _
  have hT3 : Turn [w.heap.size + 1] wq w7 := hT2.trans hT57
  have hb77 : Bw w7 (w.heap.size + 1) 52 [.int .i64 m.fD.fR, .int .i64 m.fD.fN, .slice a5 l.length e5] := by rw [hq7]; exact ((hb7.put 0 _).put 1 _).put 2 _
  rw [← hq7]
  clear hq7 x0 x1 x2 f0 f1 f2
  refine hK.out _ _ (hT3) (fun hHeld => ?_)
  clear hK K
  try simp only [Act.put, sa, s0, s1]
  refine wpAnyH_done (by kernel_rfl) ?_ _
  have p0 := hb77.cell 0 _ rfl
  have p1 := hb77.cell 1 _ rfl
  have p2 := hb77.cell 2 _ rfl
  clear y0 y1 y2
  go_wp2_with fail
  refine bodyPost_ret (v := .agg #[.int .i64 m.fD.fR, .int .i64 m.fD.fN, .slice a5 l.length e5]) (by simp [results, Tryd.results105, go_sem, *]) rfl ⟨[.int .i64 m.fD.fR, .int .i64 m.fD.fN, .slice a5 l.length e5], _, rfl, HO.out _ _ _ (ownS.frame oDot_good HO5.out (fun b hb => hT57.block b (ownS.lt oDot_good HO5.out b hb) (fun h => by have h1 := HGE5.out b hb; simp at h; omega))), HN5.out, fun b hb => (by have h1 := HGE5.out b hb; omega), hbq.trans (hT3.below (fun k hk => by simp at hk; omega) hbq.size)⟩

theorem ownS.blk {α : Type} {size : Nat} {e : TypeId} {O : ORep α} {w : World} {v : Value} {l : List α} {F : List Nat} (h : ownS size e O w v l F) : ∀ k, v.ownBlock = some k → k ∈ F := by
  rcases h with ⟨rfl, _, _⟩ | ⟨g, cap, cur, Fs, rfl, _, _, _, _, _, _, rfl⟩
  · intro k hk; simp [Value.ownBlock] at hk
  · intro k hk; simp [Value.ownBlock] at hk; subst hk; simp
theorem Src.item {P : Program} {w : World} {g tx e' : Nat} {a b : Int} {c : Option Addr} {n k : Nat} (hk : P.underlying tx = some (.slice e')) (hb : Bx w g [.int .i64 a, .int .i64 b, .slice c n k]) : Src P 3 tx (.slice (some ⟨g, 0, none⟩) 1 1) 1 [.int .i64 a, .int .i64 b, .slice c n k] w :=
  Src.ofSlice w hk ⟨g, 0, none⟩ 1 1 _ rfl (bx_news hb) (by intro u hu; simp at hu; rcases hu with rfl | rfl | rfl <;> rfl)

set_option maxHeartbeats 4000000 in
theorem l8Copy_any (cs : List Value) (m : MGraph) (w : World) (hr : rGraph w.heap.size w cs m) (hn : m.fItems.length ≤ 1048576) (hd : ∀ k, (h : k < m.fItems.length) → m.fItems[k].fDeps.length ≤ 1048576) :
    Calls Tryd.prog 106 #[.agg cs.toArray] w fun e w' => ∃ (v : Value) (F : List Nat), e = .returned v ∧ ownS 3 52 oItem w' v m.fItems F ∧ F.Nodup ∧ (∀ b, b ∈ F → w.heap.size ≤ b) ∧ Below w.heap.size w w' := by
  obtain ⟨iT, hiT, hz0, hz1, hz2⟩ := info_parts Tryd.infoOfItem
  obtain ⟨a, cap, rfl, hr, _⟩ := hr
  obtain ⟨l, hl⟩ : ∃ l, l = m.fItems := ⟨_, rfl⟩
  have HD : Hid (∀ k, (h : k < l.length) → l[k].fDeps.length ≤ 1048576) := by unfold Hid; rw [hl]; exact hd
  rw [← hl] at hr hn ⊢
  clear hl hd
  obtain ⟨n, hx⟩ : ∃ n, n = l.length := ⟨_, rfl⟩
  rw [← hx] at hn ⊢
  have HX := Hid.mk hx.symm
  have HL := Hid.mk hr
  clear hr hx
  go_enter Tryd.func106, Tryd.ntmps106
  go_wp2_with fail
  obtain ⟨wq, hwq⟩ : ∃ wq, wq = (w.alloc (.cells #[.slice a n cap] 30)).alloc (.cells #[] 52) := ⟨_, rfl⟩
  have hbq : Below w.heap.size w wq := by rw [hwq]; exact ((Below.refl _ _).alloc (Nat.le_refl _) _).alloc (by simp) _
  have hbg : Bx wq w.heap.size [.slice a n cap] := by rw [hwq]; exact (Bx.new _ _ _).alloc _
  have hgz : w.heap.size + 2 ≤ wq.heap.size := by rw [hwq]; simp
  have HO0 : Hid (ownS 3 52 oItem wq (.slice (some ⟨w.heap.size + 1, 0, none⟩) 0 0) (l.take 0) [w.heap.size + 1]) := .inr ⟨w.heap.size + 1, 0, #[], [], rfl, by rw [hwq]; have h := heap_alloc_new (w.alloc (.cells #[.slice a n cap] 30)) (.cells #[] 52); rw [show (w.alloc (.cells #[.slice a n cap] 30)).heap.size = w.heap.size + 1 from by simp] at h; exact h, by simp, by simp [maxLen], by simp, by simp, fun j hj => by simp at hj, by simp⟩
  rw [← hwq]
  clear hwq
  go_loopw [3, 4] (fun v i wr => ∃ (k : Nat) (F : List Nat), k ≤ n ∧ i = .int .i64 k ∧ Hid (ownS 3 52 oItem wr v (l.take k) F ∧ F.Nodup ∧ ∀ b, b ∈ F → w.heap.size + 1 ≤ b) ∧ Below (w.heap.size + 1) wq wr) (fun _ i _ => n - (intOf i).toNat)
  case atStart => exact ⟨0, _, Nat.zero_le _, rfl, ⟨HO0.out, by simp, fun b hb => by simp at hb; omega⟩, Below.refl _ _⟩
  case round =>
    obtain ⟨k, F, hk, rfl, HOk, hbk⟩ := hrel
    have hbk2 : Below w.heap.size w wr := hbq.trans (hbk.mono (by omega))
    have hbgk := hbg.below hbk (by omega)
    have v0 := hbgk.2 0 _ rfl
    by_cases hlt : k < n
    · have hkl : k < l.length := by rw [HX.out]; exact hlt
      obtain ⟨b1, o1, rfl, hB, cs, hcl, hcell, hri⟩ := (HL.out.2.2.below rItem_good hbk2) k hkl
      have HRi := Hid.mk hri
      obtain ⟨a2, c2, rfl, g0, g1, _⟩ := hri
      have k0 := hcell 0 _ rfl
      have k1 := hcell 1 _ rfl
      have k2 := hcell 2 _ rfl
      rw [Nat.add_zero] at k0
      have hdk := HD.out k hkl
      have HTK := Hid.mk (List.take_succ_eq_append_getElem hkl)
      have hlk : (l.take k).length ≤ 1048576 := by rw [List.length_take]; omega
      generalize l[k] = x at *
      clear hcell hcl
      go_wp2_with fail
      refine (l8CopyItem_any _ x wr (rItem_good.mono HRi.out hbk2.size) hdk).mono ?_
      rintro e w1 ⟨cs1, F1, rfl, ho1, hN1, hge1, hx1⟩
      have HC1 := Hid.mk ho1
      obtain ⟨v1, F0, rfl, _, _, hv1, _⟩ := ho1
      obtain ⟨a1, e1, rfl, _⟩ := ownS.read oDot_good hv1
      clear hv1
      obtain ⟨w2, hw2⟩ : ∃ w2, w2 = w1.alloc (.cells #[.int .i64 x.fD.fR, .int .i64 x.fD.fN, .slice a1 x.fDeps.length e1] 52) := ⟨_, rfl⟩
      have hb12 : Below w1.heap.size w1 w2 := by rw [hw2]; exact (Below.refl _ _).alloc (Nat.le_refl _) _
      have hbx2 : Bx w2 w1.heap.size [.int .i64 x.fD.fR, .int .i64 x.fD.fN, .slice a1 x.fDeps.length e1] := by rw [hw2]; exact Bx.new _ _ _
      have hb2 : Below wr.heap.size wr w2 := bthen hx1 hb12
      have hos := ownS.frame oItem_good HOk.out.1 (fun b hb => hb2.block b (ownS.lt oItem_good HOk.out.1 b hb))
      have hlt0 := fun b hb => ownS.lt oItem_good HOk.out.1 b hb
      obtain ⟨rs, hrs, hnext⟩ := ownS.push oItem_good hos HOk.out.2.1
      have HNX := Hid.mk hnext
      have hblk : ∀ q, Value.ownBlock _ = some q → w.heap.size + 1 ≤ q := fun q hq => HOk.out.2.2 q (ownS.blk HOk.out.1 q hq)
      have HBK := Hid.mk hblk
      clear hblk hos hnext
      generalize hlq : l.take k = lq at *
      clear hlq
      go_wp2_with (at_builtin; rw [← hw2]; refine wpList_append_src_y rfl _ _ 28 28 rfl 0 52 iT (.agg #[.int .i64 0, .int .i64 0, .slice none 0 0]) 3 40 Tryd.underlying28 hiT hz0 hz1 hz2 rfl _ _ _ rfl hrs _ rfl 1 _ (Src.item Tryd.underlying28 hbx2) (by unfold maxLen; omega) (by omega) (Nat.zero_le _) ?_; intro v3 w3 ho3 hgr3 hat3)
      have hF1 : ∀ b, b ∈ F1 → wr.heap.size ≤ b := hge1
      obtain ⟨F', ho', hN', hF'⟩ := HNX.out w3 v3 _ x F1 ho3 hgr3 hat3 (oItem_good.frame HC1.out (fun b hb => hb12.block b (oItem_good.lt HC1.out b hb))) hN1 (fun b hb hbF => by have h1 := hge1 b hb; have h2 := hlt0 b hbF; omega)
      rw [← HTK.out] at ho'
      have h21 := hbk.size
      have h22 := hb2.size
      have hB3 : Below (w.heap.size + 1) wq w3 := (hbk.trans (hb2.mono (by omega))).grown hgr3 (by omega) (fun q h => HBK.out q h)
      have HF3 : Hid (∀ b, b ∈ F' → w.heap.size + 1 ≤ b) := fun b hb => by
        rcases hF' b hb with h | h | h
        · exact HOk.out.2.2 b h
        · have := hge1 b h; omega
        · omega
      have HO3 := Hid.mk ho'
      clear ho' hF' ho3 hgr3 hat3
      exact ⟨⟨k + 1, F', by omega, by go_num, ⟨HO3.out, hN', HF3.out⟩, hB3⟩, by simp [intOf]; omega⟩
    · have HT : Hid (l.take k = l) := List.take_of_length_le (by rw [HX.out]; omega)
      rw [HT.out] at HOk
      go_wp2_with fail
      go_ret
      exact ⟨_, F, rfl, HOk.out.1, HOk.out.2.1, fun b hb => by have := HOk.out.2.2 b hb; omega, hbk2⟩

abbrev qb20_44_4_0 : Oper := ⟨some 13, .fieldAddr 30 (.tmp 2) 0, 0, "l08_graph.go:41", #[], none⟩
abbrev qb20_44_4_1 : Oper := ⟨some 14, .load 28 (.tmp 13), 28, "l08_graph.go:41", #[⟨0, .data⟩], none⟩
abbrev qb20_44_4_2 : Oper := ⟨some 15, .move (.tmp 5), 3, "l08_graph.go:41", #[], none⟩
abbrev qb20_44_4_3 : Oper := ⟨some 16, .indexAddr 28 (.tmp 14) (.tmp 15), 0, "l08_graph.go:41", #[⟨1, .data⟩, ⟨2, .data⟩], none⟩
abbrev qb20_44_4_4 : Oper := ⟨some 17, .fieldAddr 52 (.tmp 16) 0, 0, "l08_graph.go:41", #[⟨3, .data⟩], none⟩
abbrev qb20_44_4_5 : Oper := ⟨some 18, .load 40 (.tmp 17), 40, "l08_graph.go:41", #[⟨4, .data⟩], none⟩
abbrev qb20_44_4_6 : Oper := ⟨some 19, .load 40 (.tmp 3), 40, "l08_graph.go:41", #[], none⟩
abbrev qb20_44_4_7 : Oper := ⟨some 20, .binOp .eql 40 (.tmp 18) (.tmp 19) 40, 4, "l08_graph.go:41", #[⟨5, .data⟩, ⟨6, .data⟩], none⟩

def AtP (l : List MItem) (d : MDot) (z : Int) : Prop := (∃ k : Nat, z = (k : Int) ∧ ∃ h : k < l.length, sameD l[k].fD d = true) ∨ (z = -1 ∧ ∀ j, (hj : j < l.length) → sameD l[j].fD d = false)
theorem AtP.has {l : List MItem} {d : MDot} {z : Int} (h : AtP l d z) : decide (0 ≤ z) = hasI l d := by
  rcases h with ⟨k, rfl, hk, hs⟩ | ⟨rfl, hn⟩
  · rw [hasI_yes hk hs]; exact decide_eq_true (by omega)
  · rw [hasI_no hn]; rfl

set_option maxHeartbeats 4000000 in
theorem l8At_any (cs : List Value) (m : MGraph) (ds : List Value) (d : MDot) (w : World) (hr : rGraph w.heap.size w cs m) (hn : m.fItems.length ≤ 1048576) (hd : rDot w.heap.size w ds d) :
    Calls Tryd.prog 44 #[.agg cs.toArray, .agg ds.toArray] w fun e w' => ∃ z : Int, e = .returned (.int .i64 z) ∧ AtP m.fItems d z ∧ Below w.heap.size w w' := by
  obtain ⟨a, cap, rfl, hr, _⟩ := hr
  obtain ⟨rfl, d0, d1, _⟩ := hd
  obtain ⟨l, hl⟩ : ∃ l, l = m.fItems := ⟨_, rfl⟩
  rw [← hl] at hr hn ⊢
  clear hl
  obtain ⟨n, hx⟩ : ∃ n, n = l.length := ⟨_, rfl⟩
  rw [← hx] at hn ⊢
  have HX := Hid.mk hx.symm
  have HL := Hid.mk hr
  clear hr hx
  go_enter Tryd.func44, Tryd.ntmps44
  go_wp2_with fail
  obtain ⟨wq, hwq⟩ : ∃ wq, wq = (w.alloc (.cells #[.slice a n cap] 30)).alloc (.cells #[.int .i64 d.fR, .int .i64 d.fN] 40) := ⟨_, rfl⟩
  have hbq : Below w.heap.size w wq := by rw [hwq]; exact ((Below.refl _ _).alloc (Nat.le_refl _) _).alloc (by simp) _
  have hbg : Bx wq w.heap.size [.slice a n cap] := by rw [hwq]; exact (Bx.new _ _ _).alloc _
  have hbx : Bx wq (w.heap.size + 1) [.int .i64 d.fR, .int .i64 d.fN] := by rw [hwq]; have h := Bx.new (w.alloc (.cells #[.slice a n cap] 30)) [.int .i64 d.fR, .int .i64 d.fN] 40; simpa using h
  rw [← hwq]
  clear hwq
  go_loopw [5] (fun i wr => ∃ k : Nat, k ≤ n ∧ i = .int .i64 k ∧ Hid (∀ j, (hj : j < l.length) → j < k → sameD l[j].fD d = false) ∧ Below wq.heap.size wq wr) (fun i _ => n - (intOf i).toNat)
  case atStart => exact ⟨0, Nat.zero_le _, rfl, Hid.mk (fun j _ h => absurd h (Nat.not_lt_zero j)), Below.refl _ _⟩
  case round =>
    obtain ⟨k, hk, rfl, HI, hbk⟩ := hrel
    have hbw := bthen hbq hbk
    have v0 := (hbg.under hbk).2 0 _ rfl
    by_cases hlt : k < n
    · have hkl : k < l.length := by rw [HX.out]; exact hlt
      obtain ⟨b1, o1, rfl, hB, cs, hcl, hcell, a2, c2, rfl, g0, g1, _⟩ := (HL.out.2.2.below rItem_good hbw) k hkl
      have x0 : ∀ W, Below wr.heap.size wr W → W.cell? ⟨w.heap.size, 0, none⟩ = some (.slice (some ⟨b1, o1, none⟩) n cap) := fun W h => ((hbg.under hbk).under h).2 0 _ rfl
      have y0 : ∀ W, Below wr.heap.size wr W → W.cell? ⟨w.heap.size + 1, 0, none⟩ = some (.int .i64 d.fR) := fun W h => ((hbx.under hbk).under h).2 0 _ rfl
      have y1 : ∀ W, Below wr.heap.size wr W → W.cell? ⟨w.heap.size + 1, 1, none⟩ = some (.int .i64 d.fN) := fun W h => ((hbx.under hbk).under h).2 1 _ rfl
      have k0 := hcell 0 _ rfl
      have k1 := hcell 1 _ rfl
      rw [Nat.add_zero] at k0
      have HY : Hid (sameD l[k].fD d = true → AtP l d (k : Int)) := fun h => .inl ⟨k, rfl, hkl, h⟩
      have HN : Hid (sameD l[k].fD d = false → ∀ j, (hj : j < l.length) → j < k + 1 → sameD l[j].fD d = false) := fun h j hj hjk => by
        rcases Nat.lt_succ_iff_lt_or_eq.1 hjk with g | g
        · exact HI.out j hj g
        · subst g; exact h
      have hB' : b1 < wr.heap.size := Nat.lt_of_lt_of_le hB hbw.size
      have k2 : ∀ W, Below wr.heap.size wr W → W.cell? ⟨b1, o1 + k * 3, none⟩ = some (.int .i64 l[k].fD.fR) := fun W h => (h.cell (p := ⟨b1, o1 + k * 3, none⟩) hB').trans k0
      have k3 : ∀ W, Below wr.heap.size wr W → W.cell? ⟨b1, o1 + k * 3 + 1, none⟩ = some (.int .i64 l[k].fD.fN) := fun W h => (h.cell (p := ⟨b1, o1 + k * 3 + 1, none⟩) hB').trans k1
      have hk1 : (0 : Int) ≤ (k : Int) := by omega
      have hk2 : (k : Int) < (n : Int) := by omega
      clear hcell hcl HI k0 k1
      generalize l[k].fD = x at *
      by_cases hs : sameD x d = true
      · have HV := Hid.mk (HY.out hs)
        have hq1 := (sameD_eq hs).1
        have hq2 := (sameD_eq hs).2
        clear HY HN hs
        rw [hq1] at k2
        rw [hq2] at k3
        clear hq1 hq2
        go_wp2_with fail
        refine wp_region_held_drew (S := fun W => Below wr.heap.size wr W) (by kernel_rfl) (Below.drew (Below.refl _ _)) (fun hHeld => ?_)
        refine tk 0 qb20_44_4_0 (some 13) (v := ?v1) rfl rfl (by kernel_rfl) hHeld (by rfl) (fun _ _ _ x => x) (fun w h => ?y1) ?_; (case y1 => (try dsimp only at h); go_simp; try (with_reducible rfl)); try simp only [Act.put, sa, s0, s1]
        refine tk 1 qb20_44_4_1 (some 14) (v := ?v2) rfl rfl (by kernel_rfl) hHeld (by rfl) (fun _ _ _ x => x) (fun w h => ?y2) ?_; (case y2 => (try dsimp only at h); go_simp; try (with_reducible rfl)); try simp only [Act.put, sa, s0, s1]
        refine tk 2 qb20_44_4_2 (some 15) (v := ?v3) rfl rfl (by kernel_rfl) hHeld (by rfl) (fun _ _ _ x => x) (fun w h => ?y3) ?_; (case y3 => (try dsimp only at h); go_simp; try (with_reducible rfl)); try simp only [Act.put, sa, s0, s1]
        refine tk 3 qb20_44_4_3 (some 16) (v := ?v4) rfl rfl (by kernel_rfl) hHeld (by rfl) (fun _ _ _ x => x) (fun w h => ?y4) ?_; (case y4 => (try dsimp only at h); go_simp; try (with_reducible rfl)); try simp only [Act.put, sa, s0, s1]
        refine tk 4 qb20_44_4_4 (some 17) (v := ?v5) rfl rfl (by kernel_rfl) hHeld (by rfl) (fun _ _ _ x => x) (fun w h => ?y5) ?_; (case y5 => (try dsimp only at h); go_simp; try (with_reducible rfl)); try simp only [Act.put, sa, s0, s1]
        refine tk 5 qb20_44_4_5 (some 18) (v := ?v6) rfl rfl (by kernel_rfl) hHeld (by rfl) (fun _ _ _ x => x) (fun w h => ?y6) ?_; (case y6 => (try dsimp only at h); go_simp; try (with_reducible rfl)); try simp only [Act.put, sa, s0, s1]
        refine tk 6 qb20_44_4_6 (some 19) (v := ?v7) rfl rfl (by kernel_rfl) hHeld (by rfl) (fun _ _ _ x => x) (fun w h => ?y7) ?_; (case y7 => (try dsimp only at h); go_simp; try (with_reducible rfl)); try simp only [Act.put, sa, s0, s1]
        refine tk 7 qb20_44_4_7 (some 20) (v := ?v8) rfl rfl (by kernel_rfl) hHeld (by rfl) (fun _ _ _ x => x) (fun w h => ?y8) ?_; (case y8 => (try dsimp only at h); go_simp; try (with_reducible rfl)); try simp only [Act.put, sa, s0, s1]
        refine wpAnyH_done (by kernel_rfl) ?_ _
        go_wp2_with fail
        go_ret
        exact ⟨_, rfl, HV.out, bthen hbw hHeld⟩
      · have HI := Hid.mk (HN.out (Bool.eq_false_iff.2 hs))
        rcases sameD_ne hs with hq | ⟨hq, hp⟩
        · have hq' : decide (x.fR = d.fR) = false := decide_eq_false hq
          have hr1 : ¬ d.fR = x.fR := fun h => hq h.symm
          have hr1' : decide (d.fR = x.fR) = false := decide_eq_false hr1
          clear HY HN hs
          go_wp2_with fail
          refine wp_region_held_drew (S := fun W => Below wr.heap.size wr W) (by kernel_rfl) (Below.drew (Below.refl _ _)) (fun hHeld => ?_)
          refine tk 0 qb20_44_4_0 (some 13) (v := ?v9) rfl rfl (by kernel_rfl) hHeld (by rfl) (fun _ _ _ x => x) (fun w h => ?y9) ?_; (case y9 => (try dsimp only at h); go_simp; try (with_reducible rfl)); try simp only [Act.put, sa, s0, s1]
          refine tk 1 qb20_44_4_1 (some 14) (v := ?v10) rfl rfl (by kernel_rfl) hHeld (by rfl) (fun _ _ _ x => x) (fun w h => ?y10) ?_; (case y10 => (try dsimp only at h); go_simp; try (with_reducible rfl)); try simp only [Act.put, sa, s0, s1]
          refine tk 2 qb20_44_4_2 (some 15) (v := ?v11) rfl rfl (by kernel_rfl) hHeld (by rfl) (fun _ _ _ x => x) (fun w h => ?y11) ?_; (case y11 => (try dsimp only at h); go_simp; try (with_reducible rfl)); try simp only [Act.put, sa, s0, s1]
          refine tk 3 qb20_44_4_3 (some 16) (v := ?v12) rfl rfl (by kernel_rfl) hHeld (by rfl) (fun _ _ _ x => x) (fun w h => ?y12) ?_; (case y12 => (try dsimp only at h); go_simp; try (with_reducible rfl)); try simp only [Act.put, sa, s0, s1]
          refine tk 4 qb20_44_4_4 (some 17) (v := ?v13) rfl rfl (by kernel_rfl) hHeld (by rfl) (fun _ _ _ x => x) (fun w h => ?y13) ?_; (case y13 => (try dsimp only at h); go_simp; try (with_reducible rfl)); try simp only [Act.put, sa, s0, s1]
          refine tk 5 qb20_44_4_5 (some 18) (v := ?v14) rfl rfl (by kernel_rfl) hHeld (by rfl) (fun _ _ _ x => x) (fun w h => ?y14) ?_; (case y14 => (try dsimp only at h); go_simp; try (with_reducible rfl)); try simp only [Act.put, sa, s0, s1]
          refine tk 6 qb20_44_4_6 (some 19) (v := ?v15) rfl rfl (by kernel_rfl) hHeld (by rfl) (fun _ _ _ x => x) (fun w h => ?y15) ?_; (case y15 => (try dsimp only at h); go_simp; try (with_reducible rfl)); try simp only [Act.put, sa, s0, s1]
          refine tk 7 qb20_44_4_7 (some 20) (v := ?v16) rfl rfl (by kernel_rfl) hHeld (by rfl) (fun _ _ _ x => x) (fun w h => ?y16) ?_; (case y16 => (try dsimp only at h); go_simp; try (with_reducible rfl)); try simp only [Act.put, sa, s0, s1]
          refine wpAnyH_done (by kernel_rfl) ?_ _
          go_wp2_with fail
          go_roundw
          case rel => exact ⟨k + 1, by omega, by go_num, HI, bthen hbk hHeld⟩
          case measure => simp [intOf]; omega
        · have hq' : decide (x.fN = d.fN) = false := decide_eq_false hp
          have hr1 : ¬ d.fN = x.fN := fun h => hp h.symm
          have hr1' : decide (d.fN = x.fN) = false := decide_eq_false hr1
          clear HY HN hs
          rw [hq] at k2
          clear hq
          go_wp2_with fail
          refine wp_region_held_drew (S := fun W => Below wr.heap.size wr W) (by kernel_rfl) (Below.drew (Below.refl _ _)) (fun hHeld => ?_)
          refine tk 0 qb20_44_4_0 (some 13) (v := ?v17) rfl rfl (by kernel_rfl) hHeld (by rfl) (fun _ _ _ x => x) (fun w h => ?y17) ?_; (case y17 => (try dsimp only at h); go_simp; try (with_reducible rfl)); try simp only [Act.put, sa, s0, s1]
          refine tk 1 qb20_44_4_1 (some 14) (v := ?v18) rfl rfl (by kernel_rfl) hHeld (by rfl) (fun _ _ _ x => x) (fun w h => ?y18) ?_; (case y18 => (try dsimp only at h); go_simp; try (with_reducible rfl)); try simp only [Act.put, sa, s0, s1]
          refine tk 2 qb20_44_4_2 (some 15) (v := ?v19) rfl rfl (by kernel_rfl) hHeld (by rfl) (fun _ _ _ x => x) (fun w h => ?y19) ?_; (case y19 => (try dsimp only at h); go_simp; try (with_reducible rfl)); try simp only [Act.put, sa, s0, s1]
          refine tk 3 qb20_44_4_3 (some 16) (v := ?v20) rfl rfl (by kernel_rfl) hHeld (by rfl) (fun _ _ _ x => x) (fun w h => ?y20) ?_; (case y20 => (try dsimp only at h); go_simp; try (with_reducible rfl)); try simp only [Act.put, sa, s0, s1]
          refine tk 4 qb20_44_4_4 (some 17) (v := ?v21) rfl rfl (by kernel_rfl) hHeld (by rfl) (fun _ _ _ x => x) (fun w h => ?y21) ?_; (case y21 => (try dsimp only at h); go_simp; try (with_reducible rfl)); try simp only [Act.put, sa, s0, s1]
          refine tk 5 qb20_44_4_5 (some 18) (v := ?v22) rfl rfl (by kernel_rfl) hHeld (by rfl) (fun _ _ _ x => x) (fun w h => ?y22) ?_; (case y22 => (try dsimp only at h); go_simp; try (with_reducible rfl)); try simp only [Act.put, sa, s0, s1]
          refine tk 6 qb20_44_4_6 (some 19) (v := ?v23) rfl rfl (by kernel_rfl) hHeld (by rfl) (fun _ _ _ x => x) (fun w h => ?y23) ?_; (case y23 => (try dsimp only at h); go_simp; try (with_reducible rfl)); try simp only [Act.put, sa, s0, s1]
          refine tk 7 qb20_44_4_7 (some 20) (v := ?v24) rfl rfl (by kernel_rfl) hHeld (by rfl) (fun _ _ _ x => x) (fun w h => ?y24) ?_; (case y24 => (try dsimp only at h); go_simp; try (with_reducible rfl)); try simp only [Act.put, sa, s0, s1]
          refine wpAnyH_done (by kernel_rfl) ?_ _
          go_wp2_with fail
          go_roundw
          case rel => exact ⟨k + 1, by omega, by go_num, HI, bthen hbk hHeld⟩
          case measure => simp [intOf]; omega
    · have HV : Hid (AtP l d (-1)) := .inr ⟨rfl, fun j hj => HI.out j hj (by have := HX.out; omega)⟩
      go_wp2_with fail
      go_ret
      exact ⟨-1, rfl, HV.out, hbw⟩

end Go.Proofs.YtmigamgcmhdncaaDoor
