/-
  Part 23 of the texts that the proof leans on.
-/
import Derived.Test.YtmigamgcmhdncaaDoorGrp18
import Derived.Test.YtmigamgcmhdncaaDoorGrp21
import Derived.Test.YtmigamgcmhdncaaDoorRows
import Derived.Test.YtmigamgcmhdncaaDoorGrp1
import Derived.ProofKit
import Derived.Deep.Slices
set_option linter.unusedVariables false
set_option linter.unusedSimpArgs false
set_option maxRecDepth 10000

namespace Go.Proofs.YtmigamgcmhdncaaDoor
open Go.RowKit

/-- The group that has the place is the answer. -/
theorem group_hit {m : MGraph} {d : MDot} {gs : List MGrp} (h : GroupsL m gs) {i p : Nat} (hi : i < gs.length) (ht : thereAt m.fItems d p = true) (hh : gs[i].mem.has p = true) : PickL m.fItems (InGroup m d) (pickT gs[i].mem.has m.fItems m.fItems.length) := by
  rcases h with ⟨_, rfl⟩ | ⟨hg, ps, hG⟩
  · simp at hi
  · have hl : m.fItems.length ≤ 100 := by
      have h' : (decide (m.fItems.length ≤ 100) && upOk itemP itemLt m.fItems) = true := hg
      rw [Bool.and_eq_true] at h'
      exact of_decide_eq_true h'.1
    obtain ⟨hp, hle, hpn, hgo⟩ := hG.grp hi
    have hpl := (isAt_found (l := m.fItems) hg ht).1
    have hs : sameD m.fItems[p].fD d = true := by rw [← thereAt_at hpl]; exact ht
    have hr := (hgo.mem p (by omega)).1 hh
    refine ⟨gs[i].mem.has, fun j hj => ?_, rfl⟩
    rw [hgo.mem j (by omega)]
    constructor
    · intro hj2
      exact ⟨hg, p, hpl, hs, hr.whole hle.1, hr.symm.trans hj2⟩
    · rintro ⟨_, q, hq, hsq, _, hqj⟩
      have e : q = p := graph_uniq hg hq hpl hsq hs
      subst e
      exact hr.trans hqj
theorem group_miss {m : MGraph} {d : MDot} {gs : List MGrp} (h : GroupsL m gs) {p : Nat} (hP : PlaceAt m.fItems d p) (hn : ∀ i, (hi : i < gs.length) → thereAt m.fItems d p = true → gs[i].mem.has p = false) : PickL m.fItems (InGroup m d) [] := by
  apply PickL.none
  rintro j hj ⟨hg, q, hq, hs, hw, hr⟩
  rcases h with ⟨hg2, _⟩ | ⟨_, ps, hG⟩
  · rw [hg] at hg2; cases hg2
  · have hl : m.fItems.length ≤ 100 := by
      have h' : (decide (m.fItems.length ≤ 100) && upOk itemP itemLt m.fItems) = true := hg
      rw [Bool.and_eq_true] at h'
      exact of_decide_eq_true h'.1
    rcases ht : thereAt m.fItems d p with _ | _
    · have h1 := (isAt_none (l := m.fItems) hg hP ht q).1 (.inl ⟨hq, hs⟩)
      omega
    · have hqp : q = p := ((isAt_found (l := m.fItems) hg ht).2 q).1 (.inl ⟨hq, hs⟩)
      subst hqp
      obtain ⟨p0, hp0, hl0, hr0⟩ := lead_of q hw
      obtain ⟨i, hi, rfl⟩ := List.mem_iff_getElem.1 ((hG.who p0).2 ⟨by omega, hl0⟩)
      have hi2 : i < gs.length := by rw [hG.len]; exact hi
      have h2 := ((hG.each i hi hi2).mem q (by omega)).2 hr0
      rw [hn i hi2 ht] at h2; cases h2

set_option maxHeartbeats 8000000 in
theorem implGroup_any (cs : List Value) (m : MGraph) (ds : List Value) (d : MDot) (w : World) (hr : rGraph w.heap.size w cs m) (hw : wGraph m ≤ 1048576) (hd : rDot w.heap.size w ds d) (hT : TzAt w) :
    Calls Tryd.prog 20 #[.agg cs.toArray, .agg ds.toArray] w fun e w' => ∃ (v : Value) (L : List MDot), e = .returned v ∧ PickL m.fItems (InGroup m d) L ∧ RowR 2 40 rDot w.heap.size w' w.heap.size v L ∧ Below w.heap.size w w' := by
  have HRG := Hid.mk hr
  have HWG := Hid.mk hw
  have HTZ := Hid.mk hT
  obtain ⟨a, cap, rfl, hL, _⟩ := hr
  obtain ⟨rfl, d0, d1, _⟩ := hd
  have HL := Hid.mk hL
  obtain ⟨n, hx⟩ : ∃ n, n = m.fItems.length := ⟨_, rfl⟩
  rw [← hx] at HRG ⊢
  have HX := Hid.mk hx
  have hnw : n ≤ 1048576 := by have h : m.fItems.length + sumW wItem m.fItems ≤ 1048576 := hw; omega
  clear hL hx hw hT
  go_enter Tryd.func20, Tryd.ntmps20
  go_wp2_with fail
  obtain ⟨w1, hw1⟩ : ∃ x, x = (w.alloc (.cells #[.slice a n cap] 30)).alloc (.cells #[.int .i64 d.fR, .int .i64 d.fN] 40) := ⟨_, rfl⟩
  have hb01 : Below w.heap.size w w1 := by rw [hw1]; exact ((Below.refl _ _).alloc (Nat.le_refl _) _).alloc (by simp) _
  have hbx1 : Bx w1 w.heap.size [.slice a n cap] := by rw [hw1]; exact (Bx.new _ _ _).alloc _
  rw [← hw1]
  clear hw1
  refine (placeOf_any a n cap m.fItems [.int .i64 d.fR, .int .i64 d.fN] d w1 HX.out.symm (by omega) ((HL.out.below rItem_good hb01).mono rItem_good hb01.size) ⟨rfl, d0, d1, trivial⟩).mono ?_
  rintro e wa ⟨p, rfl, hPA, hxa⟩
  have hb0a := bthen hb01 hxa
  have hbxa := hbx1.under hxa
  have va := hbxa.2 0 _ rfl
  have HPA := Hid.mk hPA
  have hpn : p ≤ n := by rw [HX.out]; exact hPA.1
  clear hPA
  obtain ⟨th, hth⟩ : ∃ b, b = thereAt m.fItems d p := ⟨_, rfl⟩
  rw [← hth]
  have HTH := Hid.mk hth
  clear hth
  go_wp2_with fail
  refine (groupsOf_any [.slice a n cap] m wa (rGraph_good.mono (rGraph_good.below HRG.out hb0a) hb0a.size) HWG.out (HTZ.out.below hb0a)).mono ?_
  rintro e w2 ⟨v, gs, rfl, hGL, hRow, hx2⟩
  have hb02 := bthen hb0a hx2
  have hbx2 := hbxa.under hx2
  obtain ⟨hgc, hgn⟩ := groups_count hGL
  have HGN := Hid.mk hgn
  have HGL := Hid.mk hGL
  obtain ⟨ag, cg, hv, hLeaf⟩ := RowR.leaf rGrp_good hRow hx2.size
  subst hv
  have HLeaf := Hid.mk hLeaf
  obtain ⟨ng, hng⟩ : ∃ q, q = gs.length := ⟨_, rfl⟩
  rw [← hng] at hgc ⊢
  have HNG := Hid.mk hng
  clear hgn hRow hLeaf hGL hng hx2 hbx1 va
  go_wp2_with fail
  go_loopw [19] (fun iv wr => ∃ k : Nat, k ≤ ng ∧ iv = .int .i64 k ∧ Hid (∀ i, (hi : i < gs.length) → i < k → thereAt m.fItems d p = true → gs[i].mem.has p = false) ∧ Below w2.heap.size w2 wr) (fun iv _ => ng - (intOf iv).toNat)
  case atStart => exact ⟨0, Nat.zero_le _, rfl, Hid.mk (fun i _ h => by omega), Below.refl _ _⟩
  case round =>
    obtain ⟨k, hk, rfl, HN, hbk⟩ := hrel
    have hbw : Below w.heap.size w wr := bthen hb02 hbk
    have hbx := hbx2.under hbk
    have v0 := hbx.2 0 _ rfl
    by_cases hlt : k < ng
    · have hkg : k < gs.length := by rw [← HNG.out]; exact hlt
      obtain ⟨b1, o1, rfl, hB, cs, hcl, hcell, hcs, hom, hon⟩ := (HLeaf.out.2.2.below rGrp_good hbk) k hkg
      subst hcs
      have k0 := hcell 0 _ rfl
      have k1 := hcell 1 _ rfl
      have k2 := hcell 2 _ rfl
      have k3 := hcell 3 _ rfl
      rw [Nat.add_zero] at k0
      have hnn : m.fItems.length ≤ 100 := HGN.out (by omega)
      have HHI : Hid (thereAt m.fItems d p = true → gs[k].mem.has p = true → PickL m.fItems (InGroup m d) (pickT gs[k].mem.has m.fItems m.fItems.length)) := fun h1 h2 => group_hit HGL.out hkg h1 h2
      have HNX : Hid ((thereAt m.fItems d p = true → gs[k].mem.has p = false) → ∀ i, (hi : i < gs.length) → i < k + 1 → thereAt m.fItems d p = true → gs[i].mem.has p = false) := fun h i hi hik ht => by
        by_cases e : i = k
        · subst e; exact h ht
        · exact HN.out i hi (by omega) ht
      generalize gs[k] = g at *
      clear hcell hcl
      obtain ⟨wp, hwp⟩ : ∃ y, y = wr.alloc (.cells #[.int .u64 (g.mem.x0 : Int), .int .u64 (g.mem.x1 : Int), .int .u64 (g.need.x0 : Int), .int .u64 (g.need.x1 : Int)] 68) := ⟨_, rfl⟩
      have hbp : Below wr.heap.size wr wp := by rw [hwp]; exact (Below.refl _ _).alloc (Nat.le_refl _) _
      have hbxp : Bx wp wr.heap.size [.int .u64 (g.mem.x0 : Int), .int .u64 (g.mem.x1 : Int), .int .u64 (g.need.x0 : Int), .int .u64 (g.need.x1 : Int)] := by rw [hwp]; exact Bx.new _ _ _
      have hbwp := bthen hbw hbp
      have hk1 : (0 : Int) ≤ (k : Int) := by omega
      have hk2 : (k : Int) < (ng : Int) := by omega
      rcases hth : th with _ | _
      · have HNn := Hid.mk (HNX.out (fun h => by rw [← HTH.out, hth] at h; cases h))
        go_wp2_with fail
        rw [← hwp]
        clear hwp
        go_roundw
        case rel => exact ⟨k + 1, by omega, by go_num, HNn, bthen hbk hbp⟩
        case measure => simp [intOf]; omega
      · have HTT : Hid (thereAt m.fItems d p = true) := by unfold Hid; rw [← HTH.out, hth]
        have hC := has_any g.mem p wp hom (by have := HX.out; omega)
        rw [show g.mem.cells.toArray = #[.int .u64 (g.mem.x0 : Int), .int .u64 (g.mem.x1 : Int)] from rfl] at hC
        go_wp2_with fail
        rw [← hwp]
        clear hwp k0 k1 k2 k3 v0
        refine hC.mono ?_
        rintro e w3 ⟨rfl, hx3⟩
        have hb3 := bthen hbp hx3
        have hbw3 := bthen hbw hb3
        have v1 := ((hbx.under hb3).2 0 _ rfl)
        have hbx3 := hbxp.under hx3
        have z0 := hbx3.2 0 _ rfl
        have z1 := hbx3.2 1 _ rfl
        rcases hgp : g.mem.has p with _ | _
        · have HNn := Hid.mk (HNX.out (fun _ => hgp))
          go_wp2_with fail
          go_roundw
          case rel => exact ⟨k + 1, by omega, by go_num, HNn, bthen hbk hb3⟩
          case measure => simp [intOf]; omega
        · have HPK := Hid.mk (HHI.out HTT.out hgp)
          have hC := dotsAt_any [.slice a n cap] m g.mem w3 (rGraph_good.mono (rGraph_good.below HRG.out hbw3) hbw3.size) hom hnn
          rw [show g.mem.cells.toArray = #[.int .u64 (g.mem.x0 : Int), .int .u64 (g.mem.x1 : Int)] from rfl] at hC
          go_wp2_with fail
          refine hC.mono ?_
          rintro e w4 ⟨vd, rfl, hRd, hx4⟩
          have hbw4 := bthen hbw3 hx4
          have HRd : Hid (RowR 2 40 rDot w.heap.size w4 w.heap.size vd (pickT g.mem.has m.fItems m.fItems.length)) := by
            obtain ⟨css, r1, r2, r3, r4⟩ := hRd
            exact ⟨css, r1, r2, fun j h1 h2 => by have h := r3 j h1 h2; exact ⟨h.1, h.2.1, h.2.2.1, trivial⟩, own_base r4 hbw3.size⟩
          clear hRd
          go_wp2_with fail
          go_ret
          exact ⟨vd, _, rfl, HPK.out, HRd.out, hbw4⟩
    · have hkn : k = ng := by omega
      have HPK : Hid (PickL m.fItems (InGroup m d) []) := group_miss HGL.out HPA.out (fun i hi ht => HN.out i hi (by rw [hkn, HNG.out]; exact hi) ht)
      go_wp2_with fail
      go_ret
      exact ⟨_, [], rfl, HPK.out, RowR.start, hbw⟩


theorem implGroup_c (R : List MDot) (cs : List Value) (m : MGraph) (ds : List Value) (d : MDot) (hR : PickL m.fItems (InGroup m d) R) (w : World) (hr : rGraph w.heap.size w cs m) (hw : wGraph m ≤ 1048576) (hd : rDot w.heap.size w ds d) (hT : TzAt w) :
    Calls Tryd.prog 20 #[.agg cs.toArray, .agg ds.toArray] w fun e w' => ∃ (v : Value) (F : List Nat), e = .returned v ∧ ownS 2 40 oDot w' v R F ∧ F.Nodup ∧ (∀ b, b ∈ F → w.heap.size ≤ b) ∧ Below w.heap.size w w' := by
  refine (implGroup_any cs m ds d w hr hw hd hT).mono ?_
  rintro e w' ⟨v, L, rfl, hL, hrow, hb⟩
  rw [hL.one hR] at hrow
  obtain ⟨h1, h2, h3⟩ := dots_own hrow
  exact ⟨v, _, rfl, h1, h2, h3, hb⟩


section
variable {H : Type} {enc : TypeId × Value → H} {w : World} {base fuel : Nat} {spare : Nat → Bool} {held : Bool} {cs : List Value} {x : DataW H × List MemPlace}

theorem openBytes {t e : TypeId} (ht : Tryd.prog.underlying t = some (.slice e)) (he : Tryd.prog.underlying e = some (.int .u8)) (hc : Tryd.prog.cellsOf e = 1) (h : DataW.trod enc Tryd.prog w base spare held fuel t cs = some x) :
    ∃ a c, ∃ zs : List Int, cs = [.slice a zs.length c] ∧ LeafB w.heap.size w a c zs := by
  rcases Go.ChangeShapes.open_ints ht he hc h with ⟨rfl, _⟩ | ⟨a, len, cap, zs, rfl, _, hl, hm, hz, _, hcell, hwf⟩
  · exact ⟨none, 0, [], rfl, by simp, by omega, fun j hj => by simp at hj, fun z hz => by cases hz⟩
  · have hzl : len ≤ zs.length := by rw [hz]; split <;> omega
    refine ⟨some a, cap, zs.take len, by simp [hzl], by simp; omega, by simpa [maxLen] using hm, ?_, ?_⟩
    · intro j hj
      have hj' : j < len := by simp at hj; omega
      obtain ⟨b, off, rfl, hcc⟩ := ints_at hcell (by omega)
      have hcj := hcc j (by omega)
      refine ⟨b, off, rfl, World.block_lt_of_cell? _ _ hcj, ?_⟩
      rw [hcj]
      congr 2
      simp only [List.getD_eq_getElem?_getD, List.getElem?_take, hj', if_true]
    · intro z hz'
      have := hwf z (List.mem_of_mem_take hz')
      simpa [Lit.wf, IntKind.min, IntKind.max, IntKind.signed, IntKind.bits] using this

end
end Go.Proofs.YtmigamgcmhdncaaDoor
