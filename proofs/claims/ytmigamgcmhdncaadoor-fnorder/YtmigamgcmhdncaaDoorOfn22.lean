/-
  Part 23 of the texts that the proof leans on.
-/
import Derived.Test.YtmigamgcmhdncaaDoorOfn17
import Derived.Test.YtmigamgcmhdncaaDoorOfn21
import Derived.Test.YtmigamgcmhdncaaDoorOfn18
import Derived.Test.YtmigamgcmhdncaaDoorOfn20
import Derived.Lib.SliceRun
set_option linter.unusedVariables false
set_option linter.unusedSimpArgs false
set_option maxRecDepth 10000

namespace Go.Proofs.YtmigamgcmhdncaaDoor
open Go.RowKit

/-- The group that has the place is the answer. -/
theorem group_hit {m : MGraph} {d : MDot} {gs : List MGrp} (h : GroupsL m gs) {i p : Nat} (hi : i < gs.length) (ht : thereAt m.fItems d p = true) (hh : gs[i].mem.has p = true) : PickL m.fItems (InGroup m d) (pickT gs[i].mem.has m.fItems m.fItems.length) := by
  rcases h with ⟨_, rfl⟩ | ⟨hg, ps, hG⟩
  · simp at hi
  · have hl : m.fItems.length ≤ 100 := by
      have h' : (decide (m.fItems.length ≤ 100) && upOk itemP itemLt m.fItems) = true := hg
      rw [Bool.and_eq_true] at h'
      exact of_decide_eq_true h'.1
    obtain ⟨hp, hle, hpn, hgo⟩ := hG.grp hi
    have hpl := (isAt_found (l := m.fItems) hg ht).1
    have hs : sameD m.fItems[p].fD d = true := by rw [← thereAt_at hpl]; exact ht
    have hr := (hgo.mem p (by omega)).1 hh
    refine ⟨gs[i].mem.has, fun j hj => ?_, rfl⟩
    rw [hgo.mem j (by omega)]
    constructor
    · intro hj2
      exact ⟨hg, p, hpl, hs, hr.whole hle.1, hr.symm.trans hj2⟩
    · rintro ⟨_, q, hq, hsq, _, hqj⟩
      have e : q = p := graph_uniq hg hq hpl hsq hs
      subst e
      exact hr.trans hqj
theorem group_miss {m : MGraph} {d : MDot} {gs : List MGrp} (h : GroupsL m gs) {p : Nat} (hP : PlaceAt m.fItems d p) (hn : ∀ i, (hi : i < gs.length) → thereAt m.fItems d p = true → gs[i].mem.has p = false) : PickL m.fItems (InGroup m d) [] := by
  apply PickL.none
  rintro j hj ⟨hg, q, hq, hs, hw, hr⟩
  rcases h with ⟨hg2, _⟩ | ⟨_, ps, hG⟩
  · rw [hg] at hg2; cases hg2
  · have hl : m.fItems.length ≤ 100 := by
      have h' : (decide (m.fItems.length ≤ 100) && upOk itemP itemLt m.fItems) = true := hg
      rw [Bool.and_eq_true] at h'
      exact of_decide_eq_true h'.1
    rcases ht : thereAt m.fItems d p with _ | _
    · have h1 := (isAt_none (l := m.fItems) hg hP ht q).1 (.inl ⟨hq, hs⟩)
      omega
    · have hqp : q = p := ((isAt_found (l := m.fItems) hg ht).2 q).1 (.inl ⟨hq, hs⟩)
      subst hqp
      obtain ⟨p0, hp0, hl0, hr0⟩ := lead_of q hw
      obtain ⟨i, hi, rfl⟩ := List.mem_iff_getElem.1 ((hG.who p0).2 ⟨by omega, hl0⟩)
      have hi2 : i < gs.length := by rw [hG.len]; exact hi
      have h2 := ((hG.each i hi hi2).mem q (by omega)).2 hr0
      rw [hn i hi2 ht] at h2; cases h2

set_option maxHeartbeats 8000000 in
theorem implGroup_any (cs : List Value) (m : MGraph) (ds : List Value) (d : MDot) (w : World) (hr : rGraph w.heap.size w cs m) (hw : wGraph m ≤ 1048576) (hd : rDot w.heap.size w ds d) (hT : TzAt w) :
    Calls Tryd.prog 20 #[.agg cs.toArray, .agg ds.toArray] w fun e w' => ∃ (v : Value) (L : List MDot), e = .returned v ∧ PickL m.fItems (InGroup m d) L ∧ RowR 2 40 rDot w.heap.size w' w.heap.size v L ∧ Below w.heap.size w w' := by
  have HRG := Hid.mk hr
  have HWG := Hid.mk hw
  have HTZ := Hid.mk hT
  obtain ⟨a, cap, rfl, hL, _⟩ := hr
  obtain ⟨rfl, d0, d1, _⟩ := hd
  have HL := Hid.mk hL
  obtain ⟨n, hx⟩ : ∃ n, n = m.fItems.length := ⟨_, rfl⟩
  rw [← hx] at HRG ⊢
  have HX := Hid.mk hx
  have hnw : n ≤ 1048576 := by have h : m.fItems.length + sumW wItem m.fItems ≤ 1048576 := hw; omega
  clear hL hx hw hT
  go_enter Tryd.func20, Tryd.ntmps20
  go_wp2_with fail
  obtain ⟨w1, hw1⟩ : ∃ x, x = (w.alloc (.cells #[.slice a n cap] 30)).alloc (.cells #[.int .i64 d.fR, .int .i64 d.fN] 40) := ⟨_, rfl⟩
  have hb01 : Below w.heap.size w w1 := by rw [hw1]; exact ((Below.refl _ _).alloc (Nat.le_refl _) _).alloc (by simp) _
  have hbx1 : Bx w1 w.heap.size [.slice a n cap] := by rw [hw1]; exact (Bx.new _ _ _).alloc _
  rw [← hw1]
  clear hw1
  refine (placeOf_any a n cap m.fItems [.int .i64 d.fR, .int .i64 d.fN] d w1 HX.out.symm (by omega) ((HL.out.below rItem_good hb01).mono rItem_good hb01.size) ⟨rfl, d0, d1, trivial⟩).mono ?_
  rintro e wa ⟨p, rfl, hPA, hxa⟩
  have hb0a := bthen hb01 hxa
  have hbxa := hbx1.under hxa
  have va := hbxa.2 0 _ rfl
  have HPA := Hid.mk hPA
  have hpn : p ≤ n := by rw [HX.out]; exact hPA.1
  clear hPA
  obtain ⟨th, hth⟩ : ∃ b, b = thereAt m.fItems d p := ⟨_, rfl⟩
  rw [← hth]
  have HTH := Hid.mk hth
  clear hth
  go_wp2_with fail
  refine (groupsOf_any [.slice a n cap] m wa (rGraph_good.mono (rGraph_good.below HRG.out hb0a) hb0a.size) HWG.out (HTZ.out.below hb0a)).mono ?_
  rintro e w2 ⟨v, gs, rfl, hGL, hRow, hx2⟩
  have hb02 := bthen hb0a hx2
  have hbx2 := hbxa.under hx2
  obtain ⟨hgc, hgn⟩ := groups_count hGL
  have HGN := Hid.mk hgn
  have HGL := Hid.mk hGL
  obtain ⟨ag, cg, hv, hLeaf⟩ := RowR.leaf rGrp_good hRow hx2.size
  subst hv
  have HLeaf := Hid.mk hLeaf
  obtain ⟨ng, hng⟩ : ∃ q, q = gs.length := ⟨_, rfl⟩
  rw [← hng] at hgc ⊢
  have HNG := Hid.mk hng
  clear hgn hRow hLeaf hGL hng hx2 hbx1 va
  go_wp2_with fail
  go_loopw [19] (fun iv wr => ∃ k : Nat, k ≤ ng ∧ iv = .int .i64 k ∧ Hid (∀ i, (hi : i < gs.length) → i < k → thereAt m.fItems d p = true → gs[i].mem.has p = false) ∧ Below w2.heap.size w2 wr) (fun iv _ => ng - (intOf iv).toNat)
  case atStart => exact ⟨0, Nat.zero_le _, rfl, Hid.mk (fun i _ h => by omega), Below.refl _ _⟩
  case round =>
    obtain ⟨k, hk, rfl, HN, hbk⟩ := hrel
    have hbw : Below w.heap.size w wr := bthen hb02 hbk
    have hbx := hbx2.under hbk
    have v0 := hbx.2 0 _ rfl
    by_cases hlt : k < ng
    · have hkg : k < gs.length := by rw [← HNG.out]; exact hlt
      obtain ⟨b1, o1, rfl, hB, cs, hcl, hcell, hcs, hom, hon⟩ := (HLeaf.out.2.2.below rGrp_good hbk) k hkg
      subst hcs
      have k0 := hcell 0 _ rfl
      have k1 := hcell 1 _ rfl
      have k2 := hcell 2 _ rfl
      have k3 := hcell 3 _ rfl
      rw [Nat.add_zero] at k0
      have hnn : m.fItems.length ≤ 100 := HGN.out (by omega)
      have HHI : Hid (thereAt m.fItems d p = true → gs[k].mem.has p = true → PickL m.fItems (InGroup m d) (pickT gs[k].mem.has m.fItems m.fItems.length)) := fun h1 h2 => group_hit HGL.out hkg h1 h2
      have HNX : Hid ((thereAt m.fItems d p = true → gs[k].mem.has p = false) → ∀ i, (hi : i < gs.length) → i < k + 1 → thereAt m.fItems d p = true → gs[i].mem.has p = false) := fun h i hi hik ht => by
        by_cases e : i = k
        · subst e; exact h ht
        · exact HN.out i hi (by omega) ht
      generalize gs[k] = g at *
      clear hcell hcl
      obtain ⟨wp, hwp⟩ : ∃ y, y = wr.alloc (.cells #[.int .u64 (g.mem.x0 : Int), .int .u64 (g.mem.x1 : Int), .int .u64 (g.need.x0 : Int), .int .u64 (g.need.x1 : Int)] 68) := ⟨_, rfl⟩
      have hbp : Below wr.heap.size wr wp := by rw [hwp]; exact (Below.refl _ _).alloc (Nat.le_refl _) _
      have hbxp : Bx wp wr.heap.size [.int .u64 (g.mem.x0 : Int), .int .u64 (g.mem.x1 : Int), .int .u64 (g.need.x0 : Int), .int .u64 (g.need.x1 : Int)] := by rw [hwp]; exact Bx.new _ _ _
      have hbwp := bthen hbw hbp
      have hk1 : (0 : Int) ≤ (k : Int) := by omega
      have hk2 : (k : Int) < (ng : Int) := by omega
      rcases hth : th with _ | _
      · have HNn := Hid.mk (HNX.out (fun h => by rw [← HTH.out, hth] at h; cases h))
        go_wp2_with fail
        rw [← hwp]
        clear hwp
        go_roundw
        case rel => exact ⟨k + 1, by omega, by go_num, HNn, bthen hbk hbp⟩
        case measure => simp [intOf]; omega
      · have HTT : Hid (thereAt m.fItems d p = true) := by unfold Hid; rw [← HTH.out, hth]
        have hC := has_any g.mem p wp hom (by have := HX.out; omega)
        rw [show g.mem.cells.toArray = #[.int .u64 (g.mem.x0 : Int), .int .u64 (g.mem.x1 : Int)] from rfl] at hC
        go_wp2_with fail
        rw [← hwp]
        clear hwp k0 k1 k2 k3 v0
        refine hC.mono ?_
        rintro e w3 ⟨rfl, hx3⟩
        have hb3 := bthen hbp hx3
        have hbw3 := bthen hbw hb3
        have v1 := ((hbx.under hb3).2 0 _ rfl)
        have hbx3 := hbxp.under hx3
        have z0 := hbx3.2 0 _ rfl
        have z1 := hbx3.2 1 _ rfl
        rcases hgp : g.mem.has p with _ | _
        · have HNn := Hid.mk (HNX.out (fun _ => hgp))
          go_wp2_with fail
          go_roundw
          case rel => exact ⟨k + 1, by omega, by go_num, HNn, bthen hbk hb3⟩
          case measure => simp [intOf]; omega
        · have HPK := Hid.mk (HHI.out HTT.out hgp)
          have hC := dotsAt_any [.slice a n cap] m g.mem w3 (rGraph_good.mono (rGraph_good.below HRG.out hbw3) hbw3.size) hom hnn
          rw [show g.mem.cells.toArray = #[.int .u64 (g.mem.x0 : Int), .int .u64 (g.mem.x1 : Int)] from rfl] at hC
          go_wp2_with fail
          refine hC.mono ?_
          rintro e w4 ⟨vd, rfl, hRd, hx4⟩
          have hbw4 := bthen hbw3 hx4
          have HRd : Hid (RowR 2 40 rDot w.heap.size w4 w.heap.size vd (pickT g.mem.has m.fItems m.fItems.length)) := by
            obtain ⟨css, r1, r2, r3, r4⟩ := hRd
            exact ⟨css, r1, r2, fun j h1 h2 => by have h := r3 j h1 h2; exact ⟨h.1, h.2.1, h.2.2.1, trivial⟩, own_base r4 hbw3.size⟩
          clear hRd
          go_wp2_with fail
          go_ret
          exact ⟨vd, _, rfl, HPK.out, HRd.out, hbw4⟩
    · have hkn : k = ng := by omega
      have HPK : Hid (PickL m.fItems (InGroup m d) []) := group_miss HGL.out HPA.out (fun i hi ht => HN.out i hi (by rw [hkn, HNG.out]; exact hi) ht)
      go_wp2_with fail
      go_ret
      exact ⟨_, [], rfl, HPK.out, RowR.start, hbw⟩


theorem implGroup_c (R : List MDot) (cs : List Value) (m : MGraph) (ds : List Value) (d : MDot) (hR : PickL m.fItems (InGroup m d) R) (w : World) (hr : rGraph w.heap.size w cs m) (hw : wGraph m ≤ 1048576) (hd : rDot w.heap.size w ds d) (hT : TzAt w) :
    Calls Tryd.prog 20 #[.agg cs.toArray, .agg ds.toArray] w fun e w' => ∃ (v : Value) (F : List Nat), e = .returned v ∧ ownS 2 40 oDot w' v R F ∧ F.Nodup ∧ (∀ b, b ∈ F → w.heap.size ≤ b) ∧ Below w.heap.size w w' := by
  refine (implGroup_any cs m ds d w hr hw hd hT).mono ?_
  rintro e w' ⟨v, L, rfl, hL, hrow, hb⟩
  rw [hL.one hR] at hrow
  obtain ⟨h1, h2, h3⟩ := dots_own hrow
  exact ⟨v, _, rfl, h1, h2, h3, hb⟩


/-- All that a group needs is taken. -/
def freeG (t : MSet) (g : MGrp) : Bool := decide ((g.need.less t).x0 = 0 ∧ (g.need.less t).x1 = 0)
theorem word_zero {x : Nat} (h : ∀ k, k < 64 → x.testBit k = false) (hx : x < 18446744073709551616) : x = 0 := by
  apply Nat.eq_of_testBit_eq
  intro k
  rw [Nat.zero_testBit]
  by_cases hk : k < 64
  · exact h k hk
  · have h1 : (18446744073709551616 : Nat) ≤ 2 ^ k := by
      have h2 := Nat.pow_le_pow_right (n := 2) (by decide) (show 64 ≤ k by omega)
      simpa using h2
    exact Nat.testBit_lt_two_pow (Nat.lt_of_lt_of_le hx h1)
theorem freeG_iff {t : MSet} {g : MGrp} (ht : t.ok) (hg : g.need.ok) : freeG t g = true ↔ ∀ j, j < 128 → g.need.has j = true → t.has j = true := by
  unfold freeG
  rw [decide_eq_true_iff]
  have hok := MSet.less_ok (t := t) hg
  constructor
  · rintro ⟨h0, h1⟩ j hj hn
    have hl : (g.need.less t).has j = false := by
      by_cases h : j < 64
      · rw [MSet.has_lo h, h0]; exact Nat.zero_testBit _
      · rw [MSet.has_hi h, h1]; exact Nat.zero_testBit _
    rw [MSet.less_has ht hj, hn, Bool.true_and] at hl
    simpa using hl
  · intro h
    have hz : ∀ j, j < 128 → (g.need.less t).has j = false := fun j hj => by
      rw [MSet.less_has ht hj]
      rcases hn : g.need.has j with _ | _
      · rfl
      · rw [h j hj hn]; rfl
    refine ⟨word_zero (fun k hk => ?_) hok.1, word_zero (fun k hk => ?_) hok.2⟩
    · rw [← MSet.has_lo hk]; exact hz k (by omega)
    · have := hz (k + 64) (by omega)
      rw [MSet.has_hi (by omega)] at this
      simpa using this

theorem eq_word (d : Nat) (x y : Int) (w : World) : (Op.equalIn (d + 1) 64 (.int .u64 x) (.int .u64 y)).run Tryd.prog w = .ok (x == y) w := by
  have hu := Tryd.underlying64
  simp [Op.equalIn, run_underlying hu, Sem.run_pure]
set_option maxHeartbeats 1000000 in
theorem eq_set (x y : Int) (w : World) : (Op.equalIn 10000 66 (.agg #[.int .u64 x, .int .u64 y]) (.agg #[.int .u64 0, .int .u64 0])).run Tryd.prog w = .ok (x == 0 && y == 0) w := by
  obtain ⟨iU, hiU, hz0, hz1, hz2⟩ := info_parts Tryd.infoOfWord
  have h := Tryd.underlying66
  have hsz : ∀ w, (sizeOf 64).run Tryd.prog w = .ok 1 w := fun w => by simp [sizeOf, typeInfo, hiU, hz1]
  have p0 : ∀ (a b : Int) w, (part 64 #[.int .u64 a, .int .u64 b] 0).run Tryd.prog w = .ok (.int .u64 a) w := fun a b w => by simp [part, typeInfo, hiU, hz1, Sem.run_pure, sizeOf]
  have p1 : ∀ (a b : Int) w, (part 64 #[.int .u64 a, .int .u64 b] 1).run Tryd.prog w = .ok (.int .u64 b) w := fun a b w => by simp [part, typeInfo, hiU, hz1, Sem.run_pure, sizeOf]
  have e1 : ∀ (a b : Int) w, (Op.equalIn 9999 64 (.int .u64 a) (.int .u64 b)).run Tryd.prog w = .ok (a == b) w := fun a b w => eq_word 9998 a b w
  show (Op.equalIn (9999 + 1) 66 (.agg #[.int .u64 x, .int .u64 y]) (.agg #[.int .u64 0, .int .u64 0])).run Tryd.prog w = _
  rw [Op.equalIn]
  simp only [Sem.run_bind, run_underlying h, Result.andThen_ok, hsz, Std.Legacy.Range.forIn_eq_forIn_range', Std.Legacy.Range.size, Nat.sub_zero, Nat.add_sub_cancel, Nat.div_one, List.range'_succ, List.range'_zero, List.forIn_cons, List.forIn_nil, Nat.mul_one, Nat.zero_add, p0, p1, e1]
  rcases h0 : (x == 0) with _ | _ <;> rcases h1 : (y == 0) with _ | _ <;> simp [h0, h1, p0, p1, e1, Sem.run_bind, Sem.run_pure]

set_option maxHeartbeats 1000000 in
theorem free_any (g : MGrp) (t : MSet) (bt : Nat) (T : TypeId) (w : World) (hg : g.need.ok) (ht : t.ok) (hb : Bw w bt T t.cells) :
    Calls Tryd.prog 49 #[.agg #[.int .u64 (g.mem.x0 : Int), .int .u64 (g.mem.x1 : Int), .int .u64 (g.need.x0 : Int), .int .u64 (g.need.x1 : Int)], .pointer (some ⟨bt, 0, none⟩)] w fun e w' => e = .returned (.bool (freeG t g)) ∧ Below w.heap.size w w' := by
  obtain ⟨wq, hwq⟩ : ∃ x, x = w.alloc (.cells #[.int .u64 (g.mem.x0 : Int), .int .u64 (g.mem.x1 : Int), .int .u64 (g.need.x0 : Int), .int .u64 (g.need.x1 : Int)] 68) := ⟨_, rfl⟩
  have hbq : Below w.heap.size w wq := by rw [hwq]; exact (Below.refl _ _).alloc (Nat.le_refl _) _
  have hbt := hb.under hbq
  have t0 := hbt.cell 0 _ rfl
  have t1 := hbt.cell 1 _ rfl
  rw [hwq] at t0 t1
  obtain ⟨r, hr⟩ : ∃ r, r = g.need.less t := ⟨_, rfl⟩
  have hC := fun W => without_any g.need t W hg ht
  rw [← hr] at hC
  rw [show g.need.cells.toArray = #[.int .u64 (g.need.x0 : Int), .int .u64 (g.need.x1 : Int)] from rfl, show t.cells.toArray = #[.int .u64 (t.x0 : Int), .int .u64 (t.x1 : Int)] from rfl, show r.cells.toArray = #[.int .u64 (r.x0 : Int), .int .u64 (r.x1 : Int)] from rfl] at hC
  have HV : Hid (freeG t g = (decide (r.x0 = 0) && decide (r.x1 = 0))) := by unfold Hid freeG; rw [← hr]; simp
  clear hr
  go_enter Tryd.func49, Tryd.ntmps49
  go_wp2_with fail
  rw [← hwq]
  clear hwq t0 t1
  refine (hC wq).mono ?_
  rintro e w1 ⟨rfl, hx1⟩
  have hb1 := bthen hbq hx1
  have heq := eq_set (r.x0 : Int) (r.x1 : Int)
  have HB : Hid (((r.x0 : Int) == 0 && (r.x1 : Int) == 0) = freeG t g) := by
    unfold Hid
    rw [HV.out]
    by_cases h0 : r.x0 = 0
    · by_cases h1 : r.x1 = 0
      · rw [h0, h1]; rfl
      · rw [decide_eq_false h1, Bool.and_false, beq_eq_false_iff_ne.2 (show (r.x1 : Int) ≠ 0 by omega), Bool.and_false]
    · rw [decide_eq_false h0, Bool.false_and, beq_eq_false_iff_ne.2 (show (r.x0 : Int) ≠ 0 by omega), Bool.false_and]
  rw [HB.out] at heq
  generalize (r.x0 : Int) = y0 at *
  generalize (r.x1 : Int) = y1 at *
  go_wp2_with fail
  go_ret
  exact ⟨rfl, hb1⟩

set_option maxHeartbeats 1000000 in
theorem indexG_any (a : Option Addr) (n c : Nat) (l : List MGrp) (t : MSet) (bt : Nat) (T : TypeId) (w : World) (hx : l.length = n) (hn : n ≤ 16777216) (hL : LeafL 4 rGrp w.heap.size w a c l) (ht : t.ok) (hb : Bw w bt T t.cells) :
    Calls Tryd.prog 48 #[.slice a n c, .func (.func 49) #[] #[.pointer (some ⟨bt, 0, none⟩)]] w fun e w' => Below w.heap.size w w' ∧
      ((e = .returned (.int .i64 (-1)) ∧ ∀ j, (h : j < l.length) → freeG t l[j] = false) ∨ ∃ i : Nat, e = .returned (.int .i64 i) ∧ ∃ h : i < l.length, freeG t l[i] = true ∧ ∀ j, (h : j < l.length) → j < i → freeG t l[j] = false) := by
  have HX := Hid.mk hx
  have HL := Hid.mk hL
  clear hx hL
  go_enter Tryd.func48, Tryd.ntmps48
  go_wp2_with fail
  go_loopw [8] (fun iv wr => ∃ k : Nat, k ≤ n ∧ iv = .int .i64 k ∧ Hid (∀ j, (h : j < l.length) → j < k → freeG t l[j] = false) ∧ Below w.heap.size w wr) (fun iv _ => n - (intOf iv).toNat)
  case atStart => exact ⟨0, Nat.zero_le _, rfl, Hid.mk (fun j _ hj => by omega), Below.refl _ _⟩
  case round =>
    obtain ⟨k, hk, rfl, HNO, hbk⟩ := hrel
    by_cases hlt : k < n
    · have hkl : k < l.length := by rw [HX.out]; exact hlt
      obtain ⟨b1, o1, rfl, hbB, cs, hcl, hcell, hcs, hom, hon⟩ := (HL.out.2.2.below rGrp_good hbk) k hkl
      subst hcs
      have k0 := hcell 0 _ rfl
      have k1 := hcell 1 _ rfl
      have k2 := hcell 2 _ rfl
      have k3 := hcell 3 _ rfl
      rw [Nat.add_zero] at k0
      obtain ⟨p, hp⟩ : ∃ p, p = l[k] := ⟨_, rfl⟩
      have HPK := Hid.mk hp
      rw [← hp] at k0 k1 k2 k3 hom hon
      clear hcell hcl hp
      have hC := free_any p t bt T wr hon ht (hb.under hbk)
      go_wp2_with fail
      refine hC.mono ?_
      rintro e w1 ⟨rfl, hx1⟩
      have hB1 := hbk.trans (hx1.mono hbk.size)
      rcases hg : freeG t p with _ | _
      · have HN2 : Hid (∀ j, (h : j < l.length) → j < k + 1 → freeG t l[j] = false) := fun j h hj => by
          by_cases hjk : j = k
          · subst hjk; rw [← HPK.out]; exact hg
          · exact HNO.out j h (by omega)
        go_wp2_with fail
        go_roundw
        case rel => exact ⟨k + 1, by omega, by go_num, HN2, hB1⟩
        case measure => simp [intOf]; omega
      · go_wp2_with fail
        go_ret
        exact ⟨hB1, .inr ⟨k, rfl, hkl, by rw [← HPK.out]; exact hg, HNO.out⟩⟩
    · go_wp2_with fail
      go_ret
      exact ⟨hbk, .inl ⟨rfl, fun j h => HNO.out j h (by have := HX.out; omega)⟩⟩


structure OrdSt (l : List MItem) (qs rs : List Nat) (grs : List MGrp) (s : MSet) (L : List MDot) : Prop where
  ord : OrdOk l qs
  asc : rs.Pairwise (· < ·)
  who : ∀ p, p ∈ rs ↔ p < l.length ∧ lead l p ∧ p ∉ qs
  len : grs.length = rs.length
  each : ∀ i, (h : i < rs.length) → (h2 : i < grs.length) → GrpOk l rs[i] grs[i]
  ok : s.ok
  got : ∀ j, j < 128 → (s.has j = true ↔ takenBy l qs j)
  dots : DotsOf l qs L
theorem OrdSt.start {l : List MItem} {ps : List Nat} {gs : List MGrp} (h : GroupsOk l l.length ps gs) : OrdSt l [] ps gs ⟨0, 0⟩ [] :=
  ⟨OrdOk.nil l, h.asc, fun p => by rw [h.who]; simp, h.len, h.each, ⟨by decide, by decide⟩, fun j hj => by rw [MSet.zero_has]; simp [takenBy], DotsOf.nil l⟩
theorem OrdSt.free {l : List MItem} {qs rs : List Nat} {grs : List MGrp} {s : MSet} {L : List MDot} (h : OrdSt l qs rs grs s L) (hl : l.length ≤ 100) {i : Nat} (hi : i < grs.length) : ∃ hr : i < rs.length, (freeG s grs[i] = true ↔ cand l qs rs[i]) := by
  have hr : i < rs.length := by rw [← h.len]; exact hi
  have hg := h.each i hr hi
  obtain ⟨h1, h2, h3⟩ := (h.who rs[i]).1 (List.getElem_mem hr)
  refine ⟨hr, ?_⟩
  rw [freeG_iff h.ok hg.okn]
  constructor
  · intro hf
    refine ⟨h1, h2.1, fun ht => h3 ((h.ord.taken_lead h2).1 ht), fun j hj hn => ?_⟩
    have := hj.lt
    exact (h.got j (by omega)).1 (hf j (by omega) ((hg.need j (by omega)).2 ⟨hj, hn⟩))
  · intro hc j hj hn
    obtain ⟨a, b⟩ := (hg.need j hj).1 hn
    exact (h.got j hj).2 (hc.2.2.2 j a b)
/-- What can be taken has its leader in the list. -/
theorem OrdSt.of_cand {l : List MItem} {qs rs : List Nat} {grs : List MGrp} {s : MSet} {L : List MDot} (h : OrdSt l qs rs grs s L) {q : Nat} (hq : cand l qs q) : ∃ i, ∃ hr : i < rs.length, rs[i] ≤ q ∧ cand l qs rs[i] := by
  obtain ⟨q0, h1, h2, h3⟩ := lead_of q hq.2.1
  have hc := hq.ring h3.symm
  have hm : q0 ∈ rs := (h.who q0).2 ⟨hc.1, h2, fun hm => hc.2.2.1 ⟨q0, hm, ring.refl _ _⟩⟩
  obtain ⟨i, hi, rfl⟩ := List.mem_iff_getElem.1 hm
  exact ⟨i, hi, h1, hc⟩
theorem OrdSt.next {l : List MItem} {qs rs : List Nat} {grs : List MGrp} {s : MSet} {L : List MDot} (h : OrdSt l qs rs grs s L) (hl : l.length ≤ 100) {i : Nat} (hi : i < grs.length) (hf : freeG s grs[i] = true) (hn : ∀ j, (hj : j < grs.length) → j < i → freeG s grs[j] = false) : ∃ hr : i < rs.length, nextOk l qs rs[i] := by
  obtain ⟨hr, h1⟩ := h.free hl hi
  refine ⟨hr, h1.1 hf, fun q hq hc => ?_⟩
  obtain ⟨k, hk, h2, h3⟩ := h.of_cand hc
  have hki : k < i := by
    apply Classical.byContradiction
    intro hge
    by_cases e : k = i
    · subst e; omega
    · have := (List.pairwise_iff_getElem.1 h.asc) i k hr hk (by omega)
      omega
  have hkg : k < grs.length := by rw [h.len]; exact hk
  have h4 := (h.free hl hkg).2.2 h3
  rw [hn k hkg hki] at h4; cases h4
theorem OrdSt.step {l : List MItem} {qs rs : List Nat} {grs : List MGrp} {s : MSet} {L : List MDot} (h : OrdSt l qs rs grs s L) (hl : l.length ≤ 100) {i : Nat} (hi : i < grs.length) (hf : freeG s grs[i] = true) (hn : ∀ j, (hj : j < grs.length) → j < i → freeG s grs[j] = false) :
    ∃ p, OrdSt l (qs ++ [p]) (rs.eraseIdx i) (grs.eraseIdx i) (s.join grs[i].mem) (L ++ pickT grs[i].mem.has l l.length) := by
  obtain ⟨hr, hx⟩ := h.next hl hi hf hn
  have hg := h.each i hr hi
  have hsub : (rs.eraseIdx i).Sublist rs := List.eraseIdx_sublist _ _
  refine ⟨rs[i], h.ord.snoc hx, h.asc.sublist hsub, fun p => ?_, by rw [List.length_eraseIdx, List.length_eraseIdx, if_pos hi, if_pos hr, h.len], fun j h1 h2 => ?_, MSet.join_ok h.ok hg.okm, fun j hj => ?_, h.dots.snoc ⟨grs[i].mem.has, fun j hj => hg.mem j (by omega), rfl⟩⟩
  · have hnd : rs.Nodup := h.asc.imp (fun h => Nat.ne_of_lt h)
    have hme : p ∈ rs.eraseIdx i ↔ p ∈ rs ∧ p ≠ rs[i] := by
      rw [List.mem_eraseIdx_iff_getElem]
      constructor
      · rintro ⟨k, hk, hki, rfl⟩
        refine ⟨List.getElem_mem hk, fun e => ?_⟩
        rcases Nat.lt_trichotomy k i with g | g | g
        · have := (List.pairwise_iff_getElem.1 h.asc) k i hk hr g; omega
        · exact hki g
        · have := (List.pairwise_iff_getElem.1 h.asc) i k hr hk g; omega
      · rintro ⟨hm, hne⟩
        obtain ⟨k, hk, rfl⟩ := List.mem_iff_getElem.1 hm
        exact ⟨k, hk, fun e => hne (by subst e; rfl), rfl⟩
    rw [hme, h.who, List.mem_append, List.mem_singleton]
    constructor
    · rintro ⟨⟨a, b, c⟩, d⟩
      exact ⟨a, b, fun e => e.elim c d⟩
    · rintro ⟨a, b, c⟩
      exact ⟨⟨a, b, fun e => c (.inl e)⟩, fun e => c (.inr e)⟩
  · by_cases hji : j < i
    · have e1 : (rs.eraseIdx i)[j] = rs[j]'(by omega) := List.getElem_eraseIdx_of_lt _ hji
      have e2 : (grs.eraseIdx i)[j] = grs[j]'(by omega) := List.getElem_eraseIdx_of_lt _ hji
      rw [e1, e2]
      exact h.each j _ _
    · have l1 : (rs.eraseIdx i).length = rs.length - 1 := by rw [List.length_eraseIdx, if_pos hr]
      have l2 : (grs.eraseIdx i).length = grs.length - 1 := by rw [List.length_eraseIdx, if_pos hi]
      have e1 : (rs.eraseIdx i)[j] = rs[j + 1]'(by omega) := List.getElem_eraseIdx_of_ge _ (by omega)
      have e2 : (grs.eraseIdx i)[j] = grs[j + 1]'(by omega) := List.getElem_eraseIdx_of_ge _ (by omega)
      rw [e1, e2]
      exact h.each (j + 1) _ _
  · rw [MSet.join_has, Bool.or_eq_true, h.got j hj, hg.mem j hj, takenBy_snoc]
theorem OrdSt.stuck {l : List MItem} {qs rs : List Nat} {grs : List MGrp} {s : MSet} {L : List MDot} (h : OrdSt l qs rs grs s L) (hl : l.length ≤ 100) (h0 : 0 < grs.length) (hn : ∀ j, (hj : j < grs.length) → freeG s grs[j] = false) : False := by
  have hr : 0 < rs.length := by rw [← h.len]; exact h0
  obtain ⟨h1, h2, h3⟩ := (h.who rs[0]).1 (List.getElem_mem hr)
  obtain ⟨q, hq⟩ := h.ord.free h1 h2.1 (fun ht => h3 ((h.ord.taken_lead h2).1 ht))
  obtain ⟨k, hk, _, h5⟩ := h.of_cand hq
  have hkg : k < grs.length := by rw [h.len]; exact hk
  have h4 := (h.free hl hkg).2.2 h5
  rw [hn k hkg] at h4; cases h4
theorem OrdSt.done {l : List MItem} {qs rs : List Nat} {grs : List MGrp} {s : MSet} {L : List MDot} (h : OrdSt l qs rs grs s L) (h0 : grs.length = 0) : OrdFull l qs :=
  ⟨h.ord, fun p hp => by
    obtain ⟨k, hk, _⟩ := h.of_cand hp
    have := h.len
    omega⟩
/-- The same, where the graph may be wrong. -/
def OrdSt' (m : MGraph) (grs : List MGrp) (s : MSet) (L : List MDot) : Prop := s.ok ∧ L.length ≤ 10000 ∧ grs.length ≤ 100 ∧ ((graphP m = false ∧ grs = [] ∧ L = []) ∨ (graphP m = true ∧ ∃ qs rs, OrdSt m.fItems qs rs grs s L))
theorem OrdSt.len10 {m : MGraph} (hg : graphP m = true) {qs rs : List Nat} {grs : List MGrp} {s : MSet} {L : List MDot} (h : OrdSt m.fItems qs rs grs s L) : L.length ≤ 10000 ∧ grs.length ≤ 100 := by
  have a := h.dots.len
  have b := h.ord.len
  have c := graph_len hg
  have d := Nat.mul_le_mul (Nat.le_trans b c) c
  have e : rs.length ≤ m.fItems.length := asc_len h.asc (fun p hp => ((h.who p).1 hp).1)
  have f := h.len
  omega
theorem OrdSt'.start {m : MGraph} {gs : List MGrp} (h : GroupsL m gs) : OrdSt' m gs ⟨0, 0⟩ [] := by
  rcases h with ⟨h1, rfl⟩ | ⟨h1, ps, h2⟩
  · exact ⟨⟨by decide, by decide⟩, by simp, by simp, .inl ⟨h1, rfl, rfl⟩⟩
  · have h3 := OrdSt.start h2
    exact ⟨⟨by decide, by decide⟩, (h3.len10 h1).1, (h3.len10 h1).2, .inr ⟨h1, [], ps, h3⟩⟩
theorem OrdSt'.small {m : MGraph} {grs : List MGrp} {s : MSet} {L : List MDot} (h : OrdSt' m grs s L) (h0 : 0 < grs.length) : m.fItems.length ≤ 100 := by
  rcases h.2.2.2 with ⟨_, rfl, _⟩ | ⟨hg, _⟩
  · simp at h0
  · exact graph_len hg
theorem OrdSt'.step {m : MGraph} {grs : List MGrp} {s : MSet} {L : List MDot} (h : OrdSt' m grs s L) {i : Nat} (hi : i < grs.length) (hf : freeG s grs[i] = true) (hn : ∀ j, (hj : j < grs.length) → j < i → freeG s grs[j] = false) :
    OrdSt' m (grs.eraseIdx i) (s.join grs[i].mem) (L ++ pickT grs[i].mem.has m.fItems m.fItems.length) := by
  rcases h.2.2.2 with ⟨_, rfl, _⟩ | ⟨hg, qs, rs, h1⟩
  · simp at hi
  · obtain ⟨p, h2⟩ := h1.step (graph_len hg) hi hf hn
    exact ⟨h2.ok, (h2.len10 hg).1, (h2.len10 hg).2, .inr ⟨hg, _, _, h2⟩⟩
theorem OrdSt'.stuck {m : MGraph} {grs : List MGrp} {s : MSet} {L : List MDot} (h : OrdSt' m grs s L) (h0 : 0 < grs.length) (hn : ∀ j, (hj : j < grs.length) → freeG s grs[j] = false) : False := by
  rcases h.2.2.2 with ⟨_, rfl, _⟩ | ⟨hg, qs, rs, h1⟩
  · simp at h0
  · exact h1.stuck (graph_len hg) h0 hn
theorem OrdSt'.done {m : MGraph} {grs : List MGrp} {s : MSet} {L : List MDot} (h : OrdSt' m grs s L) (h0 : grs.length = 0) : OrderL m L := by
  rcases h.2.2.2 with ⟨h1, _, rfl⟩ | ⟨hg, qs, rs, h1⟩
  · exact .inl ⟨h1, rfl⟩
  · exact .inr ⟨hg, qs, h1.done h0, h1.dots⟩

end Go.Proofs.YtmigamgcmhdncaaDoor
