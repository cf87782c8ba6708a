/-
  Part 18 of the texts that the proof leans on.
-/
import Derived.Test.YtmigamgcmhdncaaDoorGrp16
import Derived.Shelf.Spec.TrailingZeros
import Derived.Test.YtmigamgcmhdncaaDoorProg
import Derived.ScopeJumps
import Derived.WalkMore
import Derived.Lib.SliceRun
import Derived.BigFrame
set_option linter.unusedVariables false
set_option linter.unusedSimpArgs false
set_option maxRecDepth 10000

namespace Go.Proofs.YtmigamgcmhdncaaDoor
open Go.RowKit

theorem Tryd.infoOfPlaceSet : (Tryd.prog.info? 66).map (fun i => (i.zero, i.size, i.bytes)) = some (some (.agg #[.int .u64 0, .int .u64 0]), 2, 16) := by kernel_rfl
theorem bw_sets {w : World} {g n base : Nat} {e : TypeId} (h : w.ownsRow base e 2 (.slice (some ⟨g, 0, none⟩) n n) n (madeCells (Value.agg #[.int .u64 0, .int .u64 0]).cells (n * 2)).toList) : Bw w g e (flatS (List.replicate n ⟨0, 0⟩)) := by
  rcases h.2 with ⟨h', _⟩ | ⟨g', cap, cur, h', hb, hg, hnc, hm, hs, ht⟩
  · cases h'
  · simp only [Value.slice.injEq, Option.some.injEq, Addr.mk.injEq, and_true, true_and] at h'
    obtain ⟨rfl, rfl⟩ := h'
    have e1 : cur.toList = flatS (List.replicate n ⟨0, 0⟩) := by
      rw [List.take_of_length_le (by simp; omega)] at ht
      rw [ht, flatS_made]
    show w.heap[g]? = _
    rw [hg, ← e1]
/-- A row of sets of one's own of which the first k are through, the others empty. -/
structure Steps (l : List MItem) (n k : Nat) (g : Nat) (ss : List MSet) (W : World) : Prop where
  len : ss.length = n
  row : Bw W g 66 (flatS ss)
  did : ∀ i, (hi : i < ss.length) → i < k → StepOk l i ss[i]
  not : ∀ i, (hi : i < ss.length) → k ≤ i → ss[i] = ⟨0, 0⟩
/-- In the midst of the k-th. -/
structure Steps2 (l : List MItem) (ds : List MDot) (n k c : Nat) (g : Nat) (ss : List MSet) (W : World) : Prop where
  len : ss.length = n
  row : Bw W g 66 (flatS ss)
  did : ∀ i, (hi : i < ss.length) → i < k → StepOk l i ss[i]
  not : ∀ i, (hi : i < ss.length) → k < i → ss[i] = ⟨0, 0⟩
  now : ∃ hk : k < ss.length, StepSt l ds c ss[k]
theorem Steps.enter {l : List MItem} {n k g : Nat} {ss : List MSet} {W W' : World} (h : Steps l n k g ss W) (hk : k < n) (ds : List MDot) (hb : Below W.heap.size W W') : Steps2 l ds n k 0 g ss W' :=
  ⟨h.len, h.row.under hb, h.did, fun i hi h' => h.not i hi (by omega), by rw [← h.len] at hk; exact ⟨hk, by rw [h.not k hk (Nat.le_refl _)]; exact StepSt.start l ds⟩⟩
theorem Steps2.under {l : List MItem} {ds : List MDot} {n k c g : Nat} {ss : List MSet} {W W' : World} (h : Steps2 l ds n k c g ss W) (hb : Below W.heap.size W W') : Steps2 l ds n k c g ss W' := ⟨h.len, h.row.under hb, h.did, h.not, h.now⟩
theorem Steps2.next {l : List MItem} {ds : List MDot} {n k c g : Nat} {ss : List MSet} {W W' : World} (h : Steps2 l ds n k c g ss W) (hc : c < ds.length) {p : Nat} (hp : p < 128) (hw : ∀ j, isAt l ds[c] j ↔ j = p) {s : MSet} (hs : ∃ hk : k < ss.length, ss[k] = s)
    (hr : Bw W' g 66 (((flatS ss).set (k * 2) (.int .u64 ((s.add p).x0 : Int))).set (k * 2 + 1) (.int .u64 ((s.add p).x1 : Int)))) : Steps2 l ds n k (c + 1) g (ss.set k (s.add p)) W' := by
  obtain ⟨hk, rfl⟩ := hs
  rw [flatS_set hk] at hr
  refine ⟨by simpa using h.len, hr, fun i hi hik => ?_, fun i hi hik => ?_, by simpa using hk, ?_⟩
  · rw [List.getElem_set_ne (by omega)]; exact h.did i (by simpa using hi) hik
  · rw [List.getElem_set_ne (by omega)]; exact h.not i (by simpa using hi) hik
  · rw [List.getElem_set_self]; exact h.now.2.next hc hp hw
theorem Steps2.leave {l : List MItem} {n k g : Nat} {ss : List MSet} {W : World} (hk : k < l.length) {ds : List MDot} (hd : ds = l[k].fDeps) (h : Steps2 l ds n k ds.length g ss W) : Steps l n (k + 1) g ss W := by
  subst hd
  refine ⟨h.len, h.row, fun i hi hik => ?_, fun i hi hik => h.not i hi (by omega)⟩
  by_cases he : i = k
  · subst he; exact h.now.2.done hk
  · exact h.did i hi (by omega)

set_option maxHeartbeats 4000000 in
theorem stepsOf_any (a : Option Addr) (n cap : Nat) (l : List MItem) (w : World) (hx : l.length = n) (hg : graphP ⟨l⟩ = true) (hr : LeafL 3 rItem w.heap.size w a cap l) :
    Calls Tryd.prog 67 #[.slice a n cap] w fun e w' => ∃ ss : List MSet, e = .returned (.slice (some ⟨w.heap.size, 0, none⟩) n n) ∧ Steps l n n w.heap.size ss w' ∧ Below w.heap.size w w' := by
  obtain ⟨iS, hiS, hzS0, hzS1, hzS2⟩ := info_parts Tryd.infoOfPlaceSet
  have hn : n ≤ 100 := by
    have h' : (decide (l.length ≤ 100) && upOk itemP itemLt l) = true := hg
    rw [Bool.and_eq_true] at h'
    rw [← hx]
    exact of_decide_eq_true h'.1
  have HGO := Hid.mk hg
  have HX := Hid.mk hx
  have HL := Hid.mk hr
  clear hx hg hr
  go_enter Tryd.func67, Tryd.ntmps67
  go_wp2_with (at_make; refine wpList_make_full _ rfl _ _ 99 rfl w.heap.size 66 iS (.agg #[.int .u64 0, .int .u64 0]) 2 Tryd.underlying99 hiS hzS0 hzS1 .i64 .i64 _ _ n rfl rfl rfl rfl (by rw [hzS2]; omega) (by unfold maxLen; omega) (by simp) ?_; intro w1 hown hgr)
  have hb01 : Below w.heap.size w w1 := (Below.refl _ _).grown hgr (Nat.le_refl _) (fun k h => by cases h)
  have HS0 : Hid (Steps l n 0 w.heap.size (List.replicate n ⟨0, 0⟩) w1) := ⟨by simp, bw_sets hown, fun i hi h => by omega, fun i hi h => by simp⟩
  clear hown hgr
  go_loopw [15] (fun iv wr => ∃ (k : Nat) (ss : List MSet), k ≤ n ∧ iv = .int .i64 k ∧ Hid (Steps l n k w.heap.size ss wr) ∧ Below w.heap.size w wr) (fun iv _ => n - (intOf iv).toNat)
  case atStart => exact ⟨0, _, Nat.zero_le _, rfl, HS0, hb01⟩
  case round =>
    obtain ⟨k, ss, hk, rfl, HS, hbk⟩ := hrel
    by_cases hlt : k < n
    · have hkl : k < l.length := by rw [HX.out]; exact hlt
      obtain ⟨b1, o1, rfl, hB, cs, hcl, hcell, a2, c2, rfl, g0, g1, g2, _⟩ := HL.out.2.2 k hkl
      have HD2 := Hid.mk g2
      have k0 := (hbk.cell (p := ⟨b1, o1 + k * 3, none⟩) hB).trans (hcell 0 _ rfl)
      have k1 := (hbk.cell (p := ⟨b1, o1 + k * 3 + 1, none⟩) hB).trans (hcell 1 _ rfl)
      have k2 := (hbk.cell (p := ⟨b1, o1 + k * 3 + 2, none⟩) hB).trans (hcell 2 _ rfl)
      obtain ⟨ds, hds⟩ : ∃ ds, ds = l[k].fDeps := ⟨_, rfl⟩
      have hdl : ds.length ≤ 100 := by
        have h1 := graph_deps HGO.out k hkl
        rw [← hds] at h1
        omega
      rw [← hds] at k2 HD2
      have HDS := Hid.mk hds
      generalize l[k].fD = d0 at *
      clear hcell hcl g2 hds
      obtain ⟨wp, hwp⟩ : ∃ y, y = wr.alloc (.cells #[.int .i64 d0.fR, .int .i64 d0.fN, .slice a2 ds.length c2] 52) := ⟨_, rfl⟩
      have hbp : Below wr.heap.size wr wp := by rw [hwp]; exact (Below.refl _ _).alloc (Nat.le_refl _) _
      have HS1 := Hid.mk (HS.out.enter hlt ds hbp)
      have hbwp : Below w.heap.size w wp := hbk.trans (hbp.mono hbk.size)
      go_wp2_with fail
      rw [← hwp]
      clear hwp k0 k1 k2 HS hbk
      generalize wr = wo at *
      clear hbp
      go_loopw [23] (fun cv wr => ∃ (c : Nat) (ss : List MSet), c ≤ ds.length ∧ cv = .int .i64 c ∧ Hid (Steps2 l ds n k c w.heap.size ss wr) ∧ Below w.heap.size w wr) (fun cv _ => ds.length - (intOf cv).toNat)
      case atStart => exact ⟨0, ss, Nat.zero_le _, rfl, HS1, hbwp⟩
      case round =>
        obtain ⟨c, s2, hc, rfl, HT, hbw⟩ := hrel
        by_cases hlc : c < ds.length
        · obtain ⟨b3, o3, rfl, hB3, cs3, hcl3, hcell3, rfl, f0, f1, _⟩ := (HD2.out.2.2.below rDot_good hbw) c hlc
          have y0 := hcell3 0 _ rfl
          have y1 := hcell3 1 _ rfl
          rw [Nat.add_zero] at y0
          have HW1 : Hid (∀ p, thereAt l ds[c] p = true → p < l.length ∧ ∀ j, isAt l ds[c] j ↔ j = p) := fun p h => isAt_found HGO.out h
          have HW2 : Hid (∀ p, PlaceAt l ds[c] p → thereAt l ds[c] p = false → ∀ j, isAt l ds[c] j ↔ j = 100) := fun p hp h => isAt_none HGO.out hp h
          obtain ⟨s, hs⟩ : ∃ s, ∃ hk : k < s2.length, s2[k] = s := ⟨_, HT.out.now.1, rfl⟩
          have hsok : s.ok := by obtain ⟨_, rfl⟩ := hs; exact HT.out.now.2.1
          have hkn : k < s2.length := HT.out.now.1
          have HQ0 : Hid ((flatS s2)[k * 2]? = some (.int .u64 (s.x0 : Int))) := by obtain ⟨_, rfl⟩ := hs; exact flatS_at0 hkn
          have HQ1 : Hid ((flatS s2)[k * 2 + 1]? = some (.int .u64 (s.x1 : Int))) := by obtain ⟨_, rfl⟩ := hs; exact flatS_at1 hkn
          have HNX : Hid (∀ p W W', p < 128 → (∀ j, isAt l ds[c] j ↔ j = p) → Steps2 l ds n k c w.heap.size s2 W → Bw W' w.heap.size 66 (((flatS s2).set (k * 2) (.int .u64 ((s.add p).x0 : Int))).set (k * 2 + 1) (.int .u64 ((s.add p).x1 : Int))) → Steps2 l ds n k (c + 1) w.heap.size (s2.set k (s.add p)) W') := fun p W W' hp hw h hr => h.next hlc hp hw hs hr
          generalize ds[c] = d at *
          clear hcell3 hcl3 hs hkn
          obtain ⟨w5, hw5⟩ : ∃ x, x = wr.alloc (.cells #[.int .i64 d.fR, .int .i64 d.fN] 40) := ⟨_, rfl⟩
          have hb5 : Below wr.heap.size wr w5 := by rw [hw5]; exact (Below.refl _ _).alloc (Nat.le_refl _) _
          have hbw5 : Below w.heap.size w w5 := hbw.trans (hb5.mono hbw.size)
          have HP := Hid.mk (placeOf_any (some ⟨b1, o1, none⟩) n cap l [.int .i64 d.fR, .int .i64 d.fN] d w5 HX.out (by omega) ((HL.out.below rItem_good hbw5).mono rItem_good hbw5.size) ⟨rfl, f0, f1, trivial⟩)
          go_wp2_with fail
          rw [← hw5]
          clear hw5
          refine HP.out.mono ?_
          rintro e w6 ⟨p, rfl, hPA, hx6⟩
          have HT6 := Hid.mk (HT.out.under (hb5.trans (hx6.mono hb5.size)))
          have hbw6 : Below w.heap.size w w6 := hbw5.trans (hx6.mono hbw5.size)
          have HPA := Hid.mk hPA
          have hk1 : (0 : Int) ≤ (k : Int) := by omega
          have hk2 : (k : Int) < (n : Int) := by omega
          clear HP hPA y0 y1 HT hb5 hbw5 hx6
          rcases ht : thereAt l d p with _ | _
          · have HW := Hid.mk (HW2.out p HPA.out ht)
            clear ht
            go_wp2_with fail
            refine (add_any w.heap.size (k * 2) 100 66 _ s w6 hsok (by omega) HT6.out.row HQ0.out HQ1.out).mono ?_
            rintro e w7 ⟨rfl, hB7, hT7⟩
            have HT7 := Hid.mk (HNX.out 100 w6 w7 (by omega) HW.out HT6.out hB7)
            have hbw7 : Below w.heap.size w w7 := hbw6.trans (hT7.below (fun x hx => by simp at hx; omega) hbw6.size)
            clear hB7 hT7
            go_wp2_with fail
            go_roundw
            case rel => exact ⟨c + 1, _, by omega, by go_num, HT7, hbw7⟩
            case measure => simp [intOf]; omega
          · have HW := Hid.mk (HW1.out p ht)
            have hpn : p < n := by have h1 := HW.out.1; have h2 := HX.out; omega
            clear ht
            go_wp2_with fail
            refine (add_any w.heap.size (k * 2) p 66 _ s w6 hsok (by omega) HT6.out.row HQ0.out HQ1.out).mono ?_
            rintro e w7 ⟨rfl, hB7, hT7⟩
            have HT7 := Hid.mk (HNX.out p w6 w7 (by omega) HW.out.2 HT6.out hB7)
            have hbw7 : Below w.heap.size w w7 := hbw6.trans (hT7.below (fun x hx => by simp at hx; omega) hbw6.size)
            clear hB7 hT7
            go_wp2_with fail
            go_roundw
            case rel => exact ⟨c + 1, _, by omega, by go_num, HT7, hbw7⟩
            case measure => simp [intOf]; omega
        · have hcd : c = ds.length := by omega
          have HSn : Hid (Steps l n (k + 1) w.heap.size s2 wr) := Steps2.leave hkl HDS.out (by rw [← hcd]; exact HT.out)
          clear HT
          go_wp2_with fail
          go_roundw
          case rel => exact ⟨k + 1, s2, by omega, by go_num, HSn, hbw⟩
          case measure => simp [intOf]; omega
    · have hkn : k = n := by omega
      subst hkn
      go_wp2_with fail
      go_ret
      exact ⟨ss, rfl, HS.out, hbk⟩

end Go.Proofs.YtmigamgcmhdncaaDoor

namespace Go.Proofs.YtmigamgcmhdncaaDoor
open Go.Proofs Go.Shelf

def layTz_ren : Go.Shelf.Ren := ⟨fun | 29 => 109 | n => n, fun | 22 => 64 | 3 => 3 | 4 => 4 | 25 => 105 | 54 => 151 | 0 => 0 | 5 => 5 | n => n, fun | 1 => 0 | n => n⟩
theorem layTz : Go.Proofs.Lays7.n29 Tryd.prog layTz_ren := {
  mixed := by kernel_rfl
  f29 := Tryd.func109.trans (congrArg some (by kernel_rfl))
  t0 := Tryd.underlying0
  a0 := Tryd.isAgg0
  z0 := Tryd.sizeOf0
  v0 := Tryd.zeroValue0
  i0 := by kernel_rfl
  t3 := Tryd.underlying3
  a3 := Tryd.isAgg3
  z3 := Tryd.sizeOf3
  v3 := Tryd.zeroValue3
  i3 := by kernel_rfl
  t4 := Tryd.underlying4
  a4 := Tryd.isAgg4
  z4 := Tryd.sizeOf4
  v4 := Tryd.zeroValue4
  i4 := by kernel_rfl
  t5 := Tryd.underlying5
  a5 := Tryd.isAgg5
  z5 := Tryd.sizeOf5
  v5 := Tryd.zeroValue5
  i5 := by kernel_rfl
  t22 := Tryd.underlying64
  a22 := Tryd.isAgg64
  z22 := Tryd.sizeOf64
  v22 := Tryd.zeroValue64
  i22 := by kernel_rfl
  t25 := Tryd.underlying105
  a25 := Tryd.isAgg105
  z25 := Tryd.sizeOf105
  v25 := Tryd.zeroValue105
  i25 := by kernel_rfl
  t54 := Tryd.underlying151
  a54 := Tryd.isAgg151
  z54 := Tryd.sizeOf151
  g1 := by kernel_rfl }

end Go.Proofs.YtmigamgcmhdncaaDoor

namespace Go.Proofs.YtmigamgcmhdncaaDoor
open Go.RowKit

theorem ctz_bits {x : Nat} (h0 : x ≠ 0) (hx : x < 18446744073709551616) : Lib.ctz 64 x < 64 ∧ x.testBit (Lib.ctz 64 x) = true ∧ ∀ j, j < Lib.ctz 64 x → x.testBit j = false := by
  have e0 : Lib.ctz 64 x = Lib.ctzFrom 64 x := if_neg h0
  obtain ⟨m, e, hc⟩ := Lib.ctzFrom_spec 64 x (by omega) hx
  rw [e0]
  generalize Lib.ctzFrom 64 x = c at *
  refine ⟨hc, ?_, fun j hj => ?_⟩
  · rw [e, Nat.testBit_two_pow_mul]
    simp
  · rw [e, Nat.testBit_two_pow_mul, decide_eq_false (by omega)]
    rfl
/-- The least place of a set, or 128. -/
def MSet.least (s : MSet) (p : Nat) : Prop := p ≤ 128 ∧ (p < 128 → s.has p = true) ∧ ∀ j, j < p → s.has j = false

def TzAt (w : World) : Prop := Go.Proofs.TabAt (layTz_ren.g 1) Lib.deBruijn64tab w
theorem TzAt.below {w w' : World} (h : TzAt w) (hb : Below w.heap.size w w') : TzAt w' := fun j hj => (hb.cell (p := ⟨layTz_ren.g 1, j, none⟩) (World.block_lt_of_cell? _ _ (h j hj))).trans (h j hj)

set_option maxHeartbeats 2000000 in
theorem first_any (s : MSet) (w : World) (hs : s.ok) (hT : TzAt w) :
    Calls Tryd.prog 91 #[.agg s.cells.toArray] w fun e w' => ∃ p : Nat, e = .returned (.int .i64 p) ∧ s.least p ∧ Below w.heap.size w w' := by
  obtain ⟨X0, X1⟩ := s
  obtain ⟨s0, s1⟩ := hs
  show Calls Tryd.prog 91 #[.agg #[.int .u64 (X0 : Int), .int .u64 (X1 : Int)]] w fun e w' => ∃ p : Nat, e = .returned (.int .i64 p) ∧ (MSet.mk X0 X1).least p ∧ Below w.heap.size w w'
  have HL0 : Hid (X0 ≠ 0 → Lib.ctz 64 X0 < 64 ∧ (MSet.mk X0 X1).least (Lib.ctz 64 X0)) := fun h => by
    obtain ⟨h1, h2, h3⟩ := ctz_bits h s0
    exact ⟨h1, by omega, fun _ => by rw [MSet.has_lo h1]; exact h2, fun j hj => by rw [MSet.has_lo (by omega)]; exact h3 j hj⟩
  have HL1 : Hid (X0 = 0 → X1 ≠ 0 → Lib.ctz 64 X1 < 64 ∧ (MSet.mk X0 X1).least (64 + Lib.ctz 64 X1)) := fun h g => by
    obtain ⟨h1, h2, h3⟩ := ctz_bits g s1
    refine ⟨h1, by omega, fun _ => ?_, fun j hj => ?_⟩
    · rw [MSet.has_hi (by omega), Nat.add_sub_cancel_left]; exact h2
    · by_cases hj2 : j < 64
      · rw [MSet.has_lo hj2]; show X0.testBit j = false; rw [h]; exact Nat.zero_testBit j
      · rw [MSet.has_hi hj2]; exact h3 (j - 64) (by omega)
  have HL2 : Hid (X0 = 0 → X1 = 0 → (MSet.mk X0 X1).least 128) := fun h g => by
    refine ⟨Nat.le_refl _, fun h => by omega, fun j hj => ?_⟩
    by_cases hj2 : j < 64
    · rw [MSet.has_lo hj2]; show X0.testBit j = false; rw [h]; exact Nat.zero_testBit j
    · rw [MSet.has_hi hj2]; show X1.testBit (j - 64) = false; rw [g]; exact Nat.zero_testBit _
  go_enter Tryd.func91, Tryd.ntmps91
  go_wp2_with fail
  obtain ⟨w1, hw1⟩ : ∃ x, x = w.alloc (.cells #[.int .u64 (X0 : Int), .int .u64 (X1 : Int)] 66) := ⟨_, rfl⟩
  have hb1 : Below w.heap.size w w1 := by rw [hw1]; exact (Below.refl _ _).alloc (Nat.le_refl _) _
  have HT1 := Hid.mk (hT.below hb1)
  rw [← hw1]
  clear hw1
  go_loopw [6] (fun iv wr => ∃ k : Nat, k ≤ 2 ∧ iv = .int .i64 k ∧ Hid ((1 ≤ k → X0 = 0) ∧ (2 ≤ k → X1 = 0)) ∧ wr = w1) (fun iv _ => 2 - (intOf iv).toNat)
  case atStart => exact ⟨0, by omega, rfl, ⟨fun h => by omega, fun h => by omega⟩, rfl⟩
  case round =>
    obtain ⟨k, hk, rfl, HB, hwr⟩ := hrel
    replace hwr := hwr.symm
    subst hwr
    rcases (by omega : k = 0 ∨ k = 1 ∨ k = 2) with rfl | rfl | rfl
    · have hix := set_ix0 (X0 : Int) (X1 : Int)
      by_cases hz : X0 = 0
      · have hz2 : (X0 : Int) = 0 := by omega
        have hix2 := set_ix0 0 (X1 : Int)
        go_wp2_with fail
        go_roundw
        case rel => exact ⟨1, by omega, by go_num, ⟨fun _ => hz, fun h => by omega⟩, by trivial⟩
        case measure => simp [intOf]
      · have hz2 : ¬ (X0 : Int) = 0 := by omega
        have HP := Hid.mk (HL0.out hz)
        have hc := (HL0.out hz).1
        go_wp2_with fail
        refine (Any7.bits_TrailingZeros64 layTz X0 s0 w1 (fun _ => HT1.out)).mono ?_
        rintro e w2 ⟨rfl, rfl⟩
        generalize Lib.ctz 64 X0 = c at *
        go_wp2_with fail
        go_ret
        exact ⟨c, by go_num, HP.out.2, hb1⟩
    · have hix := set_ix1 (X0 : Int) (X1 : Int)
      have hx0 := HB.out.1 (Nat.le_refl _)
      by_cases hz : X1 = 0
      · have hz2 : (X1 : Int) = 0 := by omega
        have hix2 := set_ix1 0 0
        have hix3 := set_ix1 (X0 : Int) 0
        go_wp2_with fail
        go_roundw
        case rel => exact ⟨2, by omega, by go_num, ⟨fun _ => hx0, fun _ => hz⟩, by trivial⟩
        case measure => simp [intOf]
      · have hz2 : ¬ (X1 : Int) = 0 := by omega
        have HP := Hid.mk (HL1.out hx0 hz)
        have hc := (HL1.out hx0 hz).1
        have HX0 := Hid.mk hx0
        clear hx0
        go_wp2_with fail
        refine (Any7.bits_TrailingZeros64 layTz X1 s1 w1 (fun _ => HT1.out)).mono ?_
        rintro e w2 ⟨rfl, rfl⟩
        generalize Lib.ctz 64 X1 = c at *
        go_wp2_with fail
        go_ret
        exact ⟨64 + c, by go_num, HP.out.2, hb1⟩
    · have HP := Hid.mk (HL2.out (HB.out.1 (by omega)) (HB.out.2 (Nat.le_refl _)))
      go_wp2_with fail
      go_ret
      exact ⟨128, rfl, HP.out, hb1⟩


theorem MSet.has_top {s : MSet} (h : s.ok) {j : Nat} (hj : 128 ≤ j) : s.has j = false := by
  rw [MSet.has_hi (by omega)]
  have h1 : (18446744073709551616 : Nat) ≤ 2 ^ (j - 64) := by
    have h2 := Nat.pow_le_pow_right (n := 2) (by decide) (show 64 ≤ j - 64 by omega)
    simpa using h2
  exact Nat.testBit_lt_two_pow (Nat.lt_of_lt_of_le h.2 h1)

theorem countP_lt {p q : Nat → Bool} : ∀ {l : List Nat}, (∀ x, x ∈ l → p x = true → q x = true) → (∃ x, x ∈ l ∧ q x = true ∧ p x = false) → l.countP p < l.countP q
  | [], _, ⟨x, h, _⟩ => by cases h
  | a :: r, hpq, ⟨x, hx, hq, hp⟩ => by
    have hle : r.countP p ≤ r.countP q := List.countP_mono_left (fun x hx h => hpq x (List.mem_cons_of_mem _ hx) h)
    rcases List.mem_cons.1 hx with rfl | hx
    · rw [List.countP_cons_of_neg (by rw [hp]; decide), List.countP_cons_of_pos hq]; omega
    · have ih := countP_lt (l := r) (fun x hx h => hpq x (List.mem_cons_of_mem _ hx) h) ⟨x, hx, hq, hp⟩
      rcases ha : p a with _ | _
      · rw [List.countP_cons_of_neg (by rw [ha]; decide)]
        rcases hb : q a with _ | _
        · rw [List.countP_cons_of_neg (by rw [hb]; decide)]; exact ih
        · rw [List.countP_cons_of_pos hb]; omega
      · rw [List.countP_cons_of_pos ha, List.countP_cons_of_pos (hpq a (List.mem_cons_self) ha)]; omega
def MSet.cnt (s : MSet) : Nat := (List.range 128).countP s.has
theorem MSet.cnt_le (s : MSet) : s.cnt ≤ 128 := by have h := List.countP_le_length (p := s.has) (l := List.range 128); simpa [MSet.cnt] using h
theorem MSet.cnt_add {s : MSet} {k : Nat} (hk : k < 128) (h : s.has k = false) : s.cnt < (s.add k).cnt :=
  countP_lt (fun x hx hp => by rw [MSet.add_has hk (List.mem_range.1 hx), hp]; rfl) ⟨k, List.mem_range.2 hk, by rw [MSet.add_has hk hk]; simp, h⟩
def cellNat (w : World) (b i : Nat) : Nat := match w.cell? ⟨b, i, none⟩ with | some (.int _ z) => z.toNat | _ => 0
def setIn (w : World) (b : Nat) : MSet := ⟨cellNat w b 0, cellNat w b 1⟩
theorem setIn_at {w : World} {b : Nat} {T : TypeId} {s : MSet} (h : Bw w b T s.cells) : setIn w b = s := by
  have h0 := h.cell 0 _ rfl
  have h1 := h.cell 1 _ rfl
  unfold setIn cellNat
  rw [h0, h1]
  simp

/-- What is reached from a place, and outside where not all of it is there. -/
structure ReachOk (l : List MItem) (i : Nat) (s : MSet) : Prop where
  ok : s.ok
  met : ∀ j, j < l.length → (s.has j = true ↔ Reach l i j)
  out : s.has 100 = true ↔ ¬ wholeAt l i
  top : ∀ j, s.has j = true → j < l.length ∨ j = 100
structure Reached (l : List MItem) (n k g : Nat) (rs : List MSet) (W : World) : Prop where
  len : rs.length = n
  row : Bw W g 66 (flatS rs)
  did : ∀ i, (hi : i < rs.length) → i < k → ReachOk l i rs[i]
theorem Reached.put {l : List MItem} {n k g : Nat} {rs : List MSet} {W W' : World} (h : Reached l n k g rs W) (hk : k < n) {s : MSet} (hs : ReachOk l k s) (hr : Bw W' g 66 (((flatS rs).set (k * 2) (.int .u64 (s.x0 : Int))).set (k * 2 + 1) (.int .u64 (s.x1 : Int)))) : Reached l n (k + 1) g (rs.set k s) W' := by
  have hkr : k < rs.length := by rw [h.len]; exact hk
  rw [flatS_set hkr] at hr
  refine ⟨by simpa using h.len, hr, fun i hi hik => ?_⟩
  by_cases he : i = k
  · subst he; rw [List.getElem_set_self]; exact hs
  · rw [List.getElem_set_ne (by omega)]; exact h.did i (by simpa using hi) (by omega)

/-- At the label: the walk, in two sets. -/
structure WalkS (l : List MItem) (i : Nat) (sm sk : MSet) (at_ : Nat) : Prop where
  okm : sm.ok
  okk : sk.ok
  walk : Walk l i 100 sm.has sk.has at_
  top : ∀ j, sm.has j = true → j < l.length ∨ j = 100
theorem WalkS.start {l : List MItem} {i : Nat} (hi : i < l.length) : WalkS l i ⟨0, 0⟩ ⟨0, 0⟩ i := by
  have z : ∀ j, MSet.has ⟨0, 0⟩ j = false := MSet.zero_has
  have f : ∀ {j : Nat}, ¬ MSet.has ⟨0, 0⟩ j = true := fun {j} h => by rw [z j] at h; cases h
  exact ⟨⟨by decide, by decide⟩, ⟨by decide, by decide⟩, ⟨hi, z _, .inl rfl, fun j _ h => absurd h f, fun j _ h => absurd h f, fun h => absurd h f, fun j _ => z j⟩, fun j h => absurd h f⟩
/-- Behind one step: what is least of the rest is walked next, or all is through. -/
theorem WalkS.step {l : List MItem} (hn : l.length ≤ 100) {i : Nat} {sm sk st : MSet} {at_ : Nat} (h : WalkS l i sm sk at_) (hst : StepOk l at_ st) {p : Nat} (hp : ((sm.join st).less (sk.add at_)).least p) :
    (p < l.length → WalkS l i (sm.join st) (sk.add at_) p) ∧ (¬ p < l.length → ReachOk l i (sm.join st)) := by
  have hat : at_ < 128 := by have := h.walk.here; omega
  have okm := MSet.join_ok h.okm hst.1
  have okk := MSet.add_ok h.okk hat
  have h1 : ∀ j, j < l.length → ((sm.join st).has j = true ↔ sm.has j = true ∨ stepTo l at_ j) := fun j hj => by
    rw [MSet.join_has, Bool.or_eq_true, hst.2 j (by omega)]
    exact or_congr_right ⟨fun g => g.elim id (fun g => by omega), .inl⟩
  have h2 : (sm.join st).has 100 = true ↔ sm.has 100 = true ∨ lacks l at_ := by
    rw [MSet.join_has, Bool.or_eq_true, hst.2 100 (by omega)]
    exact or_congr_right ⟨fun g => g.elim (fun ⟨_, hk, _⟩ => by omega) (fun g => g.2), fun g => .inr ⟨rfl, g⟩⟩
  have h3 : ∀ j, (sk.add at_).has j = true ↔ sk.has j = true ∨ j = at_ := fun j => by
    by_cases hj : j < 128
    · rw [MSet.add_has hat hj, Bool.or_eq_true, decide_eq_true_iff]
    · rw [MSet.has_top okk (by omega), MSet.has_top h.okk (by omega)]
      constructor
      · intro g; cases g
      · rintro (g | g)
        · cases g
        · omega
  have htop : ∀ j, (sm.join st).has j = true → j < l.length ∨ j = 100 := fun j hj => by
    by_cases hj2 : j < 128
    · rw [MSet.join_has, Bool.or_eq_true] at hj
      rcases hj with g | g
      · exact h.top j g
      · rcases (hst.2 j hj2).1 g with ⟨_, hk, _⟩ | g
        · exact .inl hk
        · exact .inr g.1
    · rw [MSet.has_top okm (by omega)] at hj; cases hj
  obtain ⟨n1, n2, n3, n4, n5⟩ := h.walk.next hn h1 h2 h3
  obtain ⟨p1, p2, p3⟩ := hp
  refine ⟨fun hpl => ?_, fun hpl => ?_⟩
  · have hh := p2 (by omega)
    rw [MSet.less_has okk (by omega), Bool.and_eq_true] at hh
    have hf : (sk.add at_).has p = false := by simpa using hh.2
    exact ⟨okm, okk, ⟨hpl, hf, .inr ⟨n4, hh.1⟩, n1, n2, n3, n5⟩, htop⟩
  · have he : ∀ j, j < l.length → (sm.join st).has j = true → (sk.add at_).has j = true := fun j hj hm => by
      have := p3 j (by omega)
      rw [MSet.less_has okk (by omega), hm, Bool.true_and] at this
      simpa using this
    have hil : i < l.length := by
      rcases h.walk.root with g | g
      · rw [← g]; exact h.walk.here
      · have := (h.walk.got at_ h.walk.here g.2).from; exact this
    obtain ⟨d1, d2⟩ := walk_done n1 n2 n3 hil n4 he
    exact ⟨okm, d1, d2, htop⟩

theorem wp_scope_label {P : Program} {Q : Exit → Act → World → Prop} {a : Act} {w : World} {c r : Code} (l : Nat) (J : Act → World → Prop) (μ : Act → World → Nat) (hf : findLabel c l = some (Code.skip.seq r))
    (pass : ∀ a w, J a w → r.wp P (Exit.jump l (fun a' w' => J a' w' ∧ μ a' w' < μ a w) Q) a w)
    (first : (∀ a w, J a w → r.wp P (Exit.jump l J Q) a w) → c.wp P (Exit.jump l J Q) a w) : (Code.scope c).wp P Q a w :=
  wp_scope_jumps l J μ hf (first (fun a w hJ => wp_mono (pass a w hJ) (fun e a' w' h => by
    cases e with
    | goto l' => exact ⟨h.1, h.2.1⟩
    | _ => exact h))) (fun a w hJ => wp_seq (wp_skip (pass a w hJ)))

theorem zeroWord (w : World) : (zeroValue 64).run Tryd.prog w = .ok (.int .u64 0) w := by kernel_rfl
theorem clear_set {w : World} {b : Nat} {T : TypeId} {s : MSet} (h : Bw w b T s.cells) (ty : TypeId) : (Builtin.clear_ #[126] ty #[.slice (some ⟨b, 0, none⟩) 2 2]).run Tryd.prog w = .ok (.tuple #[]) (w.setCells b 0 (List.replicate 2 (.int .u64 0))) := by
  refine Lib.run_clear_slice w 126 64 ty (.int .u64 0) Tryd.underlying126 zeroWord rfl rfl b 0 2 2 (by omega) (fun j hj => ?_) (fun j hj => ?_)
  · rcases (by omega : j = 0 ∨ j = 1) with rfl | rfl
    · rw [h.cell 0 _ rfl]; rfl
    · rw [Nat.zero_add, h.cell 1 _ rfl]; rfl
  · rw [Nat.zero_add]; exact h.free j
theorem cleared {w : World} {b : Nat} {T : TypeId} {s : MSet} (h : Bw w b T s.cells) : Bw (w.setCells b 0 (List.replicate 2 (.int .u64 0))) b T (MSet.cells ⟨0, 0⟩) ∧ Turn [b] w (w.setCells b 0 (List.replicate 2 (.int .u64 0))) := by
  have h1 := (h.put 0 (.int .u64 0)).put 1 (.int .u64 0)
  exact ⟨h1, ((Turn.refl [b] w).setCell (by simp) _).setCell (by simp) _⟩

set_option maxHeartbeats 8000000 in
theorem reachOf_any (g n : Nat) (l : List MItem) (ss : List MSet) (w : World) (hx : l.length = n) (hn : n ≤ 100) (hS : Steps l n n g ss w) (hT : TzAt w) :
    Calls Tryd.prog 66 #[.slice (some ⟨g, 0, none⟩) n n] w fun e w' => ∃ rs : List MSet, e = .returned (.slice (some ⟨w.heap.size, 0, none⟩) n n) ∧ Reached l n n w.heap.size rs w' ∧ Below w.heap.size w w' := by
  obtain ⟨iS, hiS, hzS0, hzS1, hzS2⟩ := info_parts Tryd.infoOfPlaceSet
  have HX := Hid.mk hx
  have HSt := Hid.mk hS
  have HT := Hid.mk hT
  have hgl : g < w.heap.size := hS.row.lt
  clear hx hS hT
  go_enter Tryd.func66, Tryd.ntmps66
  go_wp2_with (at_make; refine wpList_make_full _ rfl _ _ 99 rfl w.heap.size 66 iS (.agg #[.int .u64 0, .int .u64 0]) 2 Tryd.underlying99 hiS hzS0 hzS1 .i64 .i64 _ _ n rfl rfl rfl rfl (by rw [hzS2]; omega) (by unfold maxLen; omega) (by simp) ?_; intro w1 hown hgr)
  have hb01 : Below w.heap.size w w1 := (Below.refl _ _).grown hgr (Nat.le_refl _) (fun k h => by cases h)
  have hB1 := bw_sets hown
  have hl1 := hB1.lt
  clear hown hgr
  obtain ⟨w2, hw2⟩ : ∃ x, x = (w1.alloc (.cells #[.int .u64 0, .int .u64 0] 66)).alloc (.cells #[.int .u64 0, .int .u64 0] 66) := ⟨_, rfl⟩
  have hb12 : Below w1.heap.size w1 w2 := by rw [hw2]; exact ((Below.refl _ _).alloc (Nat.le_refl _) _).alloc (by simp) _
  have hM0 : Bw w2 w1.heap.size 66 (MSet.cells ⟨0, 0⟩) := by rw [hw2]; exact (Bw.new _ _ _).alloc _
  have hK0 : Bw w2 (w1.heap.size + 1) 66 (MSet.cells ⟨0, 0⟩) := by rw [hw2]; exact Bw.new' _ _ _ (by simp)
  have hb02 : Below w.heap.size w w2 := hb01.trans (hb12.mono (by omega))
  have HR0 : Hid (Reached l n 0 w.heap.size (List.replicate n ⟨0, 0⟩) w2) := ⟨by simp, hB1.under hb12, fun i hi h => by omega⟩
  rw [← hw2]
  clear hw2 hB1
  go_loopw [13] (fun iv wr => ∃ (k : Nat) (rs : List MSet) (sm sk : MSet), k ≤ n ∧ iv = .int .i64 k ∧ Hid (Reached l n k w.heap.size rs wr ∧ Bw wr w1.heap.size 66 sm.cells ∧ Bw wr (w1.heap.size + 1) 66 sk.cells) ∧ Below w.heap.size w wr) (fun iv _ => n - (intOf iv).toNat)
  case atStart => exact ⟨0, _, ⟨0, 0⟩, ⟨0, 0⟩, Nat.zero_le _, rfl, ⟨HR0.out, hM0, hK0⟩, hb02⟩
  case round =>
    obtain ⟨k, rs, sm, sk, hk, rfl, HR, hbk⟩ := hrel
    by_cases hlt : k < n
    · go_wp2_with fail
      refine wp_scope_label 0 (fun a' w' => ∃ (at_ : Nat) (sm sk : MSet) (x16 x17 x18 x19 x20 x21 x22 x23 x24 x25 x26 x27 x28 x29 x30 x31 x32 x33 x34 x35 x36 x37 x38 : Value), a' = { tmps := #[.slice (some ⟨g, 0, none⟩) n n, undef, .slice none 0 0, .slice (some ⟨w.heap.size, 0, none⟩) n n, .pointer (some ⟨w1.heap.size, 0, none⟩), .pointer (some ⟨w1.heap.size + 1, 0, none⟩), .int .i64 k, .int .i64 at_, .slice (some ⟨g, 0, none⟩) n n, .int .i64 n, .slice (some ⟨w.heap.size, 0, none⟩) n n, .slice (some ⟨g, 0, none⟩) n n, .int .i64 n, .int .i64 k, .bool true, .int .i64 k, x16, x17, x18, x19, x20, x21, x22, x23, x24, x25, x26, x27, x28, x29, x30, x31, x32, x33, x34, x35, x36, x37, x38, undef], defers := [] } ∧ Hid (WalkS l k sm sk at_ ∧ Reached l n k w.heap.size rs w' ∧ Bw w' w1.heap.size 66 sm.cells ∧ Bw w' (w1.heap.size + 1) 66 sk.cells) ∧ Below w.heap.size w w') (fun _ w' => 128 - (setIn w' (w1.heap.size + 1)).cnt) rfl ?_ ?_
      · rintro a' w' ⟨at_, sm, sk, x16, x17, x18, x19, x20, x21, x22, x23, x24, x25, x26, x27, x28, x29, x30, x31, x32, x33, x34, x35, x36, x37, x38, rfl, HJ, hbw⟩
        have hat : at_ < n := by have h1 := HJ.out.1.walk.here; have h2 := HX.out; omega
        have hasl : at_ < ss.length := by rw [HSt.out.len]; exact hat
        have HG : Hid (Bw w' g 66 (flatS ss)) := HSt.out.row.below hbw hgl
        have c0 := HG.out.cell (at_ * 2) _ (flatS_at0 hasl)
        have c1 := HG.out.cell (at_ * 2 + 1) _ (flatS_at1 hasl)
        have HSO := Hid.mk (HSt.out.did at_ hasl hat)
        obtain ⟨st, hst⟩ : ∃ st, st = ss[at_] := ⟨_, rfl⟩
        rw [← hst] at c0 c1 HSO
        clear hst
        have ha1 : (0 : Int) ≤ (at_ : Int) := by omega
        have ha2 : (at_ : Int) < (n : Int) := by omega
        have hgm : Hid (w.heap.size < w1.heap.size) := hl1
        obtain ⟨gm, hgm2⟩ : ∃ x, x = w1.heap.size := ⟨_, rfl⟩
        go_wp2_with fail
        refine (join_any w1.heap.size 0 66 sm.cells sm st w' HJ.out.1.okm HSO.out.1 HJ.out.2.2.1 rfl rfl).mono ?_
        rintro e w3 ⟨rfl, hM3, hT3⟩
        have hbw3 : Below w.heap.size w w3 := hbw.trans (hT3.below (fun x hx => by simp at hx; omega) hbw.size)
        have hK3 := HJ.out.2.2.2.turn hT3 (by simp)
        have hR3 := HJ.out.2.1.row.turn hT3 (by simp; omega)
        clear c0 c1 hT3
        go_wp2_with fail
        refine (add_any (w1.heap.size + 1) 0 at_ 66 sk.cells sk w3 HJ.out.1.okk (by omega) hK3 rfl rfl).mono ?_
        rintro e w4 ⟨rfl, hK4, hT4⟩
        have hbw4 : Below w.heap.size w w4 := hbw3.trans (hT4.below (fun x hx => by simp at hx; omega) hbw3.size)
        have hM4 := hM3.turn hT4 (by simp)
        have hR4 := hR3.turn hT4 (by simp; omega)
        have HQ : Hid (Bw w4 w1.heap.size 66 (sm.join st).cells ∧ Bw w4 (w1.heap.size + 1) 66 (sk.add at_).cells ∧ Reached l n k w.heap.size rs w4) := ⟨hM4, hK4, HJ.out.2.1.len, hR4, HJ.out.2.1.did⟩
        have HOK : Hid ((sm.join st).ok ∧ (sk.add at_).ok) := ⟨MSet.join_ok HJ.out.1.okm HSO.out.1, MSet.add_ok HJ.out.1.okk (by omega)⟩
        have HST : Hid (∀ p, ((sm.join st).less (sk.add at_)).least p → (p < l.length → WalkS l k (sm.join st) (sk.add at_) p) ∧ (¬ p < l.length → ReachOk l k (sm.join st))) := fun p hp => HJ.out.1.step (by rw [HX.out]; exact hn) HSO.out hp
        have HMU : Hid (128 - (sk.add at_).cnt < 128 - (setIn w' (w1.heap.size + 1)).cnt) := by
          unfold Hid
          rw [setIn_at HJ.out.2.2.2]
          have h1 := MSet.cnt_add (s := sk) (k := at_) (by omega) HJ.out.1.walk.fresh
          have h2 := MSet.cnt_le (sk.add at_)
          omega
        generalize sm.join st = sm2 at *
        generalize sk.add at_ = sk2 at *
        have m0 := HQ.out.1.cell 0 _ rfl
        have m1 := HQ.out.1.cell 1 _ rfl
        have q0 := HQ.out.2.1.cell 0 _ rfl
        have q1 := HQ.out.2.1.cell 1 _ rfl
        clear hM3 hK3 hR3 hM4 hK4 hR4 hT4 hbw3 HJ HSO HG
        go_wp2_with fail
        refine (without_any sm2 sk2 w4 HOK.out.1 HOK.out.2).mono ?_
        rintro e w5 ⟨rfl, hx5⟩
        have hbw5 : Below w.heap.size w w5 := hbw4.trans (hx5.mono hbw4.size)
        go_wp2_with fail
        refine (first_any (sm2.less sk2) w5 (MSet.less_ok HOK.out.1) (HT.out.below hbw5)).mono ?_
        rintro e w6 ⟨p, rfl, hp, hx6⟩
        have hbw6 : Below w.heap.size w w6 := hbw5.trans (hx6.mono hbw5.size)
        have hx46 := hx5.trans (hx6.mono hx5.size)
        have HQ6 : Hid (Bw w6 w1.heap.size 66 sm2.cells ∧ Bw w6 (w1.heap.size + 1) 66 sk2.cells ∧ Reached l n k w.heap.size rs w6) := ⟨HQ.out.1.under hx46, HQ.out.2.1.under hx46, HQ.out.2.2.len, HQ.out.2.2.row.under hx46, HQ.out.2.2.did⟩
        have HP := Hid.mk (HST.out p hp)
        have hp128 : p ≤ 128 := hp.1
        clear m0 m1 q0 q1 HQ hp hx5 hx6 hx46 HST
        by_cases hpn : p < n
        · have HW := Hid.mk (HP.out.1 (by rw [HX.out]; exact hpn))
          have hp2 : (p : Int) < (n : Int) := by omega
          go_wp2_with fail
          go_step3
          refine ⟨rfl, ⟨p, sm2, sk2, _, _, _, _, _, _, _, _, _, _, _, _, _, _, _, _, _, _, _, _, _, _, _, rfl, ⟨HW.out, HQ6.out.2.2, HQ6.out.1, HQ6.out.2.1⟩, hbw6⟩, ?_⟩
          rw [setIn_at HQ6.out.2.1]
          exact HMU.out
        · have HW := Hid.mk (HP.out.2 (by rw [HX.out]; exact hpn))
          have hp2 : ¬ (p : Int) < (n : Int) := by omega
          have m0 := HQ6.out.1.cell 0 _ rfl
          have m1 := HQ6.out.1.cell 1 _ rfl
          have hkr : k < rs.length := by rw [HQ6.out.2.2.len]; exact hlt
          have r0 := HQ6.out.2.2.row.cell (k * 2) _ (flatS_at0 hkr)
          have r1 := HQ6.out.2.2.row.cell (k * 2 + 1) _ (flatS_at1 hkr)
          have f0 := HQ6.out.2.2.row.free (k * 2)
          have f1 := HQ6.out.2.2.row.free (k * 2 + 1)
          have hrl := HQ6.out.2.2.row.lt
          have hk1 : (0 : Int) ≤ (k : Int) := by omega
          have hk2 : (k : Int) < (n : Int) := by omega
          have HN := Hid.mk (HQ6.out.2.2.put hlt HW.out ((HQ6.out.2.2.row.put (k * 2) (.int .u64 (sm2.x0 : Int))).put (k * 2 + 1) (.int .u64 (sm2.x1 : Int))))
          have HM7 := Hid.mk ((HQ6.out.1.turn (((Turn.refl [w.heap.size] w6).setCell (p := ⟨w.heap.size, k * 2, none⟩) (by simp) (.int .u64 (sm2.x0 : Int))).setCell (p := ⟨w.heap.size, k * 2 + 1, none⟩) (by simp) (.int .u64 (sm2.x1 : Int))) (by simp; omega)))
          have HK7 := Hid.mk ((HQ6.out.2.1.turn (((Turn.refl [w.heap.size] w6).setCell (p := ⟨w.heap.size, k * 2, none⟩) (by simp) (.int .u64 (sm2.x0 : Int))).setCell (p := ⟨w.heap.size, k * 2 + 1, none⟩) (by simp) (.int .u64 (sm2.x1 : Int))) (by simp; omega)))
          have hb7 : Below w.heap.size w ((w6.setCell ⟨w.heap.size, k * 2, none⟩ (.int .u64 (sm2.x0 : Int))).setCell ⟨w.heap.size, k * 2 + 1, none⟩ (.int .u64 (sm2.x1 : Int))) := (hbw6.setCell (by simp) _).setCell (by simp) _
          go_wp2_with fail
          simp only [Exit.jump, Exit.inBlock, Exit.then]
          obtain ⟨w7, hw7⟩ : ∃ x, x = (w6.setCell ⟨w.heap.size, k * 2, none⟩ (.int .u64 (sm2.x0 : Int))).setCell ⟨w.heap.size, k * 2 + 1, none⟩ (.int .u64 (sm2.x1 : Int)) := ⟨_, rfl⟩
          rw [← hw7] at HN HM7 HK7 hb7 ⊢
          clear hw7 m0 m1 r0 r1 f0 f1
          go_wp2_with fail
          go_roundw
          case rel => exact ⟨k + 1, rs.set k sm2, sm2, sk2, by omega, by go_num, ⟨HN.out, HM7.out, HK7.out⟩, hb7⟩
          case measure => simp [intOf]; omega
      · intro hlab
        have hcl1 := fun ty => clear_set HR.out.2.1 ty
        have HC1 := Hid.mk (cleared HR.out.2.1)
        obtain ⟨wa, hwa⟩ : ∃ x, x = wr.setCells w1.heap.size 0 (List.replicate 2 (.int .u64 0)) := ⟨_, rfl⟩
        rw [← hwa] at hcl1 HC1
        have HK1 := Hid.mk (HR.out.2.2.turn HC1.out.2 (by simp))
        have hcl2 := fun ty => clear_set HK1.out ty
        have HC2 := Hid.mk (cleared HK1.out)
        have hba : Below w.heap.size w wa := hbk.trans (HC1.out.2.below (fun x hx => by simp at hx; omega) hbk.size)
        have HRa := Hid.mk (HR.out.1.row.turn HC1.out.2 (by simp; omega))
        clear hwa
        obtain ⟨wb, hwb⟩ : ∃ x, x = wa.setCells (w1.heap.size + 1) 0 (List.replicate 2 (.int .u64 0)) := ⟨_, rfl⟩
        rw [← hwb] at hcl2 HC2
        have hbb : Below w.heap.size w wb := hba.trans (HC2.out.2.below (fun x hx => by simp at hx; omega) hba.size)
        have HJ0 : Hid (WalkS l k ⟨0, 0⟩ ⟨0, 0⟩ k ∧ Reached l n k w.heap.size rs wb ∧ Bw wb w1.heap.size 66 (MSet.cells ⟨0, 0⟩) ∧ Bw wb (w1.heap.size + 1) 66 (MSet.cells ⟨0, 0⟩)) := ⟨WalkS.start (by rw [HX.out]; exact hlt), ⟨HR.out.1.len, HRa.out.turn HC2.out.2 (by simp; omega), HR.out.1.did⟩, HC1.out.1.turn HC2.out.2 (by simp), HC2.out.1⟩
        clear hwb HRa HK1 HC1 HC2
        go_wp2_with (first | simp only [hcl1] | simp only [hcl2])
        go_step3
        simp only [Exit.then]
        apply_assumption
        exact hlab _ _ ⟨k, ⟨0, 0⟩, ⟨0, 0⟩, _, _, _, _, _, _, _, _, _, _, _, _, _, _, _, _, _, _, _, _, _, _, _, rfl, HJ0, hbb⟩
    · have hkn : k = n := by omega
      subst hkn
      go_wp2_with fail
      go_ret
      exact ⟨rs, rfl, HR.out.1, hbk⟩

end Go.Proofs.YtmigamgcmhdncaaDoor
