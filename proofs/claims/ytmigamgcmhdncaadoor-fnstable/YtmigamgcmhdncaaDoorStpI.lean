/-
  The places of what items name: the program's stepsOf.
-/
import Derived.Test.YtmigamgcmhdncaaDoorStpM
namespace Go.Proofs.YtmigamgcmhdncaaDoor
open Go.RowKit
set_option linter.unusedVariables false
set_option linter.unusedSimpArgs false
set_option maxRecDepth 10000

theorem Tryd.infoOfPlaceSet : (Tryd.prog.info? 66).map (fun i => (i.zero, i.size, i.bytes)) = some (some (.agg #[.int .u64 0, .int .u64 0]), 2, 16) := by kernel_rfl
theorem bw_sets {w : World} {g n base : Nat} {e : TypeId} (h : w.ownsRow base e 2 (.slice (some ⟨g, 0, none⟩) n n) n (madeCells (Value.agg #[.int .u64 0, .int .u64 0]).cells (n * 2)).toList) : Bw w g e (flatS (List.replicate n ⟨0, 0⟩)) := by
  rcases h.2 with ⟨h', _⟩ | ⟨g', cap, cur, h', hb, hg, hnc, hm, hs, ht⟩
  · cases h'
  · simp only [Value.slice.injEq, Option.some.injEq, Addr.mk.injEq, and_true, true_and] at h'
    obtain ⟨rfl, rfl⟩ := h'
    have e1 : cur.toList = flatS (List.replicate n ⟨0, 0⟩) := by
      rw [List.take_of_length_le (by simp; omega)] at ht
      rw [ht, flatS_made]
    show w.heap[g]? = _
    rw [hg, ← e1]
/-- A row of sets of one's own of which the first k are through, the others empty. -/
structure Steps (l : List MItem) (n k : Nat) (g : Nat) (ss : List MSet) (W : World) : Prop where
  len : ss.length = n
  row : Bw W g 66 (flatS ss)
  did : ∀ i, (hi : i < ss.length) → i < k → StepOk l i ss[i]
  not : ∀ i, (hi : i < ss.length) → k ≤ i → ss[i] = ⟨0, 0⟩
/-- In the midst of the k-th. -/
structure Steps2 (l : List MItem) (ds : List MDot) (n k c : Nat) (g : Nat) (ss : List MSet) (W : World) : Prop where
  len : ss.length = n
  row : Bw W g 66 (flatS ss)
  did : ∀ i, (hi : i < ss.length) → i < k → StepOk l i ss[i]
  not : ∀ i, (hi : i < ss.length) → k < i → ss[i] = ⟨0, 0⟩
  now : ∃ hk : k < ss.length, StepSt l ds c ss[k]
theorem Steps.enter {l : List MItem} {n k g : Nat} {ss : List MSet} {W W' : World} (h : Steps l n k g ss W) (hk : k < n) (ds : List MDot) (hb : Below W.heap.size W W') : Steps2 l ds n k 0 g ss W' :=
  ⟨h.len, h.row.under hb, h.did, fun i hi h' => h.not i hi (by omega), by rw [← h.len] at hk; exact ⟨hk, by rw [h.not k hk (Nat.le_refl _)]; exact StepSt.start l ds⟩⟩
theorem Steps2.under {l : List MItem} {ds : List MDot} {n k c g : Nat} {ss : List MSet} {W W' : World} (h : Steps2 l ds n k c g ss W) (hb : Below W.heap.size W W') : Steps2 l ds n k c g ss W' := ⟨h.len, h.row.under hb, h.did, h.not, h.now⟩
theorem Steps2.next {l : List MItem} {ds : List MDot} {n k c g : Nat} {ss : List MSet} {W W' : World} (h : Steps2 l ds n k c g ss W) (hc : c < ds.length) {p : Nat} (hp : p < 128) (hw : ∀ j, isAt l ds[c] j ↔ j = p) {s : MSet} (hs : ∃ hk : k < ss.length, ss[k] = s)
    (hr : Bw W' g 66 (((flatS ss).set (k * 2) (.int .u64 ((s.add p).x0 : Int))).set (k * 2 + 1) (.int .u64 ((s.add p).x1 : Int)))) : Steps2 l ds n k (c + 1) g (ss.set k (s.add p)) W' := by
  obtain ⟨hk, rfl⟩ := hs
  rw [flatS_set hk] at hr
  refine ⟨by simpa using h.len, hr, fun i hi hik => ?_, fun i hi hik => ?_, by simpa using hk, ?_⟩
  · rw [List.getElem_set_ne (by omega)]; exact h.did i (by simpa using hi) hik
  · rw [List.getElem_set_ne (by omega)]; exact h.not i (by simpa using hi) hik
  · rw [List.getElem_set_self]; exact h.now.2.next hc hp hw
theorem Steps2.leave {l : List MItem} {n k g : Nat} {ss : List MSet} {W : World} (hk : k < l.length) {ds : List MDot} (hd : ds = l[k].fDeps) (h : Steps2 l ds n k ds.length g ss W) : Steps l n (k + 1) g ss W := by
  subst hd
  refine ⟨h.len, h.row, fun i hi hik => ?_, fun i hi hik => h.not i hi (by omega)⟩
  by_cases he : i = k
  · subst he; exact h.now.2.done hk
  · exact h.did i hi (by omega)

set_option maxHeartbeats 4000000 in
theorem stepsOf_any (a : Option Addr) (n cap : Nat) (l : List MItem) (w : World) (hx : l.length = n) (hg : graphP ⟨l⟩ = true) (hr : LeafL 3 rItem w.heap.size w a cap l) :
    Calls Tryd.prog 67 #[.slice a n cap] w fun e w' => ∃ ss : List MSet, e = .returned (.slice (some ⟨w.heap.size, 0, none⟩) n n) ∧ Steps l n n w.heap.size ss w' ∧ Below w.heap.size w w' := by
  obtain ⟨iS, hiS, hzS0, hzS1, hzS2⟩ := info_parts Tryd.infoOfPlaceSet
  have hn : n ≤ 100 := by
    have h' : (decide (l.length ≤ 100) && upOk itemP itemLt l) = true := hg
    rw [Bool.and_eq_true] at h'
    rw [← hx]
    exact of_decide_eq_true h'.1
  have HGO := Hid.mk hg
  have HX := Hid.mk hx
  have HL := Hid.mk hr
  clear hx hg hr
  go_enter Tryd.func67, Tryd.ntmps67
  go_wp2_with (at_make; refine wpList_make_full _ rfl _ _ 99 rfl w.heap.size 66 iS (.agg #[.int .u64 0, .int .u64 0]) 2 Tryd.underlying99 hiS hzS0 hzS1 .i64 .i64 _ _ n rfl rfl rfl rfl (by rw [hzS2]; omega) (by unfold maxLen; omega) (by simp) ?_; intro w1 hown hgr)
  have hb01 : Below w.heap.size w w1 := (Below.refl _ _).grown hgr (Nat.le_refl _) (fun k h => by cases h)
  have HS0 : Hid (Steps l n 0 w.heap.size (List.replicate n ⟨0, 0⟩) w1) := ⟨by simp, bw_sets hown, fun i hi h => by omega, fun i hi h => by simp⟩
  clear hown hgr
  go_loopw [15] (fun iv wr => ∃ (k : Nat) (ss : List MSet), k ≤ n ∧ iv = .int .i64 k ∧ Hid (Steps l n k w.heap.size ss wr) ∧ Below w.heap.size w wr) (fun iv _ => n - (intOf iv).toNat)
  case atStart => exact ⟨0, _, Nat.zero_le _, rfl, HS0, hb01⟩
  case round =>
    obtain ⟨k, ss, hk, rfl, HS, hbk⟩ := hrel
    by_cases hlt : k < n
    · have hkl : k < l.length := by rw [HX.out]; exact hlt
      obtain ⟨b1, o1, rfl, hB, cs, hcl, hcell, a2, c2, rfl, g0, g1, g2, _⟩ := HL.out.2.2 k hkl
      have HD2 := Hid.mk g2
      have k0 := (hbk.cell (p := ⟨b1, o1 + k * 3, none⟩) hB).trans (hcell 0 _ rfl)
      have k1 := (hbk.cell (p := ⟨b1, o1 + k * 3 + 1, none⟩) hB).trans (hcell 1 _ rfl)
      have k2 := (hbk.cell (p := ⟨b1, o1 + k * 3 + 2, none⟩) hB).trans (hcell 2 _ rfl)
      obtain ⟨ds, hds⟩ : ∃ ds, ds = l[k].fDeps := ⟨_, rfl⟩
      have hdl : ds.length ≤ 100 := by
        have h1 := graph_deps HGO.out k hkl
        rw [← hds] at h1
        omega
      rw [← hds] at k2 HD2
      have HDS := Hid.mk hds
      generalize l[k].fD = d0 at *
      clear hcell hcl g2 hds
      obtain ⟨wp, hwp⟩ : ∃ y, y = wr.alloc (.cells #[.int .i64 d0.fR, .int .i64 d0.fN, .slice a2 ds.length c2] 52) := ⟨_, rfl⟩
      have hbp : Below wr.heap.size wr wp := by rw [hwp]; exact (Below.refl _ _).alloc (Nat.le_refl _) _
      have HS1 := Hid.mk (HS.out.enter hlt ds hbp)
      have hbwp : Below w.heap.size w wp := hbk.trans (hbp.mono hbk.size)
      go_wp2_with fail
      rw [← hwp]
      clear hwp k0 k1 k2 HS hbk
      generalize wr = wo at *
      clear hbp
      go_loopw [23] (fun cv wr => ∃ (c : Nat) (ss : List MSet), c ≤ ds.length ∧ cv = .int .i64 c ∧ Hid (Steps2 l ds n k c w.heap.size ss wr) ∧ Below w.heap.size w wr) (fun cv _ => ds.length - (intOf cv).toNat)
      case atStart => exact ⟨0, ss, Nat.zero_le _, rfl, HS1, hbwp⟩
      case round =>
        obtain ⟨c, s2, hc, rfl, HT, hbw⟩ := hrel
        by_cases hlc : c < ds.length
        · obtain ⟨b3, o3, rfl, hB3, cs3, hcl3, hcell3, rfl, f0, f1, _⟩ := (HD2.out.2.2.below rDot_good hbw) c hlc
          have y0 := hcell3 0 _ rfl
          have y1 := hcell3 1 _ rfl
          rw [Nat.add_zero] at y0
          have HW1 : Hid (∀ p, thereAt l ds[c] p = true → p < l.length ∧ ∀ j, isAt l ds[c] j ↔ j = p) := fun p h => isAt_found HGO.out h
          have HW2 : Hid (∀ p, PlaceAt l ds[c] p → thereAt l ds[c] p = false → ∀ j, isAt l ds[c] j ↔ j = 100) := fun p hp h => isAt_none HGO.out hp h
          obtain ⟨s, hs⟩ : ∃ s, ∃ hk : k < s2.length, s2[k] = s := ⟨_, HT.out.now.1, rfl⟩
          have hsok : s.ok := by obtain ⟨_, rfl⟩ := hs; exact HT.out.now.2.1
          have hkn : k < s2.length := HT.out.now.1
          have HQ0 : Hid ((flatS s2)[k * 2]? = some (.int .u64 (s.x0 : Int))) := by obtain ⟨_, rfl⟩ := hs; exact flatS_at0 hkn
          have HQ1 : Hid ((flatS s2)[k * 2 + 1]? = some (.int .u64 (s.x1 : Int))) := by obtain ⟨_, rfl⟩ := hs; exact flatS_at1 hkn
          have HNX : Hid (∀ p W W', p < 128 → (∀ j, isAt l ds[c] j ↔ j = p) → Steps2 l ds n k c w.heap.size s2 W → Bw W' w.heap.size 66 (((flatS s2).set (k * 2) (.int .u64 ((s.add p).x0 : Int))).set (k * 2 + 1) (.int .u64 ((s.add p).x1 : Int))) → Steps2 l ds n k (c + 1) w.heap.size (s2.set k (s.add p)) W') := fun p W W' hp hw h hr => h.next hlc hp hw hs hr
          generalize ds[c] = d at *
          clear hcell3 hcl3 hs hkn
          obtain ⟨w5, hw5⟩ : ∃ x, x = wr.alloc (.cells #[.int .i64 d.fR, .int .i64 d.fN] 40) := ⟨_, rfl⟩
          have hb5 : Below wr.heap.size wr w5 := by rw [hw5]; exact (Below.refl _ _).alloc (Nat.le_refl _) _
          have hbw5 : Below w.heap.size w w5 := hbw.trans (hb5.mono hbw.size)
          have HP := Hid.mk (placeOf_any (some ⟨b1, o1, none⟩) n cap l [.int .i64 d.fR, .int .i64 d.fN] d w5 HX.out (by omega) ((HL.out.below rItem_good hbw5).mono rItem_good hbw5.size) ⟨rfl, f0, f1, trivial⟩)
          go_wp2_with fail
          rw [← hw5]
          clear hw5
          refine HP.out.mono ?_
          rintro e w6 ⟨p, rfl, hPA, hx6⟩
          have HT6 := Hid.mk (HT.out.under (hb5.trans (hx6.mono hb5.size)))
          have hbw6 : Below w.heap.size w w6 := hbw5.trans (hx6.mono hbw5.size)
          have HPA := Hid.mk hPA
          have hk1 : (0 : Int) ≤ (k : Int) := by omega
          have hk2 : (k : Int) < (n : Int) := by omega
          clear HP hPA y0 y1 HT hb5 hbw5 hx6
          rcases ht : thereAt l d p with _ | _
          · have HW := Hid.mk (HW2.out p HPA.out ht)
            clear ht
            go_wp2_with fail
            refine (add_any w.heap.size (k * 2) 100 66 _ s w6 hsok (by omega) HT6.out.row HQ0.out HQ1.out).mono ?_
            rintro e w7 ⟨rfl, hB7, hT7⟩
            have HT7 := Hid.mk (HNX.out 100 w6 w7 (by omega) HW.out HT6.out hB7)
            have hbw7 : Below w.heap.size w w7 := hbw6.trans (hT7.below (fun x hx => by simp at hx; omega) hbw6.size)
            clear hB7 hT7
            go_wp2_with fail
            go_roundw
            case rel => exact ⟨c + 1, _, by omega, by go_num, HT7, hbw7⟩
            case measure => simp [intOf]; omega
          · have HW := Hid.mk (HW1.out p ht)
            have hpn : p < n := by have h1 := HW.out.1; have h2 := HX.out; omega
            clear ht
            go_wp2_with fail
            refine (add_any w.heap.size (k * 2) p 66 _ s w6 hsok (by omega) HT6.out.row HQ0.out HQ1.out).mono ?_
            rintro e w7 ⟨rfl, hB7, hT7⟩
            have HT7 := Hid.mk (HNX.out p w6 w7 (by omega) HW.out.2 HT6.out hB7)
            have hbw7 : Below w.heap.size w w7 := hbw6.trans (hT7.below (fun x hx => by simp at hx; omega) hbw6.size)
            clear hB7 hT7
            go_wp2_with fail
            go_roundw
            case rel => exact ⟨c + 1, _, by omega, by go_num, HT7, hbw7⟩
            case measure => simp [intOf]; omega
        · have hcd : c = ds.length := by omega
          have HSn : Hid (Steps l n (k + 1) w.heap.size s2 wr) := Steps2.leave hkl HDS.out (by rw [← hcd]; exact HT.out)
          clear HT
          go_wp2_with fail
          go_roundw
          case rel => exact ⟨k + 1, s2, by omega, by go_num, HSn, hbw⟩
          case measure => simp [intOf]; omega
    · have hkn : k = n := by omega
      subst hkn
      go_wp2_with fail
      go_ret
      exact ⟨ss, rfl, HS.out, hbk⟩

end Go.Proofs.YtmigamgcmhdncaaDoor
