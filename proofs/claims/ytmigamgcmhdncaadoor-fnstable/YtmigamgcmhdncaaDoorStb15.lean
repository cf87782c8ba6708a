/-
  Part 16 of the texts that the proof leans on.
-/
import Derived.Test.YtmigamgcmhdncaaDoorStb14
import Derived.Test.YtmigamgcmhdncaaDoorStb3
import Derived.Shelf.Spec.TrailingZeros
import Derived.Test.YtmigamgcmhdncaaDoorProg
set_option linter.unusedVariables false
set_option linter.unusedSimpArgs false
set_option maxRecDepth 10000

namespace Go.Proofs.YtmigamgcmhdncaaDoor
open Go.RowKit

def flatS : List MSet → List Value
  | [] => []
  | s :: r => .int .u64 (s.x0 : Int) :: .int .u64 (s.x1 : Int) :: flatS r
theorem flatS_length : ∀ ss : List MSet, (flatS ss).length = ss.length * 2
  | [] => rfl
  | s :: r => by simp only [flatS, List.length_cons, flatS_length r]; omega
theorem flatS_at0 : ∀ {ss : List MSet} {i : Nat} (h : i < ss.length), (flatS ss)[i * 2]? = some (.int .u64 (ss[i].x0 : Int))
  | s :: r, 0, _ => rfl
  | s :: r, i + 1, h => by
    have ih := flatS_at0 (ss := r) (i := i) (by simpa using h)
    have e : (i + 1) * 2 = i * 2 + 1 + 1 := by omega
    rw [e]
    simpa [flatS] using ih
theorem flatS_at1 : ∀ {ss : List MSet} {i : Nat} (h : i < ss.length), (flatS ss)[i * 2 + 1]? = some (.int .u64 (ss[i].x1 : Int))
  | s :: r, 0, _ => rfl
  | s :: r, i + 1, h => by
    have ih := flatS_at1 (ss := r) (i := i) (by simpa using h)
    have e : (i + 1) * 2 + 1 = i * 2 + 1 + 1 + 1 := by omega
    rw [e]
    simpa [flatS] using ih
theorem flatS_set : ∀ {ss : List MSet} {i : Nat} {t : MSet}, i < ss.length → ((flatS ss).set (i * 2) (.int .u64 (t.x0 : Int))).set (i * 2 + 1) (.int .u64 (t.x1 : Int)) = flatS (ss.set i t)
  | s :: r, 0, t, _ => rfl
  | s :: r, i + 1, t, h => by
    have ih := flatS_set (ss := r) (i := i) (t := t) (by simpa using h)
    have e : (i + 1) * 2 = i * 2 + 1 + 1 := by omega
    have e2 : (i + 1) * 2 + 1 = i * 2 + 1 + 1 + 1 := by omega
    rw [e2, e]
    simpa [flatS] using ih
theorem flatS_made (n : Nat) : (madeCells (Value.agg #[.int .u64 0, .int .u64 0]).cells (n * 2)).toList = flatS (List.replicate n ⟨0, 0⟩) := by
  have h2 : (Value.agg #[.int .u64 0, .int .u64 0]).cells = #[.int .u64 0, .int .u64 0] := rfl
  rw [h2]
  apply List.ext_getElem?
  intro j
  by_cases hj : j < n * 2
  · have e1 : (madeCells #[.int .u64 0, .int .u64 0] (n * 2)).toList[j]? = some (.int .u64 0) := by
      have : j % 2 = 0 ∨ j % 2 = 1 := by omega
      rcases this with h | h <;> simp [madeCells, hj, h]
    rw [e1]
    obtain ⟨i, hi⟩ : ∃ i, j = i * 2 ∨ j = i * 2 + 1 := ⟨j / 2, by omega⟩
    rcases hi with rfl | rfl
    · rw [flatS_at0 (i := i) (by simp; omega)]; simp
    · rw [flatS_at1 (i := i) (by simp; omega)]; simp
  · have h3 := flatS_length (List.replicate n (⟨0, 0⟩ : MSet))
    rw [List.length_replicate] at h3
    have h4 : (madeCells #[Value.int .u64 0, .int .u64 0] (n * 2)).toList.length = n * 2 := by simp [madeCells]
    rw [List.getElem?_eq_none (by omega), List.getElem?_eq_none (by omega)]

/-- Sets that lie one behind the other in a block of one's own are a list that can be read. -/
theorem leaf_flat {w : World} {g : Nat} {T : TypeId} {ss : List MSet} (h : Bw w g T (flatS ss)) (hok : ∀ i, (hi : i < ss.length) → ss[i].ok) {B c : Nat} (hB : g < B) (hc : ss.length ≤ c) (hc2 : c ≤ 9223372036854775807) : LeafL 2 rSet B w (some ⟨g, 0, none⟩) c ss := by
  refine ⟨hc, hc2, fun j hj => ⟨g, 0, rfl, hB, ss[j].cells, rfl, fun i u hu => ?_, rfl, hok j hj⟩⟩
  have e : 0 + j * 2 + i = j * 2 + i := by omega
  rw [e]
  apply h.cell
  match i, hu with
  | 0, hu => simp only [MSet.cells, List.getElem?_cons_zero, Option.some.injEq] at hu; subst hu; exact flatS_at0 hj
  | 1, hu => simp [MSet.cells] at hu; subst hu; exact flatS_at1 hj
  | i + 2, hu => simp [MSet.cells] at hu

/-- A dep's place: where it is, or 100. -/
def isAt (l : List MItem) (d : MDot) (j : Nat) : Prop := (∃ hj : j < l.length, sameD l[j].fD d = true) ∨ (j = 100 ∧ hasI l d = false)
/-- The places of the first c deps. -/
def StepSt (l : List MItem) (ds : List MDot) (c : Nat) (s : MSet) : Prop := s.ok ∧ ∀ j, j < 128 → (s.has j = true ↔ ∃ d, d ∈ ds.take c ∧ isAt l d j)
def StepOk (l : List MItem) (i : Nat) (s : MSet) : Prop := s.ok ∧ ∀ j, j < 128 → (s.has j = true ↔ stepTo l i j ∨ (j = 100 ∧ lacks l i))

theorem MSet.zero_has (j : Nat) : MSet.has ⟨0, 0⟩ j = false := by unfold MSet.has; cases decide (j < 64) <;> exact Nat.zero_testBit _
theorem StepSt.start (l : List MItem) (ds : List MDot) : StepSt l ds 0 ⟨0, 0⟩ := ⟨⟨by decide, by decide⟩, fun j hj => by rw [MSet.zero_has]; simp⟩
theorem StepSt.next {l : List MItem} {ds : List MDot} {c : Nat} {s : MSet} (h : StepSt l ds c s) (hc : c < ds.length) {p : Nat} (hp : p < 128) (hw : ∀ j, isAt l ds[c] j ↔ j = p) : StepSt l ds (c + 1) (s.add p) := by
  refine ⟨MSet.add_ok h.1 hp, fun j hj => ?_⟩
  rw [MSet.add_has hp hj, Bool.or_eq_true, h.2 j hj, decide_eq_true_iff, ← hw j]
  constructor
  · rintro (⟨d, hd, ha⟩ | ha)
    · exact ⟨d, (mem_take_succ hc).2 (.inl hd), ha⟩
    · exact ⟨_, (mem_take_succ hc).2 (.inr rfl), ha⟩
  · rintro ⟨d, hd, ha⟩
    rcases (mem_take_succ hc).1 hd with g | rfl
    · exact .inl ⟨d, g, ha⟩
    · exact .inr ha
theorem StepSt.done {l : List MItem} {i : Nat} (hi : i < l.length) {s : MSet} (h : StepSt l l[i].fDeps l[i].fDeps.length s) : StepOk l i s := by
  refine ⟨h.1, fun j hj => ?_⟩
  rw [h.2 j hj, List.take_length]
  constructor
  · rintro ⟨d, hd, ⟨hj, hs⟩ | ⟨rfl, hn⟩⟩
    · exact .inl ⟨hi, hj, d, hd, hs⟩
    · exact .inr ⟨rfl, hi, d, hd, hn⟩
  · rintro (⟨_, hj, d, hd, hs⟩ | ⟨rfl, _, d, hd, hn⟩)
    · exact ⟨d, hd, .inl ⟨hj, hs⟩⟩
    · exact ⟨d, hd, .inr ⟨rfl, hn⟩⟩
/-- Found: that place alone. -/
theorem isAt_found {l : List MItem} (hg : graphP ⟨l⟩ = true) {d : MDot} {p : Nat} (ht : thereAt l d p = true) : p < l.length ∧ ∀ j, isAt l d j ↔ j = p := by
  have hp : p < l.length := by
    apply Classical.byContradiction
    intro h
    rw [thereAt_no h] at ht; cases ht
  rw [thereAt_at hp] at ht
  refine ⟨hp, fun j => ⟨?_, ?_⟩⟩
  · rintro (⟨hj, hs⟩ | ⟨_, hn⟩)
    · exact graph_uniq hg hj hp hs ht
    · rw [hasI_yes hp ht] at hn; cases hn
  · rintro rfl
    exact .inl ⟨hp, ht⟩
/-- Not found: outside. -/
theorem isAt_none {l : List MItem} (hg : graphP ⟨l⟩ = true) {d : MDot} {p : Nat} (hP : PlaceAt l d p) (ht : thereAt l d p = false) : ∀ j, isAt l d j ↔ j = 100 := by
  have hno : ∀ j, (hj : j < l.length) → sameD l[j].fD d = false := by
    intro j hj
    rw [Bool.eq_false_iff]
    intro hs
    have hse := sameD_eq hs
    obtain ⟨h1, h2, h3⟩ := hP
    rcases Nat.lt_trichotomy j p with g | g | g
    · have hq : p - 1 < l.length := by omega
      have h4 := dotLt_iff.1 (h2 (p - 1) hq (by omega))
      by_cases he : j = p - 1
      · subst he; omega
      · have h5 := dotLt_iff.1 (graph_up hg j (p - 1) hj hq (by omega)); omega
    · subst g
      rw [thereAt_at hj, hs] at ht; cases ht
    · have hpl : p < l.length := by omega
      have h4 := h3 hpl
      have h5 := dotLt_iff.1 (graph_up hg p j hpl hj g)
      have h6 : ¬ (l[p].fD.fR < d.fR ∨ (l[p].fD.fR = d.fR ∧ l[p].fD.fN < d.fN)) := fun h => by rw [dotLt_iff.2 h] at h4; cases h4
      omega
  intro j
  constructor
  · rintro (⟨hj, hs⟩ | ⟨h, _⟩)
    · rw [hno j hj] at hs; cases hs
    · exact h
  · rintro rfl
    exact .inr ⟨rfl, hasI_no hno⟩


theorem Tryd.infoOfPlaceSet : (Tryd.prog.info? 66).map (fun i => (i.zero, i.size, i.bytes)) = some (some (.agg #[.int .u64 0, .int .u64 0]), 2, 16) := by kernel_rfl
theorem bw_sets {w : World} {g n base : Nat} {e : TypeId} (h : w.ownsRow base e 2 (.slice (some ⟨g, 0, none⟩) n n) n (madeCells (Value.agg #[.int .u64 0, .int .u64 0]).cells (n * 2)).toList) : Bw w g e (flatS (List.replicate n ⟨0, 0⟩)) := by
  rcases h.2 with ⟨h', _⟩ | ⟨g', cap, cur, h', hb, hg, hnc, hm, hs, ht⟩
  · cases h'
  · simp only [Value.slice.injEq, Option.some.injEq, Addr.mk.injEq, and_true, true_and] at h'
    obtain ⟨rfl, rfl⟩ := h'
    have e1 : cur.toList = flatS (List.replicate n ⟨0, 0⟩) := by
      rw [List.take_of_length_le (by simp; omega)] at ht
      rw [ht, flatS_made]
    show w.heap[g]? = _
    rw [hg, ← e1]
/-- A row of sets of one's own of which the first k are through, the others empty. -/
structure Steps (l : List MItem) (n k : Nat) (g : Nat) (ss : List MSet) (W : World) : Prop where
  len : ss.length = n
  row : Bw W g 66 (flatS ss)
  did : ∀ i, (hi : i < ss.length) → i < k → StepOk l i ss[i]
  not : ∀ i, (hi : i < ss.length) → k ≤ i → ss[i] = ⟨0, 0⟩
/-- In the midst of the k-th. -/
structure Steps2 (l : List MItem) (ds : List MDot) (n k c : Nat) (g : Nat) (ss : List MSet) (W : World) : Prop where
  len : ss.length = n
  row : Bw W g 66 (flatS ss)
  did : ∀ i, (hi : i < ss.length) → i < k → StepOk l i ss[i]
  not : ∀ i, (hi : i < ss.length) → k < i → ss[i] = ⟨0, 0⟩
  now : ∃ hk : k < ss.length, StepSt l ds c ss[k]
theorem Steps.enter {l : List MItem} {n k g : Nat} {ss : List MSet} {W W' : World} (h : Steps l n k g ss W) (hk : k < n) (ds : List MDot) (hb : Below W.heap.size W W') : Steps2 l ds n k 0 g ss W' :=
  ⟨h.len, h.row.under hb, h.did, fun i hi h' => h.not i hi (by omega), by rw [← h.len] at hk; exact ⟨hk, by rw [h.not k hk (Nat.le_refl _)]; exact StepSt.start l ds⟩⟩
theorem Steps2.under {l : List MItem} {ds : List MDot} {n k c g : Nat} {ss : List MSet} {W W' : World} (h : Steps2 l ds n k c g ss W) (hb : Below W.heap.size W W') : Steps2 l ds n k c g ss W' := ⟨h.len, h.row.under hb, h.did, h.not, h.now⟩
theorem Steps2.next {l : List MItem} {ds : List MDot} {n k c g : Nat} {ss : List MSet} {W W' : World} (h : Steps2 l ds n k c g ss W) (hc : c < ds.length) {p : Nat} (hp : p < 128) (hw : ∀ j, isAt l ds[c] j ↔ j = p) {s : MSet} (hs : ∃ hk : k < ss.length, ss[k] = s)
    (hr : Bw W' g 66 (((flatS ss).set (k * 2) (.int .u64 ((s.add p).x0 : Int))).set (k * 2 + 1) (.int .u64 ((s.add p).x1 : Int)))) : Steps2 l ds n k (c + 1) g (ss.set k (s.add p)) W' := by
  obtain ⟨hk, rfl⟩ := hs
  rw [flatS_set hk] at hr
  refine ⟨by simpa using h.len, hr, fun i hi hik => ?_, fun i hi hik => ?_, by simpa using hk, ?_⟩
  · rw [List.getElem_set_ne (by omega)]; exact h.did i (by simpa using hi) hik
  · rw [List.getElem_set_ne (by omega)]; exact h.not i (by simpa using hi) hik
  · rw [List.getElem_set_self]; exact h.now.2.next hc hp hw
theorem Steps2.leave {l : List MItem} {n k g : Nat} {ss : List MSet} {W : World} (hk : k < l.length) {ds : List MDot} (hd : ds = l[k].fDeps) (h : Steps2 l ds n k ds.length g ss W) : Steps l n (k + 1) g ss W := by
  subst hd
  refine ⟨h.len, h.row, fun i hi hik => ?_, fun i hi hik => h.not i hi (by omega)⟩
  by_cases he : i = k
  · subst he; exact h.now.2.done hk
  · exact h.did i hi (by omega)

set_option maxHeartbeats 4000000 in
theorem stepsOf_any (a : Option Addr) (n cap : Nat) (l : List MItem) (w : World) (hx : l.length = n) (hg : graphP ⟨l⟩ = true) (hr : LeafL 3 rItem w.heap.size w a cap l) :
    Calls Tryd.prog 67 #[.slice a n cap] w fun e w' => ∃ ss : List MSet, e = .returned (.slice (some ⟨w.heap.size, 0, none⟩) n n) ∧ Steps l n n w.heap.size ss w' ∧ Below w.heap.size w w' := by
  obtain ⟨iS, hiS, hzS0, hzS1, hzS2⟩ := info_parts Tryd.infoOfPlaceSet
  have hn : n ≤ 100 := by
    have h' : (decide (l.length ≤ 100) && upOk itemP itemLt l) = true := hg
    rw [Bool.and_eq_true] at h'
    rw [← hx]
    exact of_decide_eq_true h'.1
  have HGO := Hid.mk hg
  have HX := Hid.mk hx
  have HL := Hid.mk hr
  clear hx hg hr
  go_enter Tryd.func67, Tryd.ntmps67
  go_wp2_with (at_make; refine wpList_make_full _ rfl _ _ 99 rfl w.heap.size 66 iS (.agg #[.int .u64 0, .int .u64 0]) 2 Tryd.underlying99 hiS hzS0 hzS1 .i64 .i64 _ _ n rfl rfl rfl rfl (by rw [hzS2]; omega) (by unfold maxLen; omega) (by simp) ?_; intro w1 hown hgr)
  have hb01 : Below w.heap.size w w1 := (Below.refl _ _).grown hgr (Nat.le_refl _) (fun k h => by cases h)
  have HS0 : Hid (Steps l n 0 w.heap.size (List.replicate n ⟨0, 0⟩) w1) := ⟨by simp, bw_sets hown, fun i hi h => by omega, fun i hi h => by simp⟩
  clear hown hgr
  go_loopw [15] (fun iv wr => ∃ (k : Nat) (ss : List MSet), k ≤ n ∧ iv = .int .i64 k ∧ Hid (Steps l n k w.heap.size ss wr) ∧ Below w.heap.size w wr) (fun iv _ => n - (intOf iv).toNat)
  case atStart => exact ⟨0, _, Nat.zero_le _, rfl, HS0, hb01⟩
  case round =>
    obtain ⟨k, ss, hk, rfl, HS, hbk⟩ := hrel
    by_cases hlt : k < n
    · have hkl : k < l.length := by rw [HX.out]; exact hlt
      obtain ⟨b1, o1, rfl, hB, cs, hcl, hcell, a2, c2, rfl, g0, g1, g2, _⟩ := HL.out.2.2 k hkl
      have HD2 := Hid.mk g2
      have k0 := (hbk.cell (p := ⟨b1, o1 + k * 3, none⟩) hB).trans (hcell 0 _ rfl)
      have k1 := (hbk.cell (p := ⟨b1, o1 + k * 3 + 1, none⟩) hB).trans (hcell 1 _ rfl)
      have k2 := (hbk.cell (p := ⟨b1, o1 + k * 3 + 2, none⟩) hB).trans (hcell 2 _ rfl)
      obtain ⟨ds, hds⟩ : ∃ ds, ds = l[k].fDeps := ⟨_, rfl⟩
      have hdl : ds.length ≤ 100 := by
        have h1 := graph_deps HGO.out k hkl
        rw [← hds] at h1
        omega
      rw [← hds] at k2 HD2
      have HDS := Hid.mk hds
      generalize l[k].fD = d0 at *
      clear hcell hcl g2 hds
      obtain ⟨wp, hwp⟩ : ∃ y, y = wr.alloc (.cells #[.int .i64 d0.fR, .int .i64 d0.fN, .slice a2 ds.length c2] 52) := ⟨_, rfl⟩
      have hbp : Below wr.heap.size wr wp := by rw [hwp]; exact (Below.refl _ _).alloc (Nat.le_refl _) _
      have HS1 := Hid.mk (HS.out.enter hlt ds hbp)
      have hbwp : Below w.heap.size w wp := hbk.trans (hbp.mono hbk.size)
      go_wp2_with fail
      rw [← hwp]
      clear hwp k0 k1 k2 HS hbk
      generalize wr = wo at *
      clear hbp
      go_loopw [23] (fun cv wr => ∃ (c : Nat) (ss : List MSet), c ≤ ds.length ∧ cv = .int .i64 c ∧ Hid (Steps2 l ds n k c w.heap.size ss wr) ∧ Below w.heap.size w wr) (fun cv _ => ds.length - (intOf cv).toNat)
      case atStart => exact ⟨0, ss, Nat.zero_le _, rfl, HS1, hbwp⟩
      case round =>
        obtain ⟨c, s2, hc, rfl, HT, hbw⟩ := hrel
        by_cases hlc : c < ds.length
        · obtain ⟨b3, o3, rfl, hB3, cs3, hcl3, hcell3, rfl, f0, f1, _⟩ := (HD2.out.2.2.below rDot_good hbw) c hlc
          have y0 := hcell3 0 _ rfl
          have y1 := hcell3 1 _ rfl
          rw [Nat.add_zero] at y0
          have HW1 : Hid (∀ p, thereAt l ds[c] p = true → p < l.length ∧ ∀ j, isAt l ds[c] j ↔ j = p) := fun p h => isAt_found HGO.out h
          have HW2 : Hid (∀ p, PlaceAt l ds[c] p → thereAt l ds[c] p = false → ∀ j, isAt l ds[c] j ↔ j = 100) := fun p hp h => isAt_none HGO.out hp h
          obtain ⟨s, hs⟩ : ∃ s, ∃ hk : k < s2.length, s2[k] = s := ⟨_, HT.out.now.1, rfl⟩
          have hsok : s.ok := by obtain ⟨_, rfl⟩ := hs; exact HT.out.now.2.1
          have hkn : k < s2.length := HT.out.now.1
          have HQ0 : Hid ((flatS s2)[k * 2]? = some (.int .u64 (s.x0 : Int))) := by obtain ⟨_, rfl⟩ := hs; exact flatS_at0 hkn
          have HQ1 : Hid ((flatS s2)[k * 2 + 1]? = some (.int .u64 (s.x1 : Int))) := by obtain ⟨_, rfl⟩ := hs; exact flatS_at1 hkn
          have HNX : Hid (∀ p W W', p < 128 → (∀ j, isAt l ds[c] j ↔ j = p) → Steps2 l ds n k c w.heap.size s2 W → Bw W' w.heap.size 66 (((flatS s2).set (k * 2) (.int .u64 ((s.add p).x0 : Int))).set (k * 2 + 1) (.int .u64 ((s.add p).x1 : Int))) → Steps2 l ds n k (c + 1) w.heap.size (s2.set k (s.add p)) W') := fun p W W' hp hw h hr => h.next hlc hp hw hs hr
          generalize ds[c] = d at *
          clear hcell3 hcl3 hs hkn
          obtain ⟨w5, hw5⟩ : ∃ x, x = wr.alloc (.cells #[.int .i64 d.fR, .int .i64 d.fN] 40) := ⟨_, rfl⟩
          have hb5 : Below wr.heap.size wr w5 := by rw [hw5]; exact (Below.refl _ _).alloc (Nat.le_refl _) _
          have hbw5 : Below w.heap.size w w5 := hbw.trans (hb5.mono hbw.size)
          have HP := Hid.mk (placeOf_any (some ⟨b1, o1, none⟩) n cap l [.int .i64 d.fR, .int .i64 d.fN] d w5 HX.out (by omega) ((HL.out.below rItem_good hbw5).mono rItem_good hbw5.size) ⟨rfl, f0, f1, trivial⟩)
          go_wp2_with fail
          rw [← hw5]
          clear hw5
          refine HP.out.mono ?_
          rintro e w6 ⟨p, rfl, hPA, hx6⟩
          have HT6 := Hid.mk (HT.out.under (hb5.trans (hx6.mono hb5.size)))
          have hbw6 : Below w.heap.size w w6 := hbw5.trans (hx6.mono hbw5.size)
          have HPA := Hid.mk hPA
          have hk1 : (0 : Int) ≤ (k : Int) := by omega
          have hk2 : (k : Int) < (n : Int) := by omega
          clear HP hPA y0 y1 HT hb5 hbw5 hx6
          rcases ht : thereAt l d p with _ | _
          · have HW := Hid.mk (HW2.out p HPA.out ht)
            clear ht
            go_wp2_with fail
            refine (add_any w.heap.size (k * 2) 100 66 _ s w6 hsok (by omega) HT6.out.row HQ0.out HQ1.out).mono ?_
            rintro e w7 ⟨rfl, hB7, hT7⟩
            have HT7 := Hid.mk (HNX.out 100 w6 w7 (by omega) HW.out HT6.out hB7)
            have hbw7 : Below w.heap.size w w7 := hbw6.trans (hT7.below (fun x hx => by simp at hx; omega) hbw6.size)
            clear hB7 hT7
            go_wp2_with fail
            go_roundw
            case rel => exact ⟨c + 1, _, by omega, by go_num, HT7, hbw7⟩
            case measure => simp [intOf]; omega
          · have HW := Hid.mk (HW1.out p ht)
            have hpn : p < n := by have h1 := HW.out.1; have h2 := HX.out; omega
            clear ht
            go_wp2_with fail
            refine (add_any w.heap.size (k * 2) p 66 _ s w6 hsok (by omega) HT6.out.row HQ0.out HQ1.out).mono ?_
            rintro e w7 ⟨rfl, hB7, hT7⟩
            have HT7 := Hid.mk (HNX.out p w6 w7 (by omega) HW.out.2 HT6.out hB7)
            have hbw7 : Below w.heap.size w w7 := hbw6.trans (hT7.below (fun x hx => by simp at hx; omega) hbw6.size)
            clear hB7 hT7
            go_wp2_with fail
            go_roundw
            case rel => exact ⟨c + 1, _, by omega, by go_num, HT7, hbw7⟩
            case measure => simp [intOf]; omega
        · have hcd : c = ds.length := by omega
          have HSn : Hid (Steps l n (k + 1) w.heap.size s2 wr) := Steps2.leave hkl HDS.out (by rw [← hcd]; exact HT.out)
          clear HT
          go_wp2_with fail
          go_roundw
          case rel => exact ⟨k + 1, s2, by omega, by go_num, HSn, hbw⟩
          case measure => simp [intOf]; omega
    · have hkn : k = n := by omega
      subst hkn
      go_wp2_with fail
      go_ret
      exact ⟨ss, rfl, HS.out, hbk⟩

end Go.Proofs.YtmigamgcmhdncaaDoor

namespace Go.Proofs.YtmigamgcmhdncaaDoor
open Go.Proofs Go.Shelf

def layTz_ren : Go.Shelf.Ren := ⟨fun | 29 => 109 | n => n, fun | 22 => 64 | 3 => 3 | 4 => 4 | 25 => 105 | 54 => 151 | 0 => 0 | 5 => 5 | n => n, fun | 1 => 0 | n => n⟩
theorem layTz : Go.Proofs.Lays7.n29 Tryd.prog layTz_ren := {
  mixed := by kernel_rfl
  f29 := Tryd.func109.trans (congrArg some (by kernel_rfl))
  t0 := Tryd.underlying0
  a0 := Tryd.isAgg0
  z0 := Tryd.sizeOf0
  v0 := Tryd.zeroValue0
  i0 := by kernel_rfl
  t3 := Tryd.underlying3
  a3 := Tryd.isAgg3
  z3 := Tryd.sizeOf3
  v3 := Tryd.zeroValue3
  i3 := by kernel_rfl
  t4 := Tryd.underlying4
  a4 := Tryd.isAgg4
  z4 := Tryd.sizeOf4
  v4 := Tryd.zeroValue4
  i4 := by kernel_rfl
  t5 := Tryd.underlying5
  a5 := Tryd.isAgg5
  z5 := Tryd.sizeOf5
  v5 := Tryd.zeroValue5
  i5 := by kernel_rfl
  t22 := Tryd.underlying64
  a22 := Tryd.isAgg64
  z22 := Tryd.sizeOf64
  v22 := Tryd.zeroValue64
  i22 := by kernel_rfl
  t25 := Tryd.underlying105
  a25 := Tryd.isAgg105
  z25 := Tryd.sizeOf105
  v25 := Tryd.zeroValue105
  i25 := by kernel_rfl
  t54 := Tryd.underlying151
  a54 := Tryd.isAgg151
  z54 := Tryd.sizeOf151
  g1 := by kernel_rfl }

end Go.Proofs.YtmigamgcmhdncaaDoor

namespace Go.Proofs.YtmigamgcmhdncaaDoor
open Go.RowKit

theorem ctz_bits {x : Nat} (h0 : x ≠ 0) (hx : x < 18446744073709551616) : Lib.ctz 64 x < 64 ∧ x.testBit (Lib.ctz 64 x) = true ∧ ∀ j, j < Lib.ctz 64 x → x.testBit j = false := by
  have e0 : Lib.ctz 64 x = Lib.ctzFrom 64 x := if_neg h0
  obtain ⟨m, e, hc⟩ := Lib.ctzFrom_spec 64 x (by omega) hx
  rw [e0]
  generalize Lib.ctzFrom 64 x = c at *
  refine ⟨hc, ?_, fun j hj => ?_⟩
  · rw [e, Nat.testBit_two_pow_mul]
    simp
  · rw [e, Nat.testBit_two_pow_mul, decide_eq_false (by omega)]
    rfl
/-- The least place of a set, or 128. -/
def MSet.least (s : MSet) (p : Nat) : Prop := p ≤ 128 ∧ (p < 128 → s.has p = true) ∧ ∀ j, j < p → s.has j = false

def TzAt (w : World) : Prop := Go.Proofs.TabAt (layTz_ren.g 1) Lib.deBruijn64tab w
theorem TzAt.below {w w' : World} (h : TzAt w) (hb : Below w.heap.size w w') : TzAt w' := fun j hj => (hb.cell (p := ⟨layTz_ren.g 1, j, none⟩) (World.block_lt_of_cell? _ _ (h j hj))).trans (h j hj)

set_option maxHeartbeats 2000000 in
theorem first_any (s : MSet) (w : World) (hs : s.ok) (hT : TzAt w) :
    Calls Tryd.prog 91 #[.agg s.cells.toArray] w fun e w' => ∃ p : Nat, e = .returned (.int .i64 p) ∧ s.least p ∧ Below w.heap.size w w' := by
  obtain ⟨X0, X1⟩ := s
  obtain ⟨s0, s1⟩ := hs
  show Calls Tryd.prog 91 #[.agg #[.int .u64 (X0 : Int), .int .u64 (X1 : Int)]] w fun e w' => ∃ p : Nat, e = .returned (.int .i64 p) ∧ (MSet.mk X0 X1).least p ∧ Below w.heap.size w w'
  have HL0 : Hid (X0 ≠ 0 → Lib.ctz 64 X0 < 64 ∧ (MSet.mk X0 X1).least (Lib.ctz 64 X0)) := fun h => by
    obtain ⟨h1, h2, h3⟩ := ctz_bits h s0
    exact ⟨h1, by omega, fun _ => by rw [MSet.has_lo h1]; exact h2, fun j hj => by rw [MSet.has_lo (by omega)]; exact h3 j hj⟩
  have HL1 : Hid (X0 = 0 → X1 ≠ 0 → Lib.ctz 64 X1 < 64 ∧ (MSet.mk X0 X1).least (64 + Lib.ctz 64 X1)) := fun h g => by
    obtain ⟨h1, h2, h3⟩ := ctz_bits g s1
    refine ⟨h1, by omega, fun _ => ?_, fun j hj => ?_⟩
    · rw [MSet.has_hi (by omega), Nat.add_sub_cancel_left]; exact h2
    · by_cases hj2 : j < 64
      · rw [MSet.has_lo hj2]; show X0.testBit j = false; rw [h]; exact Nat.zero_testBit j
      · rw [MSet.has_hi hj2]; exact h3 (j - 64) (by omega)
  have HL2 : Hid (X0 = 0 → X1 = 0 → (MSet.mk X0 X1).least 128) := fun h g => by
    refine ⟨Nat.le_refl _, fun h => by omega, fun j hj => ?_⟩
    by_cases hj2 : j < 64
    · rw [MSet.has_lo hj2]; show X0.testBit j = false; rw [h]; exact Nat.zero_testBit j
    · rw [MSet.has_hi hj2]; show X1.testBit (j - 64) = false; rw [g]; exact Nat.zero_testBit _
  go_enter Tryd.func91, Tryd.ntmps91
  go_wp2_with fail
  obtain ⟨w1, hw1⟩ : ∃ x, x = w.alloc (.cells #[.int .u64 (X0 : Int), .int .u64 (X1 : Int)] 66) := ⟨_, rfl⟩
  have hb1 : Below w.heap.size w w1 := by rw [hw1]; exact (Below.refl _ _).alloc (Nat.le_refl _) _
  have HT1 := Hid.mk (hT.below hb1)
  rw [← hw1]
  clear hw1
  go_loopw [6] (fun iv wr => ∃ k : Nat, k ≤ 2 ∧ iv = .int .i64 k ∧ Hid ((1 ≤ k → X0 = 0) ∧ (2 ≤ k → X1 = 0)) ∧ wr = w1) (fun iv _ => 2 - (intOf iv).toNat)
  case atStart => exact ⟨0, by omega, rfl, ⟨fun h => by omega, fun h => by omega⟩, rfl⟩
  case round =>
    obtain ⟨k, hk, rfl, HB, hwr⟩ := hrel
    replace hwr := hwr.symm
    subst hwr
    rcases (by omega : k = 0 ∨ k = 1 ∨ k = 2) with rfl | rfl | rfl
    · have hix := set_ix0 (X0 : Int) (X1 : Int)
      by_cases hz : X0 = 0
      · have hz2 : (X0 : Int) = 0 := by omega
        have hix2 := set_ix0 0 (X1 : Int)
        go_wp2_with fail
        go_roundw
        case rel => exact ⟨1, by omega, by go_num, ⟨fun _ => hz, fun h => by omega⟩, by trivial⟩
        case measure => simp [intOf]
      · have hz2 : ¬ (X0 : Int) = 0 := by omega
        have HP := Hid.mk (HL0.out hz)
        have hc := (HL0.out hz).1
        go_wp2_with fail
        refine (Any7.bits_TrailingZeros64 layTz X0 s0 w1 (fun _ => HT1.out)).mono ?_
        rintro e w2 ⟨rfl, rfl⟩
        generalize Lib.ctz 64 X0 = c at *
        go_wp2_with fail
        go_ret
        exact ⟨c, by go_num, HP.out.2, hb1⟩
    · have hix := set_ix1 (X0 : Int) (X1 : Int)
      have hx0 := HB.out.1 (Nat.le_refl _)
      by_cases hz : X1 = 0
      · have hz2 : (X1 : Int) = 0 := by omega
        have hix2 := set_ix1 0 0
        have hix3 := set_ix1 (X0 : Int) 0
        go_wp2_with fail
        go_roundw
        case rel => exact ⟨2, by omega, by go_num, ⟨fun _ => hx0, fun _ => hz⟩, by trivial⟩
        case measure => simp [intOf]
      · have hz2 : ¬ (X1 : Int) = 0 := by omega
        have HP := Hid.mk (HL1.out hx0 hz)
        have hc := (HL1.out hx0 hz).1
        have HX0 := Hid.mk hx0
        clear hx0
        go_wp2_with fail
        refine (Any7.bits_TrailingZeros64 layTz X1 s1 w1 (fun _ => HT1.out)).mono ?_
        rintro e w2 ⟨rfl, rfl⟩
        generalize Lib.ctz 64 X1 = c at *
        go_wp2_with fail
        go_ret
        exact ⟨64 + c, by go_num, HP.out.2, hb1⟩
    · have HP := Hid.mk (HL2.out (HB.out.1 (by omega)) (HB.out.2 (Nat.le_refl _)))
      go_wp2_with fail
      go_ret
      exact ⟨128, rfl, HP.out, hb1⟩

end Go.Proofs.YtmigamgcmhdncaaDoor
