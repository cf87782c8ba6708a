/-
  Which manifest counts on a disk: the program's Current and the specification's.
-/
import Derived.Test.YtnohnkcijomdjaaGreatDoorWrdX
import Derived.Test.YtnohnkcijomdjaaGreatDoorParV
import Derived.Test.YtnohnkcijomdjaaGreatDoorMapSB
import Derived.Test.YtnohnkcijomdjaaGreatDoorDskUB
import Derived.Test.YtnohnkcijomdjaaGreatDoorByteR
namespace Go.Proofs.YtnohnkcijomdjaaGreatDoor
open Go.RowKit Go.Maps Go.Shelf
set_option linter.unusedVariables false
set_option linter.unusedSimpArgs false
set_option maxRecDepth 10000

def curN : ByteArray := ⟨#[99, 117, 114]⟩
def curP (m : MDisk) : MManifest × Bool := parseP (strOfNums (bytesP m curN))
theorem cur_no {m : MDisk} (h : ¬ callP m curN = 0) : curP m = (⟨0, 0, []⟩, false) := by
  unfold curP bytesP
  rw [if_neg h]
  exact parse_bad (by decide +kernel)
theorem bytes_small (m : MDisk) (s : ByteArray) (hw : wDisk m ≤ 1048576) : (bytesP m s).length ≤ 1048576 := by
  unfold bytesP dataOf
  have hw2 : m.fInodes.length + sumW wInode m.fInodes + (m.fNames.length + sumW wEntry m.fNames) + (m.fSafe.length + sumW wEntry m.fSafe) ≤ 1048576 := hw
  split
  · by_cases h : placeOf m.fInodes (idOf m.fNames s) < m.fInodes.length
    · rw [List.getElem?_eq_getElem h]
      have h1 := sumW_le (f := wInode) h
      have h2 : wInode m.fInodes[placeOf m.fInodes (idOf m.fNames s)] = m.fInodes[placeOf m.fInodes (idOf m.fNames s)].fData.length := rfl
      simp
      omega
    · rw [List.getElem?_eq_none (by omega)]
      simp
  · simp
theorem nums_small (m : MDisk) (s : ByteArray) (hw : wDisk m ≤ 1048576) : (strOfNums (bytesP m s)).size ≤ 1048576 := by
  have := bytes_small m s hw
  simpa [strOfNums, ByteArray.size] using this
theorem conv_rd {B : Nat} {w : World} {v : Value} {bs : List Int} (h : rdB B w v bs) : (convert 60 9 v).run Tryz.prog w = .ok (.string (strOfNums bs)) w := by
  obtain ⟨a, c, rfl, hl⟩ := h
  cases bs with
  | nil =>
    cases a with
    | none => exact run_convert_bytes_nil w 60 5 Tryz.underlying60 Tryz.underlying5 _ _ 9 Tryz.underlying9
    | some ad => exact run_convert_bytes_back w 60 9 5 ad c [] Tryz.underlying60 Tryz.underlying5 Tryz.underlying9 (fun j hj => by simp at hj)
  | cons z r =>
    obtain ⟨b, off, rfl, _, _⟩ := hl.2.2.1 0 (by simp)
    exact run_convert_bytes_arg w 60 5 Tryz.underlying60 Tryz.underlying5 b off _ c (z :: r) rfl (fun i hi => by
      obtain ⟨b', o', e', _, hc⟩ := hl.2.2.1 i hi
      simp only [Option.some.injEq, Addr.mk.injEq, and_true] at e'
      obtain ⟨rfl, rfl⟩ := e'
      exact hc) 9 Tryz.underlying9
/-- A manifest that is read stands where a manifest's own box is written. -/
theorem rManifest_turn {w w' : World} {b B : Nat} {t : TypeId} {x0 x1 x2 : Value} {cs : List Value} {m : MManifest} (hx : Bw w b t [x0, x1, x2]) (h : Turn [b] w w') (hr : rManifest B w cs m) : rManifest B w' cs m := by
  obtain ⟨a2, c2, rfl, h0, h1, hl, _⟩ := hr
  refine ⟨a2, c2, rfl, h0, h1, ⟨hl.1, hl.2.1, fun j hj => ?_⟩, trivial⟩
  obtain ⟨g, off, e, hB, cs, k1, k2, k3⟩ := hl.2.2 j hj
  obtain ⟨rfl, k4⟩ := k3
  have hne : g ≠ b := by
    rintro rfl
    have h4 := k2 3 _ rfl
    have hx' : w.heap[g]? = some (.cells [x0, x1, x2].toArray t (0, 0)) := hx
    simp [World.cell?, hx'] at h4
  exact ⟨g, off, e, hB, _, k1, fun i u hu => (h.cell (p := ⟨g, off + j * 4 + i, none⟩) (World.block_lt_of_cell? _ _ (k2 i u hu)) (by simpa using hne)).trans (k2 i u hu), ⟨rfl, k4⟩⟩

set_option maxHeartbeats 2000000 in
theorem specCurrent_c (cs : List Value) (m : MDisk) (w : World) (hr : rDisk w.heap.size w cs m) (hw : wDisk m ≤ 1048576) :
    Calls Tryz.prog 11 #[.agg cs.toArray] w fun e w' => ∃ cs : List Value, e = .returned (.tuple #[.agg cs.toArray, .bool (curP m).2]) ∧ rManifest w'.heap.size w' cs (curP m).1 ∧ Below w.heap.size w w' := by
  have HR := Hid.mk hr
  have HW := Hid.mk hw
  obtain ⟨a0, c0, a1, c1, a2, c2, rfl, _⟩ := hr
  obtain ⟨w1, hw1⟩ : ∃ q, q = (w.alloc (.cells #[.slice a0 m.fInodes.length c0, .slice a1 m.fNames.length c1, .slice a2 m.fSafe.length c2, .int .i64 m.fNext] 39)).alloc (.cells #[.int .i64 0, .int .i64 0, .slice none 0 0] 24) := ⟨_, rfl⟩
  have hb1 : Below w.heap.size w w1 := by rw [hw1]; exact ((Below.refl _ _).alloc (Nat.le_refl _) _).alloc (by simp) _
  have hq1 : Bw w1 (w.heap.size + 1) 24 [.int .i64 0, .int .i64 0, .slice none 0 0] := by rw [hw1]; exact Bw.new' _ _ _ (by simp)
  have HB1 := Hid.mk hb1
  have HQ1 := Hid.mk hq1
  have HN := Hid.mk (nums_small m curN hw)
  have HCN : Hid (¬ callP m curN = 0 → curP m = (⟨0, 0, []⟩, false)) := cur_no
  have HCY : Hid (curP m = parseP (strOfNums (bytesP m curN))) := rfl
  clear hb1 hq1 hw
  go_enter Tryz.func11, Tryz.ntmps11
  go_wp2_with fail
  rw [← hw1]
  clear hw1
  refine (specBytes_c _ m ⟨#[99, 117, 114]⟩ w1 (rDisk_good.mono (rDisk_good.below HR.out HB1.out) HB1.out.size) (by decide) HW.out (by decide)).mono ?_
  rintro e w2 ⟨v, rfl, hrd, hx2⟩
  have hq2 := HQ1.out.under hx2
  have HB2 : Hid (Below w.heap.size w w2) := bthen HB1.out hx2
  have HQ2 := Hid.mk hq2
  clear hx2 HQ1 HB1
  by_cases hc : callP m ⟨#[99, 117, 114]⟩ = 0
  · have hcv := conv_rd hrd
    rw [decide_eq_true hc]
    clear hrd hc HCN hq2
    have HN : Hid ((strOfNums (bytesP m ⟨#[99, 117, 114]⟩)).size ≤ 1048576) := HN
    have HCY : Hid (curP m = parseP (strOfNums (bytesP m ⟨#[99, 117, 114]⟩))) := HCY
    generalize strOfNums (bytesP m ⟨#[99, 117, 114]⟩) = tx at *
    go_wp2_with fail
    refine (specParseMan_c tx w2 HN.out).mono ?_
    rintro e w3 ⟨cs3, rfl, hrm, hx3⟩
    have HRM := Hid.mk hrm
    obtain ⟨a, c, rfl, _⟩ := hrm
    have hq3 := HQ2.out.under hx3
    have HQ3 := Hid.mk hq3
    have HB3 : Hid (Below w.heap.size w w3) := bthen HB2.out hx3
    have r0 := hq3.cell 0 _ rfl
    have r1 := hq3.cell 1 _ rfl
    have r2 := hq3.cell 2 _ rfl
    have f0 := hq3.free 0
    have f1 := hq3.free 1
    have f2 := hq3.free 2
    have hlr := hq3.lt
    clear hx3 hq3 HQ2 HB2 hcv
    obtain ⟨PM, hPM⟩ : ∃ q, q = parseP tx := ⟨_, rfl⟩
    rw [← hPM] at HRM HCY ⊢
    clear hPM
    go_wp2_with fail
    have hT7 := turn3 w3 (w.heap.size + 1) (.int .i64 PM.1.fNext) (.int .i64 PM.1.fLog) (.slice a PM.1.fTables.length c)
    refine bodyPost_ret (v := .tuple #[.agg #[.int .i64 PM.1.fNext, .int .i64 PM.1.fLog, .slice a PM.1.fTables.length c], .bool PM.2]) (by simp [results, Tryz.results11, go_sem, *]) rfl ?_
    rw [HCY.out]
    exact ⟨[.int .i64 PM.1.fNext, .int .i64 PM.1.fLog, .slice a PM.1.fTables.length c], rfl, rManifest_good.mono (rManifest_turn HQ3.out hT7 HRM.out) hT7.size, HB3.out.trans (hT7.below (fun k hk => by simp at hk; omega) HB3.out.size)⟩
  · have HCE := Hid.mk (HCN.out hc)
    rw [decide_eq_false hc]
    have r0 := hq2.cell 0 _ rfl
    have r1 := hq2.cell 1 _ rfl
    have r2 := hq2.cell 2 _ rfl
    have f0 := hq2.free 0
    have f1 := hq2.free 1
    have f2 := hq2.free 2
    have hlr := hq2.lt
    clear hq2 hrd hc
    go_wp2_with fail
    have hT7 := turn3 w2 (w.heap.size + 1) (.int .i64 0) (.int .i64 0) (.slice none 0 0)
    refine bodyPost_ret (v := .tuple #[.agg #[.int .i64 0, .int .i64 0, .slice none 0 0], .bool false]) (by simp [results, Tryz.results11, go_sem, *]) rfl ?_
    rw [HCE.out]
    exact ⟨[.int .i64 0, .int .i64 0, .slice none 0 0], rfl, ⟨none, 0, rfl, rfl, rfl, ⟨by simp, by simp, fun j hj => by simp at hj⟩, trivial⟩, HB2.out.trans (hT7.below (fun k hk => by simp at hk; omega) HB2.out.size)⟩

set_option maxHeartbeats 2000000 in
theorem implCurrent_c (cs : List Value) (m : MDisk) (w : World) (hr : rDisk w.heap.size w cs m) (hw : wDisk m ≤ 1048576) (hT : PrsT w) :
    Calls Tryz.prog 13 #[.agg cs.toArray] w fun e w' => ∃ (cs : List Value) (F : List Nat), e = .returned (.tuple #[.agg cs.toArray, .bool (curP m).2]) ∧ oManifest w' cs (curP m).1 F ∧ F.Nodup ∧ (∀ b, b ∈ F → w.heap.size ≤ b) ∧ Below w.heap.size w w' := by
  have HR := Hid.mk hr
  have HW := Hid.mk hw
  have HT := Hid.mk hT
  obtain ⟨a0, c0, a1, c1, a2, c2, rfl, _⟩ := hr
  obtain ⟨w1, hw1⟩ : ∃ q, q = (w.alloc (.cells #[.slice a0 m.fInodes.length c0, .slice a1 m.fNames.length c1, .slice a2 m.fSafe.length c2, .int .i64 m.fNext] 39)).alloc (.cells #[.int .i64 0, .int .i64 0, .slice none 0 0] 24) := ⟨_, rfl⟩
  have hb1 : Below w.heap.size w w1 := by rw [hw1]; exact ((Below.refl _ _).alloc (Nat.le_refl _) _).alloc (by simp) _
  have hq1 : Bw w1 (w.heap.size + 1) 24 [.int .i64 0, .int .i64 0, .slice none 0 0] := by rw [hw1]; exact Bw.new' _ _ _ (by simp)
  have HB1 := Hid.mk hb1
  have HQ1 := Hid.mk hq1
  have HN := Hid.mk (nums_small m curN hw)
  have HCY : Hid (curP m = parseP (strOfNums (bytesP m curN))) := rfl
  clear hb1 hq1 hw hT
  go_enter Tryz.func13, Tryz.ntmps13
  go_wp2_with fail
  rw [← hw1]
  clear hw1
  refine (implBytes_c _ m ⟨#[99, 117, 114]⟩ w1 (rDisk_good.mono (rDisk_good.below HR.out HB1.out) HB1.out.size) (by decide) HW.out (by decide)).mono ?_
  rintro e w2 ⟨v, FB, rfl, hob, _, _, hx2⟩
  have hcv := conv_rd (rdB_own hob)
  have hq2 := HQ1.out.under hx2
  have HB2 : Hid (Below w.heap.size w w2) := bthen HB1.out hx2
  have HQ2 := Hid.mk hq2
  clear hx2 HQ1 HB1 hob hq2
  have HN : Hid ((strOfNums (bytesP m ⟨#[99, 117, 114]⟩)).size ≤ 1048576) := HN
  have HCY : Hid (curP m = parseP (strOfNums (bytesP m ⟨#[99, 117, 114]⟩))) := HCY
  generalize strOfNums (bytesP m ⟨#[99, 117, 114]⟩) = tx at *
  generalize decide (callP m ⟨#[99, 117, 114]⟩ = 0) = bo
  go_wp2_with fail
  refine (implParseMan_c tx w2 HN.out (HT.out.below HB2.out)).mono ?_
  rintro e w3 ⟨cs3, F, rfl, ho, hNd, hF, hx3⟩
  have HO := Hid.mk ho
  obtain ⟨v2, F2, rfl, _, _, hos, _⟩ := ho
  obtain ⟨a, c, rfl, _⟩ := ownS.read oMeta_good hos
  clear hos
  have hq3 := HQ2.out.under hx3
  have HQ3 := Hid.mk hq3
  have HB3 : Hid (Below w.heap.size w w3) := bthen HB2.out hx3
  have HF : Hid (∀ b, b ∈ F → w.heap.size + 1 < b) := fun b hb => by have h1 := hF b hb; have h2 := HQ2.out.lt; omega
  have r0 := hq3.cell 0 _ rfl
  have r1 := hq3.cell 1 _ rfl
  have r2 := hq3.cell 2 _ rfl
  have f0 := hq3.free 0
  have f1 := hq3.free 1
  have f2 := hq3.free 2
  have hlr := hq3.lt
  clear hx3 hq3 HQ2 HB2 hcv hF
  obtain ⟨PM, hPM⟩ : ∃ q, q = parseP tx := ⟨_, rfl⟩
  rw [← hPM] at HO HCY ⊢
  clear hPM
  go_wp2_with fail
  have hT7 := turn3 w3 (w.heap.size + 1) (.int .i64 PM.1.fNext) (.int .i64 PM.1.fLog) (.slice a PM.1.fTables.length c)
  refine bodyPost_ret (v := .tuple #[.agg #[.int .i64 PM.1.fNext, .int .i64 PM.1.fLog, .slice a PM.1.fTables.length c], .bool PM.2]) (by simp [results, Tryz.results13, go_sem, *]) rfl ?_
  rw [HCY.out]
  exact ⟨[.int .i64 PM.1.fNext, .int .i64 PM.1.fLog, .slice a PM.1.fTables.length c], F, rfl, oManifest_good.frame HO.out (fun q hq => hT7.block q (oManifest_good.lt HO.out q hq) (by have := HF.out q hq; simp; omega)), hNd, fun b hb => by have := HF.out b hb; omega, HB3.out.trans (hT7.below (fun k hk => by simp at hk; omega) HB3.out.size)⟩

end Go.Proofs.YtnohnkcijomdjaaGreatDoor
