/-
  The program's Bytes.
-/
import Derived.Test.YtnohnkcijomdjaaGreatDoorMapS
namespace Go.Proofs.YtnohnkcijomdjaaGreatDoor
open Go.RowKit Go.Maps
set_option linter.unusedVariables false
set_option linter.unusedSimpArgs false
set_option maxRecDepth 10000

set_option maxHeartbeats 1000000 in
theorem implBytes_c (cs : List Value) (m : MDisk) (s : ByteArray) (w : World) (hr : rDisk w.heap.size w cs m) (hs : s.size ≤ 9223372036854775807) (hw : wDisk m ≤ 1048576) (hw1 : s.size ≤ 1048576) :
    Calls Tryz.prog 32 #[.agg cs.toArray, .string s] w fun e w' => ∃ (v : Value) (F : List Nat), e = .returned (.tuple #[v, .bool (decide (callP m s = 0))]) ∧ ownB 5 w' v (bytesP m s) F ∧ F.Nodup ∧ (∀ b, b ∈ F → w.heap.size ≤ b) ∧ Below w.heap.size w w' := by
  have hq := hr
  obtain ⟨a0, c0, a1, c1, a2, c2, rfl, hI, hNm, hSf, hnx, _⟩ := hq
  have hw2 : m.fInodes.length + sumW wInode m.fInodes + (m.fNames.length + sumW wEntry m.fNames) + (m.fSafe.length + sumW wEntry m.fSafe) ≤ 1048576 := hw
  have HW := Hid.mk hw
  have HR := Hid.mk hr
  have HI := Hid.mk hI
  clear hr hI hNm hSf hw
  have hbA := (Below.refl w.heap.size w).alloc (Nat.le_refl _) (.cells #[.slice a0 m.fInodes.length c0, .slice a1 m.fNames.length c1, .slice a2 m.fSafe.length c2, .int .i64 m.fNext] 39)
  go_enter Tryz.func32, Tryz.ntmps32
  go_wp2_with fail
  refine (findFile_any _ m s _ (rDisk_good.mono (rDisk_good.below HR.out hbA) hbA.size) HW.out hs).mono ?_
  rintro e w1 ⟨p, rfl, hp, hx1⟩
  have hb1 := bthen hbA hx1
  have hbx := (Bx.new w [.slice a0 m.fInodes.length c0, .slice a1 m.fNames.length c1, .slice a2 m.fSafe.length c2, .int .i64 m.fNext] 39).under hx1
  have y0 := hbx.2 0 _ rfl
  by_cases hC : callP m s = 0
  · obtain ⟨hpl, hpi⟩ := hp hC
    have hok : diskOk m = true := by
      unfold callP at hC
      by_cases h : (diskOk m && nameOk s) = true
      · rw [Bool.and_eq_true] at h; exact h.1
      · rw [if_neg h] at hC; cases hC
    have HD : Hid (bytesP m s = m.fInodes[p].fData) := by
      show bytesP m s = _
      unfold bytesP
      rw [if_pos hC, dataOf_at (okI_sorted (diskOk_parts hok).1) hpl hpi]
    have HC := Hid.mk hC
    have hwk := sumW_le (f := wInode) hpl
    obtain ⟨b1, o1, rfl, hB, cs, hcl, hcell, hrI⟩ := (HI.out.2.2.below rInode_good hb1) p hpl
    obtain ⟨ad, cd, rfl, hid, hda, hsu, _⟩ := hrI
    have k1 := hcell 1 _ rfl
    rw [hC]
    have hdl : m.fInodes[p].fData.length ≤ 1048576 := by have : wInode m.fInodes[p] = m.fInodes[p].fData.length := rfl; omega
    generalize m.fInodes[p].fData = dt at *
    clear hp hpi hok hwk hcell hcl hC
    go_wp2_with fail
    refine (joinBytes_any ad none cd 0 dt [] w1 (hda.mono hb1.size) ⟨by simp, by omega, fun j hj => by simp at hj, fun z hz => by cases hz⟩ (by omega) (by simp)).mono ?_
    rintro e w2 ⟨v, F, rfl, ho, hN, hge, hx2⟩
    rw [List.append_nil] at ho
    go_wp2_with fail
    refine bodyPost_ret (v := .tuple #[v, .bool true]) (by simp [results, Tryz.results32, go_sem, *]) rfl ⟨v, F, by rw [decide_eq_true HC.out], by rw [HD.out]; exact ho, hN, fun b hb => Nat.le_trans hb1.size (hge b hb), bthen hb1 hx2⟩
  · have HD : Hid (bytesP m s = []) := by show bytesP m s = _; unfold bytesP; rw [if_neg hC]
    have HC := Hid.mk (decide_eq_false hC)
    have hcn : (callP m s == 0) = false := beq_eq_false_iff_ne.2 hC
    have hcn2 : (callP m s != 0) = true := bne_iff_ne.2 hC
    clear hp hC
    generalize callP m s = cp at hcn hcn2 ⊢
    go_wp2_with fail
    refine bodyPost_ret (v := .tuple #[.slice none 0 0, .bool false]) (by simp [results, Tryz.results32, go_sem, *]) rfl ⟨.slice none 0 0, [], by rw [HC.out], ?_, List.nodup_nil, (fun b hb => by cases hb), hb1⟩
    rw [HD.out]
    exact ⟨⟨by simp, .inl ⟨rfl, rfl⟩⟩, (fun z hz => by cases hz), rfl⟩

end Go.Proofs.YtnohnkcijomdjaaGreatDoor
