/-
  Part 22 of the texts that the proof leans on.
-/
import Derived.Test.YtmbobjhplkpfoaaFfl0
import Derived.Test.YtmbobjhplkpfoaaFfl19
import Derived.Test.YtmbobjhplkpfoaaFfl20
set_option linter.unusedVariables false
set_option linter.unusedSimpArgs false
set_option maxRecDepth 10000

namespace Go.Proofs.Ytmbobjhplkpfoaa
open Go.RowKit
abbrev qde9_24_14_1 : Oper := ⟨some 39, .move (.tmp 7), 9, "l02_files.go:263", #[], none⟩
abbrev qde9_24_14_2 : Oper := ⟨some 40, .move (.tmp 0), 45, "l02_files.go:263", #[], none⟩
abbrev qde9_24_14_3 : Oper := ⟨some 41, .call { callee := .value (.func 26), args := #[.tmp 40], argTypes := #[45] }, 22, "l02_files.go:263", #[⟨2, .data⟩], none⟩
abbrev qde9_24_14_0 : Oper := ⟨some 38, .load 27 (.tmp 5), 27, "l02_files.go:263", #[], none⟩
abbrev qde9_24_14_4 : Oper := ⟨some 42, .call { callee := .value (.func 49), args := #[.tmp 38, .tmp 39, .tmp 41], argTypes := #[27, 9, 22] }, 30, "l02_files.go:263", #[⟨0, .data⟩, ⟨1, .data⟩, ⟨3, .data⟩, ⟨3, .chain⟩], none⟩
abbrev qde9_24_14_5 : Oper := ⟨some 37, .move (.tmp 42), 30, "l02_files.go:263", #[⟨4, .data⟩], none⟩
abbrev qde9_24_14_6 : Oper := ⟨some 43, .extract (.tmp 37) 0, 27, "l02_files.go:263", #[⟨5, .data⟩], none⟩
abbrev qde9_24_14_7 : Oper := ⟨some 44, .extract (.tmp 37) 1, 3, "l02_files.go:263", #[⟨5, .data⟩, { on := 8, ground := Ground.gcOnly Departure.lateStores }], none⟩
abbrev qde9_24_14_8 : Oper := ⟨none, .store 27 (.tmp 5) (.tmp 43), 0, "l02_files.go:263", #[⟨6, .data⟩, ⟨4, .chain⟩, ⟨0, .phase⟩, ⟨1, .phase⟩, ⟨2, .phase⟩, ⟨3, .phase⟩, ⟨4, .phase⟩, ⟨5, .phase⟩, ⟨6, .phase⟩, { on := 7, ground := Ground.textOnly Departure.lateStores }], none⟩
abbrev qde9_24_20_1 : Oper := ⟨some 64, .move (.tmp 7), 9, "l02_files.go:269", #[], none⟩
abbrev qde9_24_20_2 : Oper := ⟨some 65, .move (.tmp 0), 45, "l02_files.go:269", #[], none⟩
abbrev qde9_24_20_3 : Oper := ⟨some 66, .call { callee := .value (.func 48), args := #[.tmp 65], argTypes := #[45] }, 9, "l02_files.go:269", #[⟨2, .data⟩], none⟩
abbrev qde9_24_20_0 : Oper := ⟨some 63, .load 27 (.tmp 5), 27, "l02_files.go:269", #[], none⟩
abbrev qde9_24_20_4 : Oper := ⟨some 67, .call { callee := .value (.func 21), args := #[.tmp 63, .tmp 64, .tmp 66], argTypes := #[27, 9, 9] }, 30, "l02_files.go:269", #[⟨0, .data⟩, ⟨1, .data⟩, ⟨3, .data⟩, ⟨3, .chain⟩], none⟩
abbrev qde9_24_20_5 : Oper := ⟨some 62, .move (.tmp 67), 30, "l02_files.go:269", #[⟨4, .data⟩], none⟩
abbrev qde9_24_20_6 : Oper := ⟨some 68, .extract (.tmp 62) 0, 27, "l02_files.go:269", #[⟨5, .data⟩], none⟩
abbrev qde9_24_20_7 : Oper := ⟨some 69, .extract (.tmp 62) 1, 3, "l02_files.go:269", #[⟨5, .data⟩, { on := 8, ground := Ground.gcOnly Departure.lateStores }], none⟩
abbrev qde9_24_20_8 : Oper := ⟨none, .store 27 (.tmp 5) (.tmp 68), 0, "l02_files.go:269", #[⟨6, .data⟩, ⟨4, .chain⟩, ⟨0, .phase⟩, ⟨1, .phase⟩, ⟨2, .phase⟩, ⟨3, .phase⟩, ⟨4, .phase⟩, ⟨5, .phase⟩, ⟨6, .phase⟩, { on := 7, ground := Ground.textOnly Departure.lateStores }], none⟩
abbrev qde9_24_7_1 : Oper := ⟨some 21, .move (.tmp 0), 45, "l02_files.go:273", #[], none⟩
abbrev qde9_24_7_2 : Oper := ⟨some 22, .call { callee := .value (.func 47), args := #[.tmp 21, .const (.int .i64 4)], argTypes := #[45, 3] }, 3, "l02_files.go:273", #[⟨1, .data⟩], none⟩
abbrev qde9_24_7_0 : Oper := ⟨some 20, .load 27 (.tmp 5), 27, "l02_files.go:273", #[], none⟩
abbrev qde9_24_7_3 : Oper := ⟨some 23, .call { callee := .value (.func 53), args := #[.tmp 20, .tmp 22], argTypes := #[27, 3] }, 27, "l02_files.go:273", #[⟨0, .data⟩, ⟨2, .data⟩, ⟨2, .chain⟩], none⟩
abbrev qde9_24_7_4 : Oper := ⟨none, .store 27 (.tmp 5) (.tmp 23), 0, "l02_files.go:273", #[⟨3, .data⟩, ⟨3, .chain⟩, ⟨0, .phase⟩, ⟨1, .phase⟩, ⟨2, .phase⟩, ⟨3, .phase⟩], none⟩

/-- Names that were drawn, and at most nine bytes a step. -/
structure Fam (k : Nat) (m : MDisk) : Prop where
  n : ∀ e, e ∈ m.fNames → e.fName ∈ namesL
  s : ∀ e, e ∈ m.fSafe → e.fName ∈ namesL
  z : sumW wInode m.fInodes ≤ 9 * k
section
variable {k : Nat} {m : MDisk} {s t : ByteArray} {b : List Int} {q : Int}
theorem Fam.mono {j : Nat} (h : Fam k m) (hj : k ≤ j) : Fam j m := ⟨h.n, h.s, Nat.le_trans h.z (by omega)⟩
theorem fam_new (k : Nat) : Fam k ⟨[], [], [], 1⟩ := ⟨(fun e he => by cases he), (fun e he => by cases he), Nat.zero_le _⟩
theorem Fam.keep (h : Fam k m) {N S : List MEntry} (hN : ∀ e, e ∈ N → e.fName ∈ namesL) (hS : ∀ e, e ∈ S → e.fName ∈ namesL) : Fam (k + 1) (keepD { m with fNames := N, fSafe := S }) := by
  refine ⟨hN, hS, ?_⟩
  have hsub : (keepI { m with fNames := N, fSafe := S }).Sublist m.fInodes := List.filter_sublist
  have := sumW_sublist (f := wInode) hsub
  have := h.z
  show sumW wInode (keepI { m with fNames := N, fSafe := S }) ≤ _
  omega
theorem with_in {l : List MEntry} {e0 : MEntry} (hl : ∀ e, e ∈ l → e.fName ∈ namesL) (h0 : e0.fName ∈ namesL) : ∀ e, e ∈ withE l e0 → e.fName ∈ namesL := fun e he => by
  rcases mem_withE.1 he with rfl | ⟨h, _⟩
  · exact h0
  · exact hl e h
theorem without_in {l : List MEntry} (hl : ∀ e, e ∈ l → e.fName ∈ namesL) : ∀ e, e ∈ without l s → e.fName ∈ namesL := fun e he => hl e (List.mem_filter.1 he).1
theorem fam_create (h : Fam k m) (hs : s ∈ namesL) : Fam (k + 1) (createP m s) := by
  have hz := create_sum (m := m) (s := s)
  have h1 := h.z
  unfold createP at hz ⊢
  split
  · rename_i hc
    rw [if_pos hc] at hz
    exact ⟨with_in h.n hs, h.s, by rw [hz]; omega⟩
  · exact h.mono (by omega)
theorem fam_append (h : Fam k m) (hb : b.length ≤ 9) : Fam (k + 1) (appendP m s b) := by
  have h1 := h.z
  unfold appendP
  split
  · have h2 := sum_long (l := m.fInodes) (k := fileAt m s) (b := b)
    exact ⟨h.n, h.s, by show sumW wInode (updI m.fInodes (fileAt m s) (longI b)) ≤ _; omega⟩
  · exact h.mono (by omega)
theorem fam_sync (h : Fam k m) : Fam (k + 1) (syncP m s) := by
  have h1 := h.z
  unfold syncP
  split
  · have h2 := sumW_updI (l := m.fInodes) (k := fileAt m s) (f := sureI) (c := 0) (fun n => Nat.le_refl _)
    exact ⟨h.n, h.s, by show sumW wInode (updI m.fInodes (fileAt m s) sureI) ≤ _; omega⟩
  · exact h.mono (by omega)
theorem fam_syncDir (h : Fam k m) : Fam (k + 1) (syncDirP m) := by
  unfold syncDirP
  split
  · exact h.keep (N := m.fNames) (S := m.fNames) h.n h.n
  · exact h.mono (by omega)
theorem fam_rename (h : Fam k m) (ht : t ∈ namesL) : Fam (k + 1) (renameP m s t) := by
  unfold renameP
  split
  · exact h.keep (N := renameN m s t) (S := m.fSafe) (with_in (without_in h.n) ht) h.s
  · exact h.mono (by omega)
theorem fam_remove (h : Fam k m) : Fam (k + 1) (removeP m s) := by
  unfold removeP
  split
  · exact h.keep (N := without m.fNames s) (S := m.fSafe) (without_in h.n) h.s
  · exact h.mono (by omega)
theorem fam_fall (h : Fam k m) : Fam (k + 1) (fallP m q) := by
  unfold fallP
  split
  · have h1 := (h.keep (N := m.fSafe) (S := m.fSafe) h.s h.s).z
    have h2 := sumW_map_le (f := cutI q) (fun n => by unfold cutI wInode; simp; omega) (keepI { m with fNames := m.fSafe })
    exact ⟨h.s, h.s, Nat.le_trans h2 h1⟩
  · exact h.mono (by omega)
end

set_option maxHeartbeats 8000000 in
theorem l2DrawK_ok {g : Nat} {w : World} (q : Int) (hc : CurOk w g) (hq : q ≤ 100) :
    Calls Try.prog 24 #[.pointer (some ⟨g, 0, none⟩), .int .i64 q] w fun e w' => ∃ (cs : List Value) (m : MDisk), e = .returned (.agg cs.toArray) ∧ Fam 100 m ∧ (∃ F, oDisk w' cs m F ∧ ∀ b, b ∈ F → w.heap.size ≤ b) ∧ Fit m ∧ CurOk w' g ∧ Turn [g] w w' := by
  have hgl := hc.lt
  have HC := Hid.mk hc
  clear hc
  go_enter Try.func24, Try.ntmps24
  go_wp2_with fail
  obtain ⟨wq, hwq⟩ : ∃ wq, wq = w.alloc (.cells #[.slice none 0 0, .slice none 0 0, .slice none 0 0, .int .i64 0] 27) := ⟨_, rfl⟩
  have hbq : Below w.heap.size w wq := by rw [hwq]; exact (Below.refl _ _).alloc (Nat.le_refl _) _
  have hbr : Bw wq w.heap.size 27 dZ := by rw [hwq]; exact Bw.new _ _ _
  rw [← hwq]
  clear hwq
  refine (specDiskNew_o wq).mono ?_
  rintro e w1 ⟨rfl, hx1⟩
  replace hbr := hbr.under hx1
  replace hbq := bthen hbq hx1
  have hrl := hbr.lt
  clear hx1
  go_wp2_with fail
  obtain ⟨w2, hw2⟩ : ∃ x, x = w1.alloc (.cells #[.slice none 0 0, .slice none 0 0, .slice none 0 0, .int .i64 1] 27) := ⟨_, rfl⟩
  have hx2 : Below w1.heap.size w1 w2 := by rw [hw2]; exact (Below.refl _ _).alloc (Nat.le_refl _) _
  have hbd : Bw w2 w1.heap.size 27 [.slice none 0 0, .slice none 0 0, .slice none 0 0, .int .i64 1] := by rw [hw2]; exact Bw.new _ _ _
  rw [← hw2]
  obtain ⟨bd, hbdq⟩ : ∃ z, z = w1.heap.size := ⟨_, rfl⟩
  rw [← hbdq] at hbd ⊢
  obtain ⟨br, hbrq⟩ : ∃ z, z = w.heap.size := ⟨_, rfl⟩
  have HST : Hid (DSt w g br bd w2 [.slice none 0 0, .slice none 0 0, .slice none 0 0, .int .i64 1] ⟨[], [], [], 1⟩) := by
    rw [hbrq]
    exact ⟨hbd, hbr.under hx2, ⟨[], own_new _, fun b hb => by cases hb⟩, fit_new, HC.out.below (bthen hbq hx2), Turn.ofBelow (bthen hbq hx2)⟩
  have HPL : Hid (DPl w g br bd) := ⟨hgl, by omega, by have := hbq.size; omega, by omega⟩
  rw [← hbrq]
  clear hw2 hx2 hbd hbdq hbrq hbr hbq hrl hgl HC
  refine (l1Below_ok q HST.out.c).mono ?_
  rintro e w3 ⟨x, rfl, hx, hc3, hg3⟩
  have hx0 : 0 ≤ x := hx.1
  have hx100 : x ≤ 100 := by
    obtain ⟨_, _, h1, h2⟩ := hx
    by_cases h : 0 < q
    · have := h1 h; omega
    · have := h2 (by omega); omega
  replace HST := Hid.mk (HST.out.cur HPL.out hg3 hc3)
  clear hx hc3 hg3 hq
  go_wp2_with fail
  go_loopw [6] (fun i wr => ∃ (x : Int) (a0 a1 a2 : Option Addr) (n0 c0 n1 c1 n2 c2 : Nat) (z : Int) (m : MDisk), i = .int .i64 x ∧ 0 ≤ x ∧ x ≤ 100 ∧ Hid (Fam (100 - x).toNat m) ∧ Hid (DSt w g br bd wr [.slice a0 n0 c0, .slice a1 n1 c1, .slice a2 n2 c2, .int .i64 z] m)) (fun i _ => (intOf i).toNat)
  case atStart => exact ⟨x, none, none, none, 0, 0, 0, 0, 0, 0, 1, _, rfl, hx0, hx100, fam_new _, HST⟩
  case round =>
    clear HST hx0 hx100
    obtain ⟨x, a0, a1, a2, n0, c0, n1, c1, n2, c2, z, m, rfl, hx0, hx100, HFA, HST⟩ := hrel
    by_cases hlt : 0 < x
    · go_wp2_with fail
      refine (l2DrawName_ok HST.out.c).mono ?_
      rintro e w4 ⟨s, ⟨rfl, hs⟩, hc4, hg4⟩
      have hs20 := namesL_short s hs
      replace HST := Hid.mk (HST.out.cur HPL.out hg4 hc4)
      have HSN := Hid.mk hs
      have HKK : Hid ((100 - (x - 1)).toNat = (100 - x).toNat + 1) := by show _ = _; omega
      clear hs hc4 hg4
      go_wp2_with fail
      refine (l1Below_ok 10 HST.out.c).mono ?_
      rintro e w5 ⟨y, rfl, hy, hc5, hg5⟩
      have hy0 := hy.1
      have hy10 : y < 10 := hy.2.2.1 (by omega)
      replace HST := Hid.mk (HST.out.cur HPL.out hg5 hc5)
      clear hy hc5 hg5
      have hbd := HST.out.d
      have p0 := hbd.cell 0 _ rfl
      have p1 := hbd.cell 1 _ rfl
      have p2 := hbd.cell 2 _ rfl
      have p3 := hbd.cell 3 _ rfl
      have hs1 : s.size ≤ 1048576 := by omega
      have hs2 : s.size ≤ 9223372036854775807 := by omega
      have HRD := Hid.mk HST.out.read
      have HSM := Hid.mk HST.out.f.small
      have HFT := Hid.mk HST.out.f
      clear hbd
      have hcase : y = 0 ∨ y = 1 ∨ y = 2 ∨ y = 3 ∨ y = 4 ∨ y = 5 ∨ y = 6 ∨ y = 7 ∨ y = 8 ∨ y = 9 := by omega
      clear hy0 hy10
      rcases hcase with rfl | rfl | rfl | rfl | rfl | rfl | rfl | rfl | rfl | rfl
      · go_wp2_with fail
        refine (specCreate_o _ m s w5 HRD.out hs2 HSM.out hs1).mono ?_
        rintro e w6 ⟨cs6, rfl, ho6, hx6⟩
        obtain ⟨d0, k0, e0, d1, k1, e1, d2, k2, e2, z2, hc6⟩ := odisk_four ho6
        subst hc6
        have HN := Hid.mk (HST.out.put HPL.out rfl hx6 ho6 (fit_create HFT.out))
        have hbd := HST.out.d.under hx6
        clear p0 p1 p2 p3 ho6 hx6 HRD
        have p0 := hbd.cell 0 _ rfl
        have p1 := hbd.cell 1 _ rfl
        have p2 := hbd.cell 2 _ rfl
        have p3 := hbd.cell 3 _ rfl
        have f0 := hbd.free 0
        have f1 := hbd.free 1
        have f2 := hbd.free 2
        have f3 := hbd.free 3
        have l0 := hbd.lt
        clear hbd
        go_wp2_with fail
        go_roundw
        case rel => exact ⟨x - 1, d0, d1, d2, k0, e0, k1, e1, k2, e2, z2, _, rfl, by omega, by omega, (by rw [HKK.out]; exact Hid.mk (fam_create HFA.out HSN.out)), HN⟩
        case measure => simp [intOf]; omega
      · go_wp2_with fail
        refine (specCreate_o _ m s w5 HRD.out hs2 HSM.out hs1).mono ?_
        rintro e w6 ⟨cs6, rfl, ho6, hx6⟩
        obtain ⟨d0, k0, e0, d1, k1, e1, d2, k2, e2, z2, hc6⟩ := odisk_four ho6
        subst hc6
        have HN := Hid.mk (HST.out.put HPL.out rfl hx6 ho6 (fit_create HFT.out))
        have hbd := HST.out.d.under hx6
        clear p0 p1 p2 p3 ho6 hx6 HRD
        have p0 := hbd.cell 0 _ rfl
        have p1 := hbd.cell 1 _ rfl
        have p2 := hbd.cell 2 _ rfl
        have p3 := hbd.cell 3 _ rfl
        have f0 := hbd.free 0
        have f1 := hbd.free 1
        have f2 := hbd.free 2
        have f3 := hbd.free 3
        have l0 := hbd.lt
        clear hbd
        go_wp2_with fail
        go_roundw
        case rel => exact ⟨x - 1, d0, d1, d2, k0, e0, k1, e1, k2, e2, z2, _, rfl, by omega, by omega, (by rw [HKK.out]; exact Hid.mk (fam_create HFA.out HSN.out)), HN⟩
        case measure => simp [intOf]; omega
      · go_wp2_with fail
        refine (specCreate_o _ m s w5 HRD.out hs2 HSM.out hs1).mono ?_
        rintro e w6 ⟨cs6, rfl, ho6, hx6⟩
        obtain ⟨d0, k0, e0, d1, k1, e1, d2, k2, e2, z2, hc6⟩ := odisk_four ho6
        subst hc6
        have HN := Hid.mk (HST.out.put HPL.out rfl hx6 ho6 (fit_create HFT.out))
        have hbd := HST.out.d.under hx6
        clear p0 p1 p2 p3 ho6 hx6 HRD
        have p0 := hbd.cell 0 _ rfl
        have p1 := hbd.cell 1 _ rfl
        have p2 := hbd.cell 2 _ rfl
        have p3 := hbd.cell 3 _ rfl
        have f0 := hbd.free 0
        have f1 := hbd.free 1
        have f2 := hbd.free 2
        have f3 := hbd.free 3
        have l0 := hbd.lt
        clear hbd
        go_wp2_with fail
        go_roundw
        case rel => exact ⟨x - 1, d0, d1, d2, k0, e0, k1, e1, k2, e2, z2, _, rfl, by omega, by omega, (by rw [HKK.out]; exact Hid.mk (fam_create HFA.out HSN.out)), HN⟩
        case measure => simp [intOf]; omega
      · go_wp2_with fail
        refine wp_region_held_drew (S := fun W => True) (by kernel_rfl) (trivial) (fun hHeld => ?_)
        obtain ⟨wS, hwS⟩ : ∃ wS, wS = w5.drew := ⟨_, rfl⟩
        have HDS : Hid (DSt w g br bd wS [.slice a0 n0 c0, .slice a1 n1 c1, .slice a2 n2 c2, .int .i64 z] m) := by unfold Hid; rw [hwS]; exact HST.out.drew
        rw [← hwS]
        clear hwS p0 p1 p2 p3 HRD
        refine tk 1 qde9_24_14_1 (some 39) (v := ?v1) rfl rfl (by kernel_rfl) hHeld (by rfl) (fun _ _ _ h => h) (fun w h => ?y1) ?_; (case y1 => (try dsimp only at h); go_simp; try (with_reducible rfl)); try simp only [Act.put, sa, s0, s1]
        refine tk 2 qde9_24_14_2 (some 40) (v := ?v2) rfl rfl (by kernel_rfl) hHeld (by rfl) (fun _ _ _ h => h) (fun w h => ?y2) ?_; (case y2 => (try dsimp only at h); go_simp; try (with_reducible rfl)); try simp only [Act.put, sa, s0, s1]
        refine wpAnyH_ready (rs := [0, 3]) (by kernel_rfl) (by simp) ?_
        refine (AllReadyH.cons (o := qde9_24_14_0) rfl (fun K hK => ?_) (AllReadyH.cons (o := qde9_24_14_3) rfl (fun K hK => ?_) AllReadyH.nil))
        · go_simp
          have hD : DSt w g br bd wS [.slice a0 n0 c0, .slice a1 n1 c1, .slice a2 n2 c2, .int .i64 z] m := by first | exact HD3.out | exact HDS.out
          have p0 := hD.d.cell 0 _ rfl
          have p1 := hD.d.cell 1 _ rfl
          have p2 := hD.d.cell 2 _ rfl
          have p3 := hD.d.cell 3 _ rfl
          go_simp
          obtain ⟨wE0, hqL⟩ : ∃ x, x = wS := ⟨_, rfl⟩
          have HD0 : Hid (DSt w g br bd wE0 [.slice a0 n0 c0, .slice a1 n1 c1, .slice a2 n2 c2, .int .i64 z] m) := by unfold Hid; rw [hqL]; exact hD
          have hop0 : True := trivial
          (try rw [← hqL] at HOB)
          rw [← hqL]
          clear hqL p0 p1 p2 p3 hD
          refine hK.out _ _ (trivial) (fun hHeld => ?_)
          clear hK K
          try simp only [Act.put, sa, s0, s1]
          refine wpAnyH_ready (rs := [3]) (by kernel_rfl) (by simp) ?_
          refine (AllReadyH.cons (o := qde9_24_14_3) rfl (fun K hK => ?_) AllReadyH.nil)
          · go_simp
            have hD : DSt w g br bd wE0 [.slice a0 n0 c0, .slice a1 n1 c1, .slice a2 n2 c2, .int .i64 z] m := by first | exact HD0.out | exact HDS.out
            refine (l1Some_ok hD.c).mono ?_
            rintro e wE3 ⟨vb, rfl, bs, hb9, hbok, hob, hcx, hgx⟩
            obtain ⟨ab, cb, rfl⟩ := own_slice hob
            have HOB := Hid.mk hob
            clear hob
            have HD3 : Hid (DSt w g br bd wE3 [.slice a0 n0 c0, .slice a1 n1 c1, .slice a2 n2 c2, .int .i64 z] m) := hD.cur HPL.out hgx hcx
            clear hD hgx hcx
            go_wp2_with fail
            refine hK.out _ _ (trivial) (fun hHeld => ?_)
            clear hK K
            try simp only [Act.put, sa, s0, s1]
            refine wpAnyH_ready (rs := [4]) (by kernel_rfl) (by simp) ?_
            refine (AllReadyH.cons (o := qde9_24_14_4) rfl (fun K hK => ?_) AllReadyH.nil)
            · go_simp
              have HST : Hid (DSt w g br bd wE3 [.slice a0 n0 c0, .slice a1 n1 c1, .slice a2 n2 c2, .int .i64 z] m) := by first | exact HD3 | exact HD0
              refine (specAppend_o _ m s _ bs wE3 HST.out.read hs2 (ownB.read (e := 5) (F := _) ⟨own_base HOB.out (Nat.zero_le _), hbok, rfl⟩) HSM.out hs1 (by omega)).mono ?_
              rintro e wE4 ⟨cs6, F6, rfl, ho6, hg6, hx6⟩
              replace ho6 : ∃ F, oDisk wE4 cs6 _ F ∧ ∀ b, b ∈ F → wE3.heap.size ≤ b := ⟨F6, ho6, hg6⟩
              obtain ⟨d0, k0, e0, d1, k1, e1, d2, k2, e2, z2, hc6⟩ := odisk_four ho6
              subst hc6
              have HN := Hid.mk (HST.out.put HPL.out rfl hx6 ho6 (fit_append HFT.out))
              have HB6 := Hid.mk (HST.out.d.under hx6)
              clear ho6 hx6
              go_wp2_with fail
              refine hK.out _ _ (trivial) (fun hHeld => ?_)
              clear hK K
              try simp only [Act.put, sa, s0, s1]
              refine tk 5 qde9_24_14_5 (some 37) (v := ?v3) rfl rfl (by kernel_rfl) hHeld (by rfl) (fun _ _ _ h => h) (fun w h => ?y3) ?_; (case y3 => (try dsimp only at h); go_simp; try (with_reducible rfl)); try simp only [Act.put, sa, s0, s1]
              refine tk 6 qde9_24_14_6 (some 43) (v := ?v4) rfl rfl (by kernel_rfl) hHeld (by rfl) (fun _ _ _ h => h) (fun w h => ?y4) ?_; (case y4 => (try dsimp only at h); go_simp; try (with_reducible rfl)); try simp only [Act.put, sa, s0, s1]
              refine tk 7 qde9_24_14_7 (some 44) (v := ?v5) rfl rfl (by kernel_rfl) hHeld (by rfl) (fun _ _ _ h => h) (fun w h => ?y5) ?_; (case y5 => (try dsimp only at h); go_simp; try (with_reducible rfl)); try simp only [Act.put, sa, s0, s1]
              refine wpAnyH_ready (rs := [8]) (by kernel_rfl) (by simp) ?_
              refine (AllReadyH.cons (o := qde9_24_14_8) rfl (fun K hK => ?_) AllReadyH.nil)
              · skip
                have hbd := HB6.out
                have p0 := hbd.cell 0 _ rfl
                have p1 := hbd.cell 1 _ rfl
                have p2 := hbd.cell 2 _ rfl
                have p3 := hbd.cell 3 _ rfl
                have f0 := hbd.free 0
                have f1 := hbd.free 1
                have f2 := hbd.free 2
                have f3 := hbd.free 3
                have l0 := hbd.lt
                clear hbd
                go_simp
                refine hK.out _ _ (trivial) (fun hHeld => ?_)
                clear hK K
                try simp only [Act.put, sa, s0, s1]
                refine wpAnyH_done (by kernel_rfl) ?_ _
                clear p0 p1 p2 p3 f0 f1 f2 f3 l0
                go_wp2_with fail
                go_roundw
                case rel => exact ⟨x - 1, d0, d1, d2, k0, e0, k1, e1, k2, e2, z2, _, rfl, by omega, by omega, (by rw [HKK.out]; exact Hid.mk (fam_append HFA.out hb9)), HN⟩
                case measure => simp [intOf]; omega
        · go_simp
          have hD : DSt w g br bd wS [.slice a0 n0 c0, .slice a1 n1 c1, .slice a2 n2 c2, .int .i64 z] m := by first | exact HD0.out | exact HDS.out
          refine (l1Some_ok hD.c).mono ?_
          rintro e wE3 ⟨vb, rfl, bs, hb9, hbok, hob, hcx, hgx⟩
          obtain ⟨ab, cb, rfl⟩ := own_slice hob
          have HOB := Hid.mk hob
          clear hob
          have HD3 : Hid (DSt w g br bd wE3 [.slice a0 n0 c0, .slice a1 n1 c1, .slice a2 n2 c2, .int .i64 z] m) := hD.cur HPL.out hgx hcx
          clear hD hgx hcx
          go_wp2_with fail
          refine hK.out _ _ (trivial) (fun hHeld => ?_)
          clear hK K
          try simp only [Act.put, sa, s0, s1]
          refine wpAnyH_ready (rs := [0]) (by kernel_rfl) (by simp) ?_
          refine (AllReadyH.cons (o := qde9_24_14_0) rfl (fun K hK => ?_) AllReadyH.nil)
          · go_simp
            have hD : DSt w g br bd wE3 [.slice a0 n0 c0, .slice a1 n1 c1, .slice a2 n2 c2, .int .i64 z] m := by first | exact HD3.out | exact HDS.out
            have p0 := hD.d.cell 0 _ rfl
            have p1 := hD.d.cell 1 _ rfl
            have p2 := hD.d.cell 2 _ rfl
            have p3 := hD.d.cell 3 _ rfl
            go_simp
            obtain ⟨wE0, hqL⟩ : ∃ x, x = wE3 := ⟨_, rfl⟩
            have HD0 : Hid (DSt w g br bd wE0 [.slice a0 n0 c0, .slice a1 n1 c1, .slice a2 n2 c2, .int .i64 z] m) := by unfold Hid; rw [hqL]; exact hD
            have hop0 : True := trivial
            (try rw [← hqL] at HOB)
            rw [← hqL]
            clear hqL p0 p1 p2 p3 hD
            refine hK.out _ _ (trivial) (fun hHeld => ?_)
            clear hK K
            try simp only [Act.put, sa, s0, s1]
            refine wpAnyH_ready (rs := [4]) (by kernel_rfl) (by simp) ?_
            refine (AllReadyH.cons (o := qde9_24_14_4) rfl (fun K hK => ?_) AllReadyH.nil)
            · go_simp
              have HST : Hid (DSt w g br bd wE0 [.slice a0 n0 c0, .slice a1 n1 c1, .slice a2 n2 c2, .int .i64 z] m) := by first | exact HD3 | exact HD0
              refine (specAppend_o _ m s _ bs wE0 HST.out.read hs2 (ownB.read (e := 5) (F := _) ⟨own_base HOB.out (Nat.zero_le _), hbok, rfl⟩) HSM.out hs1 (by omega)).mono ?_
              rintro e wE4 ⟨cs6, F6, rfl, ho6, hg6, hx6⟩
              replace ho6 : ∃ F, oDisk wE4 cs6 _ F ∧ ∀ b, b ∈ F → wE0.heap.size ≤ b := ⟨F6, ho6, hg6⟩
              obtain ⟨d0, k0, e0, d1, k1, e1, d2, k2, e2, z2, hc6⟩ := odisk_four ho6
              subst hc6
              have HN := Hid.mk (HST.out.put HPL.out rfl hx6 ho6 (fit_append HFT.out))
              have HB6 := Hid.mk (HST.out.d.under hx6)
              clear ho6 hx6
              go_wp2_with fail
              refine hK.out _ _ (trivial) (fun hHeld => ?_)
              clear hK K
              try simp only [Act.put, sa, s0, s1]
              refine tk 5 qde9_24_14_5 (some 37) (v := ?v6) rfl rfl (by kernel_rfl) hHeld (by rfl) (fun _ _ _ h => h) (fun w h => ?y6) ?_; (case y6 => (try dsimp only at h); go_simp; try (with_reducible rfl)); try simp only [Act.put, sa, s0, s1]
              refine tk 6 qde9_24_14_6 (some 43) (v := ?v7) rfl rfl (by kernel_rfl) hHeld (by rfl) (fun _ _ _ h => h) (fun w h => ?y7) ?_; (case y7 => (try dsimp only at h); go_simp; try (with_reducible rfl)); try simp only [Act.put, sa, s0, s1]
              refine tk 7 qde9_24_14_7 (some 44) (v := ?v8) rfl rfl (by kernel_rfl) hHeld (by rfl) (fun _ _ _ h => h) (fun w h => ?y8) ?_; (case y8 => (try dsimp only at h); go_simp; try (with_reducible rfl)); try simp only [Act.put, sa, s0, s1]
              refine wpAnyH_ready (rs := [8]) (by kernel_rfl) (by simp) ?_
              refine (AllReadyH.cons (o := qde9_24_14_8) rfl (fun K hK => ?_) AllReadyH.nil)
              · skip
                have hbd := HB6.out
                have p0 := hbd.cell 0 _ rfl
                have p1 := hbd.cell 1 _ rfl
                have p2 := hbd.cell 2 _ rfl
                have p3 := hbd.cell 3 _ rfl
                have f0 := hbd.free 0
                have f1 := hbd.free 1
                have f2 := hbd.free 2
                have f3 := hbd.free 3
                have l0 := hbd.lt
                clear hbd
                go_simp
                refine hK.out _ _ (trivial) (fun hHeld => ?_)
                clear hK K
                try simp only [Act.put, sa, s0, s1]
                refine wpAnyH_done (by kernel_rfl) ?_ _
                clear p0 p1 p2 p3 f0 f1 f2 f3 l0
                go_wp2_with fail
                go_roundw
                case rel => exact ⟨x - 1, d0, d1, d2, k0, e0, k1, e1, k2, e2, z2, _, rfl, by omega, by omega, (by rw [HKK.out]; exact Hid.mk (fam_append HFA.out hb9)), HN⟩
                case measure => simp [intOf]; omega
      · go_wp2_with fail
        refine wp_region_held_drew (S := fun W => True) (by kernel_rfl) (trivial) (fun hHeld => ?_)
        obtain ⟨wS, hwS⟩ : ∃ wS, wS = w5.drew := ⟨_, rfl⟩
        have HDS : Hid (DSt w g br bd wS [.slice a0 n0 c0, .slice a1 n1 c1, .slice a2 n2 c2, .int .i64 z] m) := by unfold Hid; rw [hwS]; exact HST.out.drew
        rw [← hwS]
        clear hwS p0 p1 p2 p3 HRD
        refine tk 1 qde9_24_14_1 (some 39) (v := ?v9) rfl rfl (by kernel_rfl) hHeld (by rfl) (fun _ _ _ h => h) (fun w h => ?y9) ?_; (case y9 => (try dsimp only at h); go_simp; try (with_reducible rfl)); try simp only [Act.put, sa, s0, s1]
        refine tk 2 qde9_24_14_2 (some 40) (v := ?v10) rfl rfl (by kernel_rfl) hHeld (by rfl) (fun _ _ _ h => h) (fun w h => ?y10) ?_; (case y10 => (try dsimp only at h); go_simp; try (with_reducible rfl)); try simp only [Act.put, sa, s0, s1]
        refine wpAnyH_ready (rs := [0, 3]) (by kernel_rfl) (by simp) ?_
        refine (AllReadyH.cons (o := qde9_24_14_0) rfl (fun K hK => ?_) (AllReadyH.cons (o := qde9_24_14_3) rfl (fun K hK => ?_) AllReadyH.nil))
        · go_simp
          have hD : DSt w g br bd wS [.slice a0 n0 c0, .slice a1 n1 c1, .slice a2 n2 c2, .int .i64 z] m := by first | exact HD3.out | exact HDS.out
          have p0 := hD.d.cell 0 _ rfl
          have p1 := hD.d.cell 1 _ rfl
          have p2 := hD.d.cell 2 _ rfl
          have p3 := hD.d.cell 3 _ rfl
          go_simp
          obtain ⟨wE0, hqL⟩ : ∃ x, x = wS := ⟨_, rfl⟩
          have HD0 : Hid (DSt w g br bd wE0 [.slice a0 n0 c0, .slice a1 n1 c1, .slice a2 n2 c2, .int .i64 z] m) := by unfold Hid; rw [hqL]; exact hD
          have hop0 : True := trivial
          (try rw [← hqL] at HOB)
          rw [← hqL]
          clear hqL p0 p1 p2 p3 hD
          refine hK.out _ _ (trivial) (fun hHeld => ?_)
          clear hK K
          try simp only [Act.put, sa, s0, s1]
          refine wpAnyH_ready (rs := [3]) (by kernel_rfl) (by simp) ?_
          refine (AllReadyH.cons (o := qde9_24_14_3) rfl (fun K hK => ?_) AllReadyH.nil)
          · go_simp
            have hD : DSt w g br bd wE0 [.slice a0 n0 c0, .slice a1 n1 c1, .slice a2 n2 c2, .int .i64 z] m := by first | exact HD0.out | exact HDS.out
            refine (l1Some_ok hD.c).mono ?_
            rintro e wE3 ⟨vb, rfl, bs, hb9, hbok, hob, hcx, hgx⟩
            obtain ⟨ab, cb, rfl⟩ := own_slice hob
            have HOB := Hid.mk hob
            clear hob
            have HD3 : Hid (DSt w g br bd wE3 [.slice a0 n0 c0, .slice a1 n1 c1, .slice a2 n2 c2, .int .i64 z] m) := hD.cur HPL.out hgx hcx
            clear hD hgx hcx
            go_wp2_with fail
            refine hK.out _ _ (trivial) (fun hHeld => ?_)
            clear hK K
            try simp only [Act.put, sa, s0, s1]
            refine wpAnyH_ready (rs := [4]) (by kernel_rfl) (by simp) ?_
            refine (AllReadyH.cons (o := qde9_24_14_4) rfl (fun K hK => ?_) AllReadyH.nil)
            · go_simp
              have HST : Hid (DSt w g br bd wE3 [.slice a0 n0 c0, .slice a1 n1 c1, .slice a2 n2 c2, .int .i64 z] m) := by first | exact HD3 | exact HD0
              refine (specAppend_o _ m s _ bs wE3 HST.out.read hs2 (ownB.read (e := 5) (F := _) ⟨own_base HOB.out (Nat.zero_le _), hbok, rfl⟩) HSM.out hs1 (by omega)).mono ?_
              rintro e wE4 ⟨cs6, F6, rfl, ho6, hg6, hx6⟩
              replace ho6 : ∃ F, oDisk wE4 cs6 _ F ∧ ∀ b, b ∈ F → wE3.heap.size ≤ b := ⟨F6, ho6, hg6⟩
              obtain ⟨d0, k0, e0, d1, k1, e1, d2, k2, e2, z2, hc6⟩ := odisk_four ho6
              subst hc6
              have HN := Hid.mk (HST.out.put HPL.out rfl hx6 ho6 (fit_append HFT.out))
              have HB6 := Hid.mk (HST.out.d.under hx6)
              clear ho6 hx6
              go_wp2_with fail
              refine hK.out _ _ (trivial) (fun hHeld => ?_)
              clear hK K
              try simp only [Act.put, sa, s0, s1]
              refine tk 5 qde9_24_14_5 (some 37) (v := ?v11) rfl rfl (by kernel_rfl) hHeld (by rfl) (fun _ _ _ h => h) (fun w h => ?y11) ?_; (case y11 => (try dsimp only at h); go_simp; try (with_reducible rfl)); try simp only [Act.put, sa, s0, s1]
              refine tk 6 qde9_24_14_6 (some 43) (v := ?v12) rfl rfl (by kernel_rfl) hHeld (by rfl) (fun _ _ _ h => h) (fun w h => ?y12) ?_; (case y12 => (try dsimp only at h); go_simp; try (with_reducible rfl)); try simp only [Act.put, sa, s0, s1]
              refine tk 7 qde9_24_14_7 (some 44) (v := ?v13) rfl rfl (by kernel_rfl) hHeld (by rfl) (fun _ _ _ h => h) (fun w h => ?y13) ?_; (case y13 => (try dsimp only at h); go_simp; try (with_reducible rfl)); try simp only [Act.put, sa, s0, s1]
              refine wpAnyH_ready (rs := [8]) (by kernel_rfl) (by simp) ?_
              refine (AllReadyH.cons (o := qde9_24_14_8) rfl (fun K hK => ?_) AllReadyH.nil)
              · skip
                have hbd := HB6.out
                have p0 := hbd.cell 0 _ rfl
                have p1 := hbd.cell 1 _ rfl
                have p2 := hbd.cell 2 _ rfl
                have p3 := hbd.cell 3 _ rfl
                have f0 := hbd.free 0
                have f1 := hbd.free 1
                have f2 := hbd.free 2
                have f3 := hbd.free 3
                have l0 := hbd.lt
                clear hbd
                go_simp
                refine hK.out _ _ (trivial) (fun hHeld => ?_)
                clear hK K
                try simp only [Act.put, sa, s0, s1]
                refine wpAnyH_done (by kernel_rfl) ?_ _
                clear p0 p1 p2 p3 f0 f1 f2 f3 l0
                go_wp2_with fail
                go_roundw
                case rel => exact ⟨x - 1, d0, d1, d2, k0, e0, k1, e1, k2, e2, z2, _, rfl, by omega, by omega, (by rw [HKK.out]; exact Hid.mk (fam_append HFA.out hb9)), HN⟩
                case measure => simp [intOf]; omega
        · go_simp
          have hD : DSt w g br bd wS [.slice a0 n0 c0, .slice a1 n1 c1, .slice a2 n2 c2, .int .i64 z] m := by first | exact HD0.out | exact HDS.out
          refine (l1Some_ok hD.c).mono ?_
          rintro e wE3 ⟨vb, rfl, bs, hb9, hbok, hob, hcx, hgx⟩
          obtain ⟨ab, cb, rfl⟩ := own_slice hob
          have HOB := Hid.mk hob
          clear hob
          have HD3 : Hid (DSt w g br bd wE3 [.slice a0 n0 c0, .slice a1 n1 c1, .slice a2 n2 c2, .int .i64 z] m) := hD.cur HPL.out hgx hcx
          clear hD hgx hcx
          go_wp2_with fail
          refine hK.out _ _ (trivial) (fun hHeld => ?_)
          clear hK K
          try simp only [Act.put, sa, s0, s1]
          refine wpAnyH_ready (rs := [0]) (by kernel_rfl) (by simp) ?_
          refine (AllReadyH.cons (o := qde9_24_14_0) rfl (fun K hK => ?_) AllReadyH.nil)
          · go_simp
            have hD : DSt w g br bd wE3 [.slice a0 n0 c0, .slice a1 n1 c1, .slice a2 n2 c2, .int .i64 z] m := by first | exact HD3.out | exact HDS.out
            have p0 := hD.d.cell 0 _ rfl
            have p1 := hD.d.cell 1 _ rfl
            have p2 := hD.d.cell 2 _ rfl
            have p3 := hD.d.cell 3 _ rfl
            go_simp
            obtain ⟨wE0, hqL⟩ : ∃ x, x = wE3 := ⟨_, rfl⟩
            have HD0 : Hid (DSt w g br bd wE0 [.slice a0 n0 c0, .slice a1 n1 c1, .slice a2 n2 c2, .int .i64 z] m) := by unfold Hid; rw [hqL]; exact hD
            have hop0 : True := trivial
            (try rw [← hqL] at HOB)
            rw [← hqL]
            clear hqL p0 p1 p2 p3 hD
            refine hK.out _ _ (trivial) (fun hHeld => ?_)
            clear hK K
            try simp only [Act.put, sa, s0, s1]
            refine wpAnyH_ready (rs := [4]) (by kernel_rfl) (by simp) ?_
            refine (AllReadyH.cons (o := qde9_24_14_4) rfl (fun K hK => ?_) AllReadyH.nil)
            · go_simp
              have HST : Hid (DSt w g br bd wE0 [.slice a0 n0 c0, .slice a1 n1 c1, .slice a2 n2 c2, .int .i64 z] m) := by first | exact HD3 | exact HD0
              refine (specAppend_o _ m s _ bs wE0 HST.out.read hs2 (ownB.read (e := 5) (F := _) ⟨own_base HOB.out (Nat.zero_le _), hbok, rfl⟩) HSM.out hs1 (by omega)).mono ?_
              rintro e wE4 ⟨cs6, F6, rfl, ho6, hg6, hx6⟩
              replace ho6 : ∃ F, oDisk wE4 cs6 _ F ∧ ∀ b, b ∈ F → wE0.heap.size ≤ b := ⟨F6, ho6, hg6⟩
              obtain ⟨d0, k0, e0, d1, k1, e1, d2, k2, e2, z2, hc6⟩ := odisk_four ho6
              subst hc6
              have HN := Hid.mk (HST.out.put HPL.out rfl hx6 ho6 (fit_append HFT.out))
              have HB6 := Hid.mk (HST.out.d.under hx6)
              clear ho6 hx6
              go_wp2_with fail
              refine hK.out _ _ (trivial) (fun hHeld => ?_)
              clear hK K
              try simp only [Act.put, sa, s0, s1]
              refine tk 5 qde9_24_14_5 (some 37) (v := ?v14) rfl rfl (by kernel_rfl) hHeld (by rfl) (fun _ _ _ h => h) (fun w h => ?y14) ?_; (case y14 => (try dsimp only at h); go_simp; try (with_reducible rfl)); try simp only [Act.put, sa, s0, s1]
              refine tk 6 qde9_24_14_6 (some 43) (v := ?v15) rfl rfl (by kernel_rfl) hHeld (by rfl) (fun _ _ _ h => h) (fun w h => ?y15) ?_; (case y15 => (try dsimp only at h); go_simp; try (with_reducible rfl)); try simp only [Act.put, sa, s0, s1]
              refine tk 7 qde9_24_14_7 (some 44) (v := ?v16) rfl rfl (by kernel_rfl) hHeld (by rfl) (fun _ _ _ h => h) (fun w h => ?y16) ?_; (case y16 => (try dsimp only at h); go_simp; try (with_reducible rfl)); try simp only [Act.put, sa, s0, s1]
              refine wpAnyH_ready (rs := [8]) (by kernel_rfl) (by simp) ?_
              refine (AllReadyH.cons (o := qde9_24_14_8) rfl (fun K hK => ?_) AllReadyH.nil)
              · skip
                have hbd := HB6.out
                have p0 := hbd.cell 0 _ rfl
                have p1 := hbd.cell 1 _ rfl
                have p2 := hbd.cell 2 _ rfl
                have p3 := hbd.cell 3 _ rfl
                have f0 := hbd.free 0
                have f1 := hbd.free 1
                have f2 := hbd.free 2
                have f3 := hbd.free 3
                have l0 := hbd.lt
                clear hbd
                go_simp
                refine hK.out _ _ (trivial) (fun hHeld => ?_)
                clear hK K
                try simp only [Act.put, sa, s0, s1]
                refine wpAnyH_done (by kernel_rfl) ?_ _
                clear p0 p1 p2 p3 f0 f1 f2 f3 l0
                go_wp2_with fail
                go_roundw
                case rel => exact ⟨x - 1, d0, d1, d2, k0, e0, k1, e1, k2, e2, z2, _, rfl, by omega, by omega, (by rw [HKK.out]; exact Hid.mk (fam_append HFA.out hb9)), HN⟩
                case measure => simp [intOf]; omega
      · go_wp2_with fail
        refine (specSync_o _ m s w5 HRD.out hs2 HSM.out hs1).mono ?_
        rintro e w6 ⟨cs6, rfl, ho6, hx6⟩
        obtain ⟨d0, k0, e0, d1, k1, e1, d2, k2, e2, z2, hc6⟩ := odisk_four ho6
        subst hc6
        have HN := Hid.mk (HST.out.put HPL.out rfl hx6 ho6 (fit_sync HFT.out))
        have hbd := HST.out.d.under hx6
        clear p0 p1 p2 p3 ho6 hx6 HRD
        have p0 := hbd.cell 0 _ rfl
        have p1 := hbd.cell 1 _ rfl
        have p2 := hbd.cell 2 _ rfl
        have p3 := hbd.cell 3 _ rfl
        have f0 := hbd.free 0
        have f1 := hbd.free 1
        have f2 := hbd.free 2
        have f3 := hbd.free 3
        have l0 := hbd.lt
        clear hbd
        go_wp2_with fail
        go_roundw
        case rel => exact ⟨x - 1, d0, d1, d2, k0, e0, k1, e1, k2, e2, z2, _, rfl, by omega, by omega, (by rw [HKK.out]; exact Hid.mk (fam_sync HFA.out)), HN⟩
        case measure => simp [intOf]; omega
      · go_wp2_with fail
        refine (specSyncDir_o _ m w5 HRD.out HSM.out).mono ?_
        rintro e w6 ⟨cs6, rfl, ho6, hx6⟩
        obtain ⟨d0, k0, e0, d1, k1, e1, d2, k2, e2, z2, hc6⟩ := odisk_four ho6
        subst hc6
        have HN := Hid.mk (HST.out.put HPL.out rfl hx6 ho6 (fit_syncDir HFT.out))
        have hbd := HST.out.d.under hx6
        clear p0 p1 p2 p3 ho6 hx6 HRD
        have p0 := hbd.cell 0 _ rfl
        have p1 := hbd.cell 1 _ rfl
        have p2 := hbd.cell 2 _ rfl
        have p3 := hbd.cell 3 _ rfl
        have f0 := hbd.free 0
        have f1 := hbd.free 1
        have f2 := hbd.free 2
        have f3 := hbd.free 3
        have l0 := hbd.lt
        clear hbd
        go_wp2_with fail
        go_roundw
        case rel => exact ⟨x - 1, d0, d1, d2, k0, e0, k1, e1, k2, e2, z2, _, rfl, by omega, by omega, (by rw [HKK.out]; exact Hid.mk (fam_syncDir HFA.out)), HN⟩
        case measure => simp [intOf]; omega
      · go_wp2_with fail
        refine wp_region_held_drew (S := fun W => True) (by kernel_rfl) (trivial) (fun hHeld => ?_)
        obtain ⟨wS, hwS⟩ : ∃ wS, wS = w5.drew := ⟨_, rfl⟩
        have HDS : Hid (DSt w g br bd wS [.slice a0 n0 c0, .slice a1 n1 c1, .slice a2 n2 c2, .int .i64 z] m) := by unfold Hid; rw [hwS]; exact HST.out.drew
        rw [← hwS]
        clear hwS p0 p1 p2 p3 HRD
        refine tk 1 qde9_24_20_1 (some 64) (v := ?v17) rfl rfl (by kernel_rfl) hHeld (by rfl) (fun _ _ _ h => h) (fun w h => ?y17) ?_; (case y17 => (try dsimp only at h); go_simp; try (with_reducible rfl)); try simp only [Act.put, sa, s0, s1]
        refine tk 2 qde9_24_20_2 (some 65) (v := ?v18) rfl rfl (by kernel_rfl) hHeld (by rfl) (fun _ _ _ h => h) (fun w h => ?y18) ?_; (case y18 => (try dsimp only at h); go_simp; try (with_reducible rfl)); try simp only [Act.put, sa, s0, s1]
        refine wpAnyH_ready (rs := [0, 3]) (by kernel_rfl) (by simp) ?_
        refine (AllReadyH.cons (o := qde9_24_20_0) rfl (fun K hK => ?_) (AllReadyH.cons (o := qde9_24_20_3) rfl (fun K hK => ?_) AllReadyH.nil))
        · go_simp
          have hD : DSt w g br bd wS [.slice a0 n0 c0, .slice a1 n1 c1, .slice a2 n2 c2, .int .i64 z] m := by first | exact HD3.out | exact HDS.out
          have p0 := hD.d.cell 0 _ rfl
          have p1 := hD.d.cell 1 _ rfl
          have p2 := hD.d.cell 2 _ rfl
          have p3 := hD.d.cell 3 _ rfl
          go_simp
          obtain ⟨wE0, hqL⟩ : ∃ x, x = wS := ⟨_, rfl⟩
          have HD0 : Hid (DSt w g br bd wE0 [.slice a0 n0 c0, .slice a1 n1 c1, .slice a2 n2 c2, .int .i64 z] m) := by unfold Hid; rw [hqL]; exact hD
          have hop0 : True := trivial
          (try rw [← hqL] at HOB)
          rw [← hqL]
          clear hqL p0 p1 p2 p3 hD
          refine hK.out _ _ (trivial) (fun hHeld => ?_)
          clear hK K
          try simp only [Act.put, sa, s0, s1]
          refine wpAnyH_ready (rs := [3]) (by kernel_rfl) (by simp) ?_
          refine (AllReadyH.cons (o := qde9_24_20_3) rfl (fun K hK => ?_) AllReadyH.nil)
          · go_simp
            have hD : DSt w g br bd wE0 [.slice a0 n0 c0, .slice a1 n1 c1, .slice a2 n2 c2, .int .i64 z] m := by first | exact HD0.out | exact HDS.out
            refine (l2DrawName_ok hD.c).mono ?_
            rintro e wE3 ⟨t, ⟨rfl, ht⟩, hcx, hgx⟩
            have ht20 := namesL_short t ht
            have HTN := Hid.mk ht
            clear ht
            have HD3 : Hid (DSt w g br bd wE3 [.slice a0 n0 c0, .slice a1 n1 c1, .slice a2 n2 c2, .int .i64 z] m) := hD.cur HPL.out hgx hcx
            clear hD hgx hcx
            go_wp2_with fail
            refine hK.out _ _ (trivial) (fun hHeld => ?_)
            clear hK K
            try simp only [Act.put, sa, s0, s1]
            refine wpAnyH_ready (rs := [4]) (by kernel_rfl) (by simp) ?_
            refine (AllReadyH.cons (o := qde9_24_20_4) rfl (fun K hK => ?_) AllReadyH.nil)
            · go_simp
              have HST : Hid (DSt w g br bd wE3 [.slice a0 n0 c0, .slice a1 n1 c1, .slice a2 n2 c2, .int .i64 z] m) := by first | exact HD3 | exact HD0
              refine (specRename_o _ m s t wE3 HST.out.read hs2 (by omega) HSM.out hs1 (by omega)).mono ?_
              rintro e wE4 ⟨cs6, rfl, ho6, hx6⟩
              obtain ⟨d0, k0, e0, d1, k1, e1, d2, k2, e2, z2, hc6⟩ := odisk_four ho6
              subst hc6
              have HN := Hid.mk (HST.out.put HPL.out rfl hx6 ho6 (fit_rename HFT.out))
              have HB6 := Hid.mk (HST.out.d.under hx6)
              clear ho6 hx6
              go_wp2_with fail
              refine hK.out _ _ (trivial) (fun hHeld => ?_)
              clear hK K
              try simp only [Act.put, sa, s0, s1]
              refine tk 5 qde9_24_20_5 (some 62) (v := ?v19) rfl rfl (by kernel_rfl) hHeld (by rfl) (fun _ _ _ h => h) (fun w h => ?y19) ?_; (case y19 => (try dsimp only at h); go_simp; try (with_reducible rfl)); try simp only [Act.put, sa, s0, s1]
              refine tk 6 qde9_24_20_6 (some 68) (v := ?v20) rfl rfl (by kernel_rfl) hHeld (by rfl) (fun _ _ _ h => h) (fun w h => ?y20) ?_; (case y20 => (try dsimp only at h); go_simp; try (with_reducible rfl)); try simp only [Act.put, sa, s0, s1]
              refine tk 7 qde9_24_20_7 (some 69) (v := ?v21) rfl rfl (by kernel_rfl) hHeld (by rfl) (fun _ _ _ h => h) (fun w h => ?y21) ?_; (case y21 => (try dsimp only at h); go_simp; try (with_reducible rfl)); try simp only [Act.put, sa, s0, s1]
              refine wpAnyH_ready (rs := [8]) (by kernel_rfl) (by simp) ?_
              refine (AllReadyH.cons (o := qde9_24_20_8) rfl (fun K hK => ?_) AllReadyH.nil)
              · skip
                have hbd := HB6.out
                have p0 := hbd.cell 0 _ rfl
                have p1 := hbd.cell 1 _ rfl
                have p2 := hbd.cell 2 _ rfl
                have p3 := hbd.cell 3 _ rfl
                have f0 := hbd.free 0
                have f1 := hbd.free 1
                have f2 := hbd.free 2
                have f3 := hbd.free 3
                have l0 := hbd.lt
                clear hbd
                go_simp
                refine hK.out _ _ (trivial) (fun hHeld => ?_)
                clear hK K
                try simp only [Act.put, sa, s0, s1]
                refine wpAnyH_done (by kernel_rfl) ?_ _
                clear p0 p1 p2 p3 f0 f1 f2 f3 l0
                go_wp2_with fail
                go_roundw
                case rel => exact ⟨x - 1, d0, d1, d2, k0, e0, k1, e1, k2, e2, z2, _, rfl, by omega, by omega, (by rw [HKK.out]; exact Hid.mk (fam_rename HFA.out HTN.out)), HN⟩
                case measure => simp [intOf]; omega
        · go_simp
          have hD : DSt w g br bd wS [.slice a0 n0 c0, .slice a1 n1 c1, .slice a2 n2 c2, .int .i64 z] m := by first | exact HD0.out | exact HDS.out
          refine (l2DrawName_ok hD.c).mono ?_
          rintro e wE3 ⟨t, ⟨rfl, ht⟩, hcx, hgx⟩
          have ht20 := namesL_short t ht
          have HTN := Hid.mk ht
          clear ht
          have HD3 : Hid (DSt w g br bd wE3 [.slice a0 n0 c0, .slice a1 n1 c1, .slice a2 n2 c2, .int .i64 z] m) := hD.cur HPL.out hgx hcx
          clear hD hgx hcx
          go_wp2_with fail
          refine hK.out _ _ (trivial) (fun hHeld => ?_)
          clear hK K
          try simp only [Act.put, sa, s0, s1]
          refine wpAnyH_ready (rs := [0]) (by kernel_rfl) (by simp) ?_
          refine (AllReadyH.cons (o := qde9_24_20_0) rfl (fun K hK => ?_) AllReadyH.nil)
          · go_simp
            have hD : DSt w g br bd wE3 [.slice a0 n0 c0, .slice a1 n1 c1, .slice a2 n2 c2, .int .i64 z] m := by first | exact HD3.out | exact HDS.out
            have p0 := hD.d.cell 0 _ rfl
            have p1 := hD.d.cell 1 _ rfl
            have p2 := hD.d.cell 2 _ rfl
            have p3 := hD.d.cell 3 _ rfl
            go_simp
            obtain ⟨wE0, hqL⟩ : ∃ x, x = wE3 := ⟨_, rfl⟩
            have HD0 : Hid (DSt w g br bd wE0 [.slice a0 n0 c0, .slice a1 n1 c1, .slice a2 n2 c2, .int .i64 z] m) := by unfold Hid; rw [hqL]; exact hD
            have hop0 : True := trivial
            (try rw [← hqL] at HOB)
            rw [← hqL]
            clear hqL p0 p1 p2 p3 hD
            refine hK.out _ _ (trivial) (fun hHeld => ?_)
            clear hK K
            try simp only [Act.put, sa, s0, s1]
            refine wpAnyH_ready (rs := [4]) (by kernel_rfl) (by simp) ?_
            refine (AllReadyH.cons (o := qde9_24_20_4) rfl (fun K hK => ?_) AllReadyH.nil)
            · go_simp
              have HST : Hid (DSt w g br bd wE0 [.slice a0 n0 c0, .slice a1 n1 c1, .slice a2 n2 c2, .int .i64 z] m) := by first | exact HD3 | exact HD0
              refine (specRename_o _ m s t wE0 HST.out.read hs2 (by omega) HSM.out hs1 (by omega)).mono ?_
              rintro e wE4 ⟨cs6, rfl, ho6, hx6⟩
              obtain ⟨d0, k0, e0, d1, k1, e1, d2, k2, e2, z2, hc6⟩ := odisk_four ho6
              subst hc6
              have HN := Hid.mk (HST.out.put HPL.out rfl hx6 ho6 (fit_rename HFT.out))
              have HB6 := Hid.mk (HST.out.d.under hx6)
              clear ho6 hx6
              go_wp2_with fail
              refine hK.out _ _ (trivial) (fun hHeld => ?_)
              clear hK K
              try simp only [Act.put, sa, s0, s1]
              refine tk 5 qde9_24_20_5 (some 62) (v := ?v22) rfl rfl (by kernel_rfl) hHeld (by rfl) (fun _ _ _ h => h) (fun w h => ?y22) ?_; (case y22 => (try dsimp only at h); go_simp; try (with_reducible rfl)); try simp only [Act.put, sa, s0, s1]
              refine tk 6 qde9_24_20_6 (some 68) (v := ?v23) rfl rfl (by kernel_rfl) hHeld (by rfl) (fun _ _ _ h => h) (fun w h => ?y23) ?_; (case y23 => (try dsimp only at h); go_simp; try (with_reducible rfl)); try simp only [Act.put, sa, s0, s1]
              refine tk 7 qde9_24_20_7 (some 69) (v := ?v24) rfl rfl (by kernel_rfl) hHeld (by rfl) (fun _ _ _ h => h) (fun w h => ?y24) ?_; (case y24 => (try dsimp only at h); go_simp; try (with_reducible rfl)); try simp only [Act.put, sa, s0, s1]
              refine wpAnyH_ready (rs := [8]) (by kernel_rfl) (by simp) ?_
              refine (AllReadyH.cons (o := qde9_24_20_8) rfl (fun K hK => ?_) AllReadyH.nil)
              · skip
                have hbd := HB6.out
                have p0 := hbd.cell 0 _ rfl
                have p1 := hbd.cell 1 _ rfl
                have p2 := hbd.cell 2 _ rfl
                have p3 := hbd.cell 3 _ rfl
                have f0 := hbd.free 0
                have f1 := hbd.free 1
                have f2 := hbd.free 2
                have f3 := hbd.free 3
                have l0 := hbd.lt
                clear hbd
                go_simp
                refine hK.out _ _ (trivial) (fun hHeld => ?_)
                clear hK K
                try simp only [Act.put, sa, s0, s1]
                refine wpAnyH_done (by kernel_rfl) ?_ _
                clear p0 p1 p2 p3 f0 f1 f2 f3 l0
                go_wp2_with fail
                go_roundw
                case rel => exact ⟨x - 1, d0, d1, d2, k0, e0, k1, e1, k2, e2, z2, _, rfl, by omega, by omega, (by rw [HKK.out]; exact Hid.mk (fam_rename HFA.out HTN.out)), HN⟩
                case measure => simp [intOf]; omega
      · go_wp2_with fail
        refine (specRemove_o _ m s w5 HRD.out hs2 HSM.out hs1).mono ?_
        rintro e w6 ⟨cs6, rfl, ho6, hx6⟩
        obtain ⟨d0, k0, e0, d1, k1, e1, d2, k2, e2, z2, hc6⟩ := odisk_four ho6
        subst hc6
        have HN := Hid.mk (HST.out.put HPL.out rfl hx6 ho6 (fit_remove HFT.out))
        have hbd := HST.out.d.under hx6
        clear p0 p1 p2 p3 ho6 hx6 HRD
        have p0 := hbd.cell 0 _ rfl
        have p1 := hbd.cell 1 _ rfl
        have p2 := hbd.cell 2 _ rfl
        have p3 := hbd.cell 3 _ rfl
        have f0 := hbd.free 0
        have f1 := hbd.free 1
        have f2 := hbd.free 2
        have f3 := hbd.free 3
        have l0 := hbd.lt
        clear hbd
        go_wp2_with fail
        go_roundw
        case rel => exact ⟨x - 1, d0, d1, d2, k0, e0, k1, e1, k2, e2, z2, _, rfl, by omega, by omega, (by rw [HKK.out]; exact Hid.mk (fam_remove HFA.out)), HN⟩
        case measure => simp [intOf]; omega
      · go_wp2_with fail
        refine wp_region_held_drew (S := fun W => True) (by kernel_rfl) (trivial) (fun hHeld => ?_)
        obtain ⟨wS, hwS⟩ : ∃ wS, wS = w5.drew := ⟨_, rfl⟩
        have HDS : Hid (DSt w g br bd wS [.slice a0 n0 c0, .slice a1 n1 c1, .slice a2 n2 c2, .int .i64 z] m) := by unfold Hid; rw [hwS]; exact HST.out.drew
        rw [← hwS]
        clear hwS p0 p1 p2 p3 HRD
        refine tk 1 qde9_24_7_1 (some 21) (v := ?v25) rfl rfl (by kernel_rfl) hHeld (by rfl) (fun _ _ _ h => h) (fun w h => ?y25) ?_; (case y25 => (try dsimp only at h); go_simp; try (with_reducible rfl)); try simp only [Act.put, sa, s0, s1]
        refine wpAnyH_ready (rs := [0, 2]) (by kernel_rfl) (by simp) ?_
        refine (AllReadyH.cons (o := qde9_24_7_0) rfl (fun K hK => ?_) (AllReadyH.cons (o := qde9_24_7_2) rfl (fun K hK => ?_) AllReadyH.nil))
        · go_simp
          have hD : DSt w g br bd wS [.slice a0 n0 c0, .slice a1 n1 c1, .slice a2 n2 c2, .int .i64 z] m := by first | exact HD2.out | exact HDS.out
          have p0 := hD.d.cell 0 _ rfl
          have p1 := hD.d.cell 1 _ rfl
          have p2 := hD.d.cell 2 _ rfl
          have p3 := hD.d.cell 3 _ rfl
          go_simp
          obtain ⟨wE0, hqL⟩ : ∃ x, x = wS := ⟨_, rfl⟩
          have HD0 : Hid (DSt w g br bd wE0 [.slice a0 n0 c0, .slice a1 n1 c1, .slice a2 n2 c2, .int .i64 z] m) := by unfold Hid; rw [hqL]; exact hD
          have hop0 : True := trivial
          (try rw [← hqL] at HOB)
          rw [← hqL]
          clear hqL p0 p1 p2 p3 hD
          refine hK.out _ _ (trivial) (fun hHeld => ?_)
          clear hK K
          try simp only [Act.put, sa, s0, s1]
          refine wpAnyH_ready (rs := [2]) (by kernel_rfl) (by simp) ?_
          refine (AllReadyH.cons (o := qde9_24_7_2) rfl (fun K hK => ?_) AllReadyH.nil)
          · go_simp
            have hD : DSt w g br bd wE0 [.slice a0 n0 c0, .slice a1 n1 c1, .slice a2 n2 c2, .int .i64 z] m := by first | exact HD0.out | exact HDS.out
            refine (l1Below_ok 4 hD.c).mono ?_
            rintro e wE2 ⟨kf, rfl, hkf, hcx, hgx⟩
            have hkf4 : 0 ≤ kf ∧ kf < 16777216 := ⟨hkf.1, hkf.2.1⟩
            clear hkf
            have HD2 : Hid (DSt w g br bd wE2 [.slice a0 n0 c0, .slice a1 n1 c1, .slice a2 n2 c2, .int .i64 z] m) := hD.cur HPL.out hgx hcx
            clear hD hgx hcx
            go_wp2_with fail
            refine hK.out _ _ (trivial) (fun hHeld => ?_)
            clear hK K
            try simp only [Act.put, sa, s0, s1]
            refine wpAnyH_ready (rs := [3]) (by kernel_rfl) (by simp) ?_
            refine (AllReadyH.cons (o := qde9_24_7_3) rfl (fun K hK => ?_) AllReadyH.nil)
            · go_simp
              have HST : Hid (DSt w g br bd wE2 [.slice a0 n0 c0, .slice a1 n1 c1, .slice a2 n2 c2, .int .i64 z] m) := by first | exact HD2 | exact HD0
              refine (specFall_o _ m kf wE2 HST.out.read (WalkArith.wf_i64 (by omega)) HSM.out).mono ?_
              rintro e wE3 ⟨cs6, rfl, ho6, hx6⟩
              obtain ⟨d0, k0, e0, d1, k1, e1, d2, k2, e2, z2, hc6⟩ := odisk_four ho6
              subst hc6
              have HN := Hid.mk (HST.out.put HPL.out rfl hx6 ho6 (fit_fall HFT.out))
              have HB6 := Hid.mk (HST.out.d.under hx6)
              clear ho6 hx6
              go_wp2_with fail
              refine hK.out _ _ (trivial) (fun hHeld => ?_)
              clear hK K
              try simp only [Act.put, sa, s0, s1]
              refine wpAnyH_ready (rs := [4]) (by kernel_rfl) (by simp) ?_
              refine (AllReadyH.cons (o := qde9_24_7_4) rfl (fun K hK => ?_) AllReadyH.nil)
              · skip
                have hbd := HB6.out
                have p0 := hbd.cell 0 _ rfl
                have p1 := hbd.cell 1 _ rfl
                have p2 := hbd.cell 2 _ rfl
                have p3 := hbd.cell 3 _ rfl
                have f0 := hbd.free 0
                have f1 := hbd.free 1
                have f2 := hbd.free 2
                have f3 := hbd.free 3
                have l0 := hbd.lt
                clear hbd
                go_simp
                refine hK.out _ _ (trivial) (fun hHeld => ?_)
                clear hK K
                try simp only [Act.put, sa, s0, s1]
                refine wpAnyH_done (by kernel_rfl) ?_ _
                clear p0 p1 p2 p3 f0 f1 f2 f3 l0
                go_wp2_with fail
                go_roundw
                case rel => exact ⟨x - 1, d0, d1, d2, k0, e0, k1, e1, k2, e2, z2, _, rfl, by omega, by omega, (by rw [HKK.out]; exact Hid.mk (fam_fall HFA.out)), HN⟩
                case measure => simp [intOf]; omega
        · go_simp
          have hD : DSt w g br bd wS [.slice a0 n0 c0, .slice a1 n1 c1, .slice a2 n2 c2, .int .i64 z] m := by first | exact HD0.out | exact HDS.out
          refine (l1Below_ok 4 hD.c).mono ?_
          rintro e wE2 ⟨kf, rfl, hkf, hcx, hgx⟩
          have hkf4 : 0 ≤ kf ∧ kf < 16777216 := ⟨hkf.1, hkf.2.1⟩
          clear hkf
          have HD2 : Hid (DSt w g br bd wE2 [.slice a0 n0 c0, .slice a1 n1 c1, .slice a2 n2 c2, .int .i64 z] m) := hD.cur HPL.out hgx hcx
          clear hD hgx hcx
          go_wp2_with fail
          refine hK.out _ _ (trivial) (fun hHeld => ?_)
          clear hK K
          try simp only [Act.put, sa, s0, s1]
          refine wpAnyH_ready (rs := [0]) (by kernel_rfl) (by simp) ?_
          refine (AllReadyH.cons (o := qde9_24_7_0) rfl (fun K hK => ?_) AllReadyH.nil)
          · go_simp
            have hD : DSt w g br bd wE2 [.slice a0 n0 c0, .slice a1 n1 c1, .slice a2 n2 c2, .int .i64 z] m := by first | exact HD2.out | exact HDS.out
            have p0 := hD.d.cell 0 _ rfl
            have p1 := hD.d.cell 1 _ rfl
            have p2 := hD.d.cell 2 _ rfl
            have p3 := hD.d.cell 3 _ rfl
            go_simp
            obtain ⟨wE0, hqL⟩ : ∃ x, x = wE2 := ⟨_, rfl⟩
            have HD0 : Hid (DSt w g br bd wE0 [.slice a0 n0 c0, .slice a1 n1 c1, .slice a2 n2 c2, .int .i64 z] m) := by unfold Hid; rw [hqL]; exact hD
            have hop0 : True := trivial
            (try rw [← hqL] at HOB)
            rw [← hqL]
            clear hqL p0 p1 p2 p3 hD
            refine hK.out _ _ (trivial) (fun hHeld => ?_)
            clear hK K
            try simp only [Act.put, sa, s0, s1]
            refine wpAnyH_ready (rs := [3]) (by kernel_rfl) (by simp) ?_
            refine (AllReadyH.cons (o := qde9_24_7_3) rfl (fun K hK => ?_) AllReadyH.nil)
            · go_simp
              have HST : Hid (DSt w g br bd wE0 [.slice a0 n0 c0, .slice a1 n1 c1, .slice a2 n2 c2, .int .i64 z] m) := by first | exact HD2 | exact HD0
              refine (specFall_o _ m kf wE0 HST.out.read (WalkArith.wf_i64 (by omega)) HSM.out).mono ?_
              rintro e wE3 ⟨cs6, rfl, ho6, hx6⟩
              obtain ⟨d0, k0, e0, d1, k1, e1, d2, k2, e2, z2, hc6⟩ := odisk_four ho6
              subst hc6
              have HN := Hid.mk (HST.out.put HPL.out rfl hx6 ho6 (fit_fall HFT.out))
              have HB6 := Hid.mk (HST.out.d.under hx6)
              clear ho6 hx6
              go_wp2_with fail
              refine hK.out _ _ (trivial) (fun hHeld => ?_)
              clear hK K
              try simp only [Act.put, sa, s0, s1]
              refine wpAnyH_ready (rs := [4]) (by kernel_rfl) (by simp) ?_
              refine (AllReadyH.cons (o := qde9_24_7_4) rfl (fun K hK => ?_) AllReadyH.nil)
              · skip
                have hbd := HB6.out
                have p0 := hbd.cell 0 _ rfl
                have p1 := hbd.cell 1 _ rfl
                have p2 := hbd.cell 2 _ rfl
                have p3 := hbd.cell 3 _ rfl
                have f0 := hbd.free 0
                have f1 := hbd.free 1
                have f2 := hbd.free 2
                have f3 := hbd.free 3
                have l0 := hbd.lt
                clear hbd
                go_simp
                refine hK.out _ _ (trivial) (fun hHeld => ?_)
                clear hK K
                try simp only [Act.put, sa, s0, s1]
                refine wpAnyH_done (by kernel_rfl) ?_ _
                clear p0 p1 p2 p3 f0 f1 f2 f3 l0
                go_wp2_with fail
                go_roundw
                case rel => exact ⟨x - 1, d0, d1, d2, k0, e0, k1, e1, k2, e2, z2, _, rfl, by omega, by omega, (by rw [HKK.out]; exact Hid.mk (fam_fall HFA.out)), HN⟩
                case measure => simp [intOf]; omega
    · have HFX : Hid (Fam 100 m) := HFA.out.mono (by omega)
      have hbd := HST.out.d
      have hbr := HST.out.r
      have p0 := hbd.cell 0 _ rfl
      have p1 := hbd.cell 1 _ rfl
      have p2 := hbd.cell 2 _ rfl
      have p3 := hbd.cell 3 _ rfl
      have q0 := hbr.cell 0 _ rfl
      have q1 := hbr.cell 1 _ rfl
      have q2 := hbr.cell 2 _ rfl
      have q3 := hbr.cell 3 _ rfl
      have e0 := hbr.free 0
      have e1 := hbr.free 1
      have e2 := hbr.free 2
      have e3 := hbr.free 3
      have l0 := hbr.lt
      have HP := Hid.mk (fun W (hT : Turn [br] wr W) => (show (∃ F, oDisk W [.slice a0 n0 c0, .slice a1 n1 c1, .slice a2 n2 c2, .int .i64 z] m F ∧ ∀ b, b ∈ F → w.heap.size ≤ b) ∧ Fit m ∧ CurOk W g ∧ Turn [g] w W from HST.out.leave HPL.out hT))
      clear hbd hbr HST
      go_wp2_with fail
      refine bodyPost_ret (v := .agg #[.slice a0 n0 c0, .slice a1 n1 c1, .slice a2 n2 c2, .int .i64 z]) (by simp [results, Try.results24, go_sem, *]) rfl ⟨[.slice a0 n0 c0, .slice a1 n1 c1, .slice a2 n2 c2, .int .i64 z], rfl, m, HFX.out, HP.out _ ?_⟩
      exact turn4 _ _ _ _ _ _

end Go.Proofs.Ytmbobjhplkpfoaa
