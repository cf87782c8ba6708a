/-
  The program's ParseMan: at any text.
-/
import Derived.Test.YtnohnkcijomdjaaGreatDoorWrdF
import Derived.Test.YtnohnkcijomdjaaGreatDoorWrdY
namespace Go.Proofs.YtnohnkcijomdjaaGreatDoor
open Go.RowKit Go.Maps Go.Shelf
set_option linter.unusedVariables false
set_option linter.unusedSimpArgs false
set_option maxRecDepth 10000

/-- What the library reads of its own: its tables and two errors, as they are laid. -/
structure PrsT (w : World) : Prop where
  sp : Lib.TabIs Tryz.prog w "strings.asciiSpace" .u8 Lib.asciiSpaceTab
  spl : layFields_ren.g 0 < w.heap.size
  wh : Lib.WhiteTab (layFields_ren.g 6) w
  er : Ers w
  pw : Pow w
theorem PrsT.below {w w' : World} (h : PrsT w) (hb : Below w.heap.size w w') : PrsT w' :=
  ⟨var?_below hb (by kernel_rfl) h.spl h.sp, Nat.lt_of_lt_of_le h.spl hb.size, WhiteTab_below h.wh hb, h.er.below hb, h.pw.below hb⟩
theorem PrsT.size {w : World} (h : PrsT w) : 0 < w.heap.size := Nat.lt_of_le_of_lt (Nat.zero_le _) h.spl

theorem fields_any (s : ByteArray) (w : World) (hs : s.size ≤ 1048576) (hT : PrsT w) :
    Calls Tryz.prog 21 #[.string s] w fun e w' => ∃ A, e = .returned (.slice (some ⟨A, 0, none⟩) (Lib.fieldsD s.data.toList).length (Lib.fieldsD s.data.toList).length) ∧ A < w'.heap.size ∧ Below w.heap.size w w' ∧
      ∀ (j : Nat) (x : List UInt8), (Lib.fieldsD s.data.toList)[j]? = some x → w'.cell? ⟨A, j, none⟩ = some (.string (strB x)) := by
  refine (Any.strings_Fields_any layFields (by kernel_rfl) (by kernel_rfl) (by kernel_rfl) s w (by omega) hT.sp hT.wh).mono ?_
  rintro e w1 ⟨A, rfl, hA, ho, hb⟩
  have hlt : A < w1.heap.size := by
    rcases ho.2 with ⟨hn, _⟩ | ⟨g, cap, cur, he, _, hg, _⟩
    · cases hn
    · injection he with he _ _; injection he with he; injection he with he; subst he; exact (Array.getElem?_eq_some_iff.1 hg).1
  refine ⟨A, rfl, hlt, hb, fun j x hx => ?_⟩
  have := ho.cells (g := A) rfl j (.string (strB x)) (by rw [List.getElem?_map, hx]; rfl)
  have e2 : ((⟨A, 0, none⟩ : Addr).add j) = ⟨A, j, none⟩ := (by simp [Addr.add]; exact fun h => h.symm)
  rwa [e2] at this

theorem rd_start {w : World} {A R : Nat} {l : List (List UInt8)} {n : Nat} (hl : ∀ x, x ∈ l → x.length ≤ n) (hn : n ≤ 1048576) (hb : Bw w A 54 [.slice (some ⟨R, 0, none⟩) l.length l.length, .bool false]) (hR : R < A)
    (hc : ∀ (j : Nat) (x : List UInt8), l[j]? = some x → w.cell? ⟨R, j, none⟩ = some (.string (strB x))) : WdR w A l false := by
  have hA := hb.lt
  refine ⟨_, _, hb, Nat.le_refl _, fun j x hx => ⟨Nat.le_trans (hl x (List.mem_of_getElem? hx)) hn, R, 0, rfl, hR, by omega, ?_⟩⟩
  rw [Nat.zero_add]
  exact hc j x hx

set_option maxHeartbeats 4000000 in
theorem implParseMan_c (s : ByteArray) (w : World) (hs : s.size ≤ 1048576) (hT : PrsT w) :
    Calls Tryz.prog 6 #[.string s] w fun e w' => ∃ (cs : List Value) (F : List Nat), e = .returned (.tuple #[.agg cs.toArray, .bool (parseP s).2]) ∧ oManifest w' cs (parseP s).1 F ∧ F.Nodup ∧ (∀ b, b ∈ F → w.heap.size ≤ b) ∧ Below w.heap.size w w' := by
  have HT := Hid.mk hT
  have HS := Hid.mk hs
  have hsl : s.data.toList.length ≤ 1048576 := by rw [size_list]; exact hs
  have HFL : Hid (∀ x, x ∈ Lib.fieldsD s.data.toList → x.length ≤ s.data.toList.length) := fun x hx => fields_len hx
  have HFC : Hid ((Lib.fieldsD s.data.toList).length ≤ 1048576) := Nat.le_trans (fields_count _) hsl
  have HFS : Hid (sumL (Lib.fieldsD s.data.toList) ≤ 1048576) := Nat.le_trans (fields_sum _) hsl
  have HSL := Hid.mk hsl
  have HPB : Hid ((rdMan (Lib.fieldsD s.data.toList)).2 = true → parseP s = (⟨0, 0, []⟩, false)) := fun h => parse_bad h
  have HPO : Hid (manTextP (rdMan (Lib.fieldsD s.data.toList)).1 ≠ s → parseP s = (⟨0, 0, []⟩, false)) := fun h => parse_other h
  have HPS : Hid ((rdMan (Lib.fieldsD s.data.toList)).2 = false → manTextP (rdMan (Lib.fieldsD s.data.toList)).1 = s → parseP s = ((rdMan (Lib.fieldsD s.data.toList)).1, true)) := fun h1 h2 => parse_same h1 h2
  have HMW : Hid ((rdMan (Lib.fieldsD s.data.toList)).2 = false → wManifest (rdMan (Lib.fieldsD s.data.toList)).1 ≤ sumL (Lib.fieldsD s.data.toList)) := fun h => man_weight _ h
  have hF := Hid.mk (fun W hW => fields_any s W hs hW)
  have hx1 : (Lit.int .i64 (rdMan (Lib.fieldsD s.data.toList)).1.fNext).wf = true := numbP_wf _
  have hx2 : (Lit.int .i64 (rdMan (Lib.fieldsD s.data.toList)).1.fLog).wf = true := numbP_wf _
  have HX := Hid.mk (And.intro hx1 hx2)
  have HMA := Hid.mk (fun A W h1 h2 h3 h4 h5 => manifest_any A (Lib.fieldsD s.data.toList) W h1 h2 h3 h4 h5 HFC.out)
  generalize Lib.fieldsD s.data.toList = l at *
  obtain ⟨m, hm⟩ : ∃ m, m = (rdMan l).1 := ⟨_, rfl⟩
  obtain ⟨bad, hbad⟩ : ∃ m, m = (rdMan l).2 := ⟨_, rfl⟩
  obtain ⟨PM, hPM⟩ : ∃ m, m = parseP s := ⟨_, rfl⟩
  rw [← hm, ← hbad] at HMA HPS HMW
  rw [← hm] at HPO HX
  rw [← hbad] at HPB
  rw [← hPM] at HPB HPO HPS ⊢
  clear hm hbad hPM hT hx1 hx2 hs hsl
  obtain ⟨w1, hw1⟩ : ∃ q, q = w.alloc (.cells #[.int .i64 0, .int .i64 0, .slice none 0 0] 24) := ⟨_, rfl⟩
  have hb1 : Below w.heap.size w w1 := by rw [hw1]; exact (Below.refl _ _).alloc (Nat.le_refl _) _
  have hr1 : Bw w1 w.heap.size 24 [.int .i64 0, .int .i64 0, .slice none 0 0] := by rw [hw1]; exact Bw.new _ _ _
  have HB1 := Hid.mk hb1
  have HR1 := Hid.mk hr1
  go_enter Tryz.func6, Tryz.ntmps6
  go_wp2_with (rw [← hw1])
  clear hw1 hb1 hr1
  refine (hF.out w1 (HT.out.below HB1.out)).mono ?_
  rintro e w2 ⟨R, rfl, hR2, hb2, hc2⟩
  have HR2 : Hid (Bw w2 w.heap.size 24 [.int .i64 0, .int .i64 0, .slice none 0 0]) := HR1.out.under hb2
  have HB2 : Hid (Below w.heap.size w w2) := bthen HB1.out hb2
  have HC2 := Hid.mk hc2
  have HRl := Hid.mk hR2
  clear hc2 hb2 HR1 HB1 hR2
  obtain ⟨w3, hw3⟩ : ∃ q, q = w2.alloc (.cells #[.slice (some ⟨R, 0, none⟩) l.length l.length, .bool false] 54) := ⟨_, rfl⟩
  obtain ⟨A, hA⟩ : ∃ q, q = w2.heap.size := ⟨_, rfl⟩
  have hbx : Bw w3 A 54 [.slice (some ⟨R, 0, none⟩) l.length l.length, .bool false] := by rw [hw3]; exact Bw.new' _ _ _ hA
  have hx3 : Below w2.heap.size w2 w3 := by rw [hw3]; exact (Below.refl _ _).alloc (Nat.le_refl _) _
  have hA3 : A < w3.heap.size := hbx.lt
  have hwA : w.heap.size ≤ A := by rw [hA]; exact HB2.out.size
  have hwr : w.heap.size < A := by rw [hA]; exact HR2.out.lt
  have HRd : Hid (WdR w3 A l false) := rd_start HFL.out HSL.out hbx (by have := HRl.out; omega) (fun j x hx => (hx3.cell (p := ⟨R, j, none⟩) HRl.out).trans (HC2.out j x hx))
  have HB3 : Hid (Below w.heap.size w w3) := bthen HB2.out hx3
  have HR3 : Hid (Bw w3 w.heap.size 24 [.int .i64 0, .int .i64 0, .slice none 0 0]) := HR2.out.under hx3
  have HA := Hid.mk (And.intro hwA (And.intro hwr hA3))
  clear hbx hx3 hA3 hwA hwr
  go_wp2_with (rw [← hw3, ← hA])
  clear hw3 hA HC2 HRl HB2 HR2 HFL
  refine (HMA.out A w3 HRd.out (HT.out.below HB3.out).er HA.out.2.2 (Nat.lt_of_lt_of_le HT.out.er.1.2 HA.out.1) (Nat.lt_of_lt_of_le HT.out.er.2.2 HA.out.1)).mono ?_
  rintro e w4 ⟨a, c, rfl, ⟨l', hrd⟩, ht4, F, ho4, hN4, hF4⟩
  obtain ⟨p', c', hb4, _, _⟩ := hrd
  obtain ⟨w5, hw5⟩ : ∃ q, q = w4.alloc (.cells #[.int .i64 m.fNext, .int .i64 m.fLog, .slice a m.fTables.length c] 24) := ⟨_, rfl⟩
  obtain ⟨M, hM⟩ : ∃ q, q = w4.heap.size := ⟨_, rfl⟩
  have hx5 : Below w4.heap.size w4 w5 := by rw [hw5]; exact (Below.refl _ _).alloc (Nat.le_refl _) _
  have hbm : Bw w5 M 24 [.int .i64 m.fNext, .int .i64 m.fLog, .slice a m.fTables.length c] := by rw [hw5]; exact Bw.new' _ _ _ hM
  have hb5 := hb4.under hx5
  have hr5 : Bw w5 w.heap.size 24 [.int .i64 0, .int .i64 0, .slice none 0 0] := (HR3.out.turn ht4 (by have := HA.out.2.1; simp; omega)).under hx5
  have ho5 := ownS.frame (w' := w5) oMeta_good ho4 (fun q hq => hx5.block q (ownS.lt oMeta_good ho4 q hq))
  have HB4 : Hid (Below w.heap.size w w4) := HB3.out.trans (ht4.below (fun k hk => by simp at hk; rw [hk]; exact HA.out.1) HB3.out.size)
  have hB5 : Below w.heap.size w w5 := bthen (HB3.out.trans (ht4.below (fun k hk => by simp at hk; rw [hk]; exact HA.out.1) HB3.out.size)) hx5
  have hF5 : ∀ q, q ∈ F → w.heap.size < q := fun q hq => by have h1 := hF4 q hq; have h2 := HA.out.2; omega
  have HM5 := Hid.mk hbm
  have HO5 := Hid.mk (And.intro ho5 (And.intro hN4 hF5))
  have HR5 := Hid.mk hr5
  have HB5 := Hid.mk hB5
  have b1 := hb4.cell 1 _ rfl
  have hlA := hb4.lt
  have hr4 : Bw w4 w.heap.size 24 [.int .i64 0, .int .i64 0, .slice none 0 0] := HR3.out.turn ht4 (by have := HA.out.2.1; simp; omega)
  have HW5 := Hid.mk hw5
  have HMq := Hid.mk hM
  clear hw5 hM hr5
  clear hb4 hx5 ho5 ho4 hN4 hF4 hF5 ht4 HRd HB3 HR3 HMA hB5 hbm hb5
  cases bad
  · have HRM : Hid (rManifest w5.heap.size w5 [.int .i64 m.fNext, .int .i64 m.fLog, .slice a m.fTables.length c] m) := ⟨a, c, rfl, HX.out.1, HX.out.2, ownS.leaf oMeta_good HO5.out.1, trivial⟩
    have HWM : Hid (wManifest m ≤ 1048576) := Nat.le_trans (HMW.out (by first | rfl | trivial)) HFS.out
    clear hr4
    go_wp2_with fail
    rw [← HW5.out]
    rw [← HMq.out]
    clear HW5 HMq b1 hlA
    refine (implManText_c _ m w5 HRM.out HWM.out (HT.out.below HB5.out).pw).mono ?_
    rintro e w6 ⟨rfl, hx6⟩
    have hm6 := HM5.out.under hx6
    have hr6 := HR5.out.under hx6
    have HB6 : Hid (Below w.heap.size w w6) := bthen HB5.out hx6
    have ho6 := ownS.frame (w' := w6) oMeta_good HO5.out.1 (fun q hq => hx6.block q (ownS.lt oMeta_good HO5.out.1 q hq))
    have HO6 := Hid.mk (And.intro ho6 HO5.out.2)
    have m0 := hm6.cell 0 _ rfl
    have m1 := hm6.cell 1 _ rfl
    have m2 := hm6.cell 2 _ rfl
    have r0 := hr6.cell 0 _ rfl
    have r1 := hr6.cell 1 _ rfl
    have r2 := hr6.cell 2 _ rfl
    have f0 := hr6.free 0
    have f1 := hr6.free 1
    have f2 := hr6.free 2
    have hlr := hr6.lt
    have HR6 := Hid.mk hr6
    clear hx6 hm6 hr6 ho6 HO5 HB5 HM5 HR5 HRM
    by_cases ht : manTextP m = s
    · have HPE := Hid.mk (HPS.out (by first | rfl | trivial) ht)
      have hkk := k_same ht
      generalize manTextP m = tx at hkk ⊢
      clear ht
      go_wp2_with fail
      have hT7 := turn3 w6 w.heap.size (.int .i64 m.fNext) (.int .i64 m.fLog) (.slice a m.fTables.length c)
      refine bodyPost_ret (v := .tuple #[.agg #[.int .i64 m.fNext, .int .i64 m.fLog, .slice a m.fTables.length c], .bool true]) (by simp [results, Tryz.results6, go_sem, *]) rfl ?_
      rw [HPE.out]
      exact ⟨[.int .i64 m.fNext, .int .i64 m.fLog, .slice a m.fTables.length c], F, rfl, ⟨_, F, rfl, HX.out.1, HX.out.2, ownS.frame oMeta_good HO6.out.1 (fun q hq => hT7.block q (ownS.lt oMeta_good HO6.out.1 q hq) (by have := HO6.out.2.2 q hq; simp; omega)), by simp⟩, HO6.out.2.1, fun b hb => Nat.le_of_lt (HO6.out.2.2 b hb), HB6.out.trans (hT7.below (fun k hk => by simp at hk; omega) HB6.out.size)⟩
    · have HPE := Hid.mk (HPO.out ht)
      have hkk := k_ne ht
      generalize manTextP m = tx at hkk ⊢
      clear ht
      go_wp2_with fail
      have hT7 := turn3 w6 w.heap.size (.int .i64 0) (.int .i64 0) (.slice none 0 0)
      refine bodyPost_ret (v := .tuple #[.agg #[.int .i64 0, .int .i64 0, .slice none 0 0], .bool false]) (by simp [results, Tryz.results6, go_sem, *]) rfl ?_
      rw [HPE.out]
      exact ⟨[.int .i64 0, .int .i64 0, .slice none 0 0], [], rfl, ⟨_, [], rfl, rfl, rfl, .inl ⟨rfl, rfl, rfl⟩, by simp⟩, by simp, (fun b hb => by cases hb), HB6.out.trans (hT7.below (fun k hk => by simp at hk; omega) HB6.out.size)⟩
  · have HPE := Hid.mk (HPB.out (by first | rfl | trivial))
    have r0 := hr4.cell 0 _ rfl
    have r1 := hr4.cell 1 _ rfl
    have r2 := hr4.cell 2 _ rfl
    have f0 := hr4.free 0
    have f1 := hr4.free 1
    have f2 := hr4.free 2
    have hlr := hr4.lt
    clear hr4
    go_wp2_with fail
    have hT7 := turn3 w4 w.heap.size (.int .i64 0) (.int .i64 0) (.slice none 0 0)
    refine bodyPost_ret (v := .tuple #[.agg #[.int .i64 0, .int .i64 0, .slice none 0 0], .bool false]) (by simp [results, Tryz.results6, go_sem, *]) rfl ?_
    rw [HPE.out]
    exact ⟨[.int .i64 0, .int .i64 0, .slice none 0 0], [], rfl, ⟨_, [], rfl, rfl, rfl, .inl ⟨rfl, rfl, rfl⟩, by simp⟩, by simp, (fun b hb => by cases hb), (HB4.out.trans (hT7.below (fun k hk => by simp at hk; omega) HB4.out.size)).alloc (Nat.le_trans HB4.out.size hT7.size) _⟩

end Go.Proofs.YtnohnkcijomdjaaGreatDoor
