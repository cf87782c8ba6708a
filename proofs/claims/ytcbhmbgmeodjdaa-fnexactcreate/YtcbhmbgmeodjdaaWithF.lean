/-
  The specification's names with one.
-/
import Derived.Test.YtcbhmbgmeodjdaaDatY
import Derived.Test.YtcbhmbgmeodjdaaDskT
import Derived.Test.YtcbhmbgmeodjdaaMapN
import Derived.Test.YtcbhmbgmeodjdaaCopyL
import Derived.Test.YtcbhmbgmeodjdaaDskV
import Derived.Test.YtcbhmbgmeodjdaaEntl
namespace Go.Proofs.Ytcbhmbgmeodjdaa
open Go.RowKit Go.Maps
set_option linter.unusedVariables false
set_option linter.unusedSimpArgs false
set_option maxRecDepth 10000

set_option maxHeartbeats 4000000 in
theorem l2With_any (a : Option Addr) (n c : Nat) (l : List MEntry) (e : MEntry) (w : World) (hx : l.length = n) (hn : n ≤ 1048576) (hl : LeafL 2 rEntry w.heap.size w a c l) (hRi : Rise l) (he1 : e.fName.size ≤ 9223372036854775807) (he2 : (Lit.int .i64 e.fId).wf = true) :
    Calls Try.prog 53 #[.slice a n c, .agg #[.string e.fName, .int .i64 e.fId]] w fun r w' => ∃ (a' : Option Addr) (c' : Nat) (F : List Nat), r = .returned (.slice a' (withE l e).length c') ∧ ownS 2 91 oEntry w' (.slice a' (withE l e).length c') (withE l e) F ∧ (∀ b, b ∈ F → w.heap.size ≤ b) ∧ Below w.heap.size w w' := by
  obtain ⟨iE, hiE, hzE0, hzE1, hzE2⟩ := info_parts Try.infoOfEntry
  have HX := Hid.mk hx
  have HRS := Hid.mk hl.2.2
  have HEE : Hid (∀ W : World, rEntry w.heap.size W [.string e.fName, .int .i64 e.fId] e) := fun W => ⟨rfl, he1, he2, trivial⟩
  have HWL := Hid.mk (withL_false (e := e) hRi)
  clear hx hl hRi he1 he2
  go_enter Try.func53, Try.ntmps53
  go_wp2_with fail
  go_loopw [5, 6, 7] (fun v pv i wr => ∃ (k : Nat) (o : List MEntry) (p : Bool), k ≤ n ∧ pv = .bool p ∧ i = .int .i64 k ∧ o.length ≤ 2 * k ∧ o ++ withL e p (l.drop k) = withE l e ∧ RowR 2 91 rEntry w.heap.size wr (w.heap.size + 1) v o ∧ Below w.heap.size w wr ∧ Bw wr w.heap.size 91 [.string e.fName, .int .i64 e.fId]) (fun _ _ i _ => n - (intOf i).toNat)
  case atStart =>
    refine ⟨0, [], false, Nat.zero_le _, rfl, rfl, by simp, by simpa using HWL.out, ⟨[], rfl, (fun _ h => by cases h), (fun _ h => by simp at h), ?_⟩, Below.alloc (Below.alloc (Below.refl _ _) (Nat.le_refl _) _) (by simp) _, Bw.alloc (Bw.new _ _ _) _⟩
    have h := own_lit0 (w.alloc (.cells #[.string e.fName, .int .i64 e.fId] 91)) (w.heap.size + 1) 91 2 (by simp)
    simpa using h
  case round =>
    obtain ⟨k, o, p, hk, rfl, rfl, hol0, hE, hrow, hbk, hbw⟩ := hrel
    have HE := Hid.mk hE
    have HBW := Hid.mk hbw
    have hbz := hbk.size
    have hlw := hbw.lt
    have hbz1 : w.heap.size + 1 ≤ wr.heap.size := hlw
    have c0' := hbw.cell 0 _ rfl
    have c1' := hbw.cell 1 _ rfl
    have HRow := Hid.mk hrow
    clear hE hbw hrow
    by_cases hlt0 : k < n
    · have hkl : k < l.length := by rw [HX.out]; exact hlt0
      obtain ⟨b1, o1, rfl, hB, cs, hcl, hcell, hrE⟩ := (HRS.out.below rEntry_good hbk) k hkl
      have HD : Hid (l.drop k = l[k] :: l.drop (k + 1)) := List.drop_eq_getElem_cons hkl
      have HRE0 := Hid.mk hrE
      obtain ⟨rfl, hsz, hwf, _⟩ := hrE
      have HRE : Hid (rEntry w.heap.size wr [.string l[k].fName, .int .i64 l[k].fId] l[k]) := HRE0.out
      have k0 := hcell 0 _ rfl
      have k1 := hcell 1 _ rfl
      rw [Nat.add_zero] at k0
      have HBL : Hid (b1 < w.heap.size) := hB
      have hB1 : b1 < wr.heap.size := by omega
      clear hcell hcl HRE0
      obtain ⟨x, hx⟩ : ∃ x, l[k] = x := ⟨_, rfl⟩
      rw [hx] at HRE HD k0 k1
      clear hx hsz hwf hB
      cases p
      · by_cases hlt : strLt x.fName e.fName = true
        · obtain ⟨p1, p2, p3⟩ := strLt_facts hlt
          have p4 : (x.fName.toList == e.fName.toList) = false := str_ne (fun h => by rw [h, strLt_irrefl] at hlt; cases hlt)
          have HEQ : Hid (o ++ [x] ++ withL e false (l.drop (k + 1)) = withE l e) := by
            show _ = _
            have h := HE.out
            rw [HD.out] at h
            have hl : strLt x.fName e.fName = true := hlt
            have hn2 : ¬ x.fName = e.fName := (fun h => by rw [h, strLt_irrefl] at hlt; cases hlt)
            simpa [withL, hl, hn2] using h
          clear HE HD hlt
          have hkn0 : (0 : Int) ≤ (k : Int) := by omega
          have hkn1 : (k : Int) < (n : Int) := by omega
          have hp0 : ∀ W, Below wr.heap.size wr W → W.cell? ⟨b1, o1 + k * 2, none⟩ = some (.string x.fName) := fun W hb => (hb.cell (p := ⟨b1, o1 + k * 2, none⟩) hB1).trans k0
          have hp1 : ∀ W, Below wr.heap.size wr W → W.cell? ⟨w.heap.size, 0, none⟩ = some (.string e.fName) := fun W hb => (HBW.out.under hb).cell 0 _ rfl
          go_wp2_with fail
          refine wp_region_held_drew (S := fun W => Below wr.heap.size wr W) (by kernel_rfl) (Below.drew (Below.refl _ _)) (fun hHeld => ?_)
          refine wpAnyH_take (i := 0) (oi := ⟨some 15, .move (.tmp 6), 4, "l02_files.go:100", #[], none⟩) (v := ?v1) rfl (by kernel_rfl) (by kernel_rfl) (by kernel_rfl) (fun _ _ _ h => h) (Or.inl ⟨by rfl, ?hy1⟩) (by assumption) ?rest1
          case hy1 => (intro w hSw; (try dsimp only at hSw); go_simp; try (with_reducible rfl))
          try simp only [Act.put, List.setIfInBounds_toArray, List.set_cons_zero, List.set_cons_succ]
          refine wpAnyH_take (i := 1) (oi := ⟨some 16, .unOp .not 4 (.tmp 15), 4, "l02_files.go:100", #[⟨0, .data⟩], none⟩) (v := ?v2) rfl (by kernel_rfl) (by kernel_rfl) (by kernel_rfl) (fun _ _ _ h => h) (Or.inl ⟨by rfl, ?hy2⟩) (by assumption) ?rest2
          case hy2 => (intro w hSw; (try dsimp only at hSw); go_simp; try (with_reducible rfl))
          try simp only [Act.put, List.setIfInBounds_toArray, List.set_cons_zero, List.set_cons_succ]
          refine wpAnyH_take (i := 2) (oi := ⟨some 17, .move (.tmp 16), 4, "l02_files.go:100", #[⟨1, .data⟩], none⟩) (v := ?v3) rfl (by kernel_rfl) (by kernel_rfl) (by kernel_rfl) (fun _ _ _ h => h) (Or.inl ⟨by rfl, ?hy3⟩) (by assumption) ?rest3
          case hy3 => (intro w hSw; (try dsimp only at hSw); go_simp; try (with_reducible rfl))
          try simp only [Act.put, List.setIfInBounds_toArray, List.set_cons_zero, List.set_cons_succ]
          refine wpAnyH_take (i := 3) (oi := ⟨some 18, .move (.tmp 0), 25, "l02_files.go:100", #[⟨2, .guard⟩], some (2, true)⟩) (v := ?v4) rfl (by kernel_rfl) (by kernel_rfl) (by kernel_rfl) (fun _ _ _ h => h) (Or.inl ⟨by rfl, ?hy4⟩) (by assumption) ?rest4
          case hy4 => (intro w hSw; (try dsimp only at hSw); go_simp; try (with_reducible rfl))
          try simp only [Act.put, List.setIfInBounds_toArray, List.set_cons_zero, List.set_cons_succ]
          refine wpAnyH_take (i := 4) (oi := ⟨some 19, .move (.tmp 7), 3, "l02_files.go:100", #[⟨2, .guard⟩], some (2, true)⟩) (v := ?v5) rfl (by kernel_rfl) (by kernel_rfl) (by kernel_rfl) (fun _ _ _ h => h) (Or.inl ⟨by rfl, ?hy5⟩) (by assumption) ?rest5
          case hy5 => (intro w hSw; (try dsimp only at hSw); go_simp; try (with_reducible rfl))
          try simp only [Act.put, List.setIfInBounds_toArray, List.set_cons_zero, List.set_cons_succ]
          refine wpAnyH_take (i := 5) (oi := ⟨some 20, .indexAddr 25 (.tmp 18) (.tmp 19), 0, "l02_files.go:100", #[⟨3, .data⟩, ⟨4, .data⟩, ⟨2, .guard⟩], some (2, true)⟩) (v := ?v6) rfl (by kernel_rfl) (by kernel_rfl) (by kernel_rfl) (fun _ _ _ h => h) (Or.inl ⟨by rfl, ?hy6⟩) (by assumption) ?rest6
          case hy6 => (intro w hSw; (try dsimp only at hSw); go_simp; try (with_reducible rfl))
          try simp only [Act.put, List.setIfInBounds_toArray, List.set_cons_zero, List.set_cons_succ]
          refine wpAnyH_take (i := 6) (oi := ⟨some 21, .fieldAddr 91 (.tmp 20) 0, 0, "l02_files.go:100", #[⟨5, .data⟩, ⟨2, .guard⟩], some (2, true)⟩) (v := ?v7) rfl (by kernel_rfl) (by kernel_rfl) (by kernel_rfl) (fun _ _ _ h => h) (Or.inl ⟨by rfl, ?hy7⟩) (by assumption) ?rest7
          case hy7 => (intro w hSw; (try dsimp only at hSw); go_simp; try (with_reducible rfl))
          try simp only [Act.put, List.setIfInBounds_toArray, List.set_cons_zero, List.set_cons_succ]
          refine wpAnyH_take (i := 7) (oi := ⟨some 22, .load 9 (.tmp 21), 9, "l02_files.go:100", #[⟨6, .data⟩, ⟨2, .guard⟩], some (2, true)⟩) (v := ?v8) rfl (by kernel_rfl) (by kernel_rfl) (by kernel_rfl) (fun _ _ _ h => h) (Or.inl ⟨by rfl, ?hy8⟩) (by assumption) ?rest8
          case hy8 => (intro w hSw; (try dsimp only at hSw); go_simp; try (with_reducible rfl))
          try simp only [Act.put, List.setIfInBounds_toArray, List.set_cons_zero, List.set_cons_succ]
          refine wpAnyH_take (i := 8) (oi := ⟨some 23, .fieldAddr 91 (.tmp 3) 0, 0, "l02_files.go:100", #[⟨2, .guard⟩], some (2, true)⟩) (v := ?v9) rfl (by kernel_rfl) (by kernel_rfl) (by kernel_rfl) (fun _ _ _ h => h) (Or.inl ⟨by rfl, ?hy9⟩) (by assumption) ?rest9
          case hy9 => (intro w hSw; (try dsimp only at hSw); go_simp; try (with_reducible rfl))
          try simp only [Act.put, List.setIfInBounds_toArray, List.set_cons_zero, List.set_cons_succ]
          refine wpAnyH_take (i := 9) (oi := ⟨some 24, .load 9 (.tmp 23), 9, "l02_files.go:100", #[⟨8, .data⟩, ⟨2, .guard⟩], some (2, true)⟩) (v := ?v10) rfl (by kernel_rfl) (by kernel_rfl) (by kernel_rfl) (fun _ _ _ h => h) (Or.inl ⟨by rfl, ?hy10⟩) (by assumption) ?rest10
          case hy10 => (intro w hSw; (try dsimp only at hSw); go_simp; try (with_reducible rfl))
          try simp only [Act.put, List.setIfInBounds_toArray, List.set_cons_zero, List.set_cons_succ]
          refine wpAnyH_take (i := 10) (oi := ⟨some 25, .binOp .geq 9 (.tmp 22) (.tmp 24) 9, 4, "l02_files.go:100", #[⟨7, .data⟩, ⟨9, .data⟩, ⟨2, .guard⟩], some (2, true)⟩) (v := ?v11) rfl (by kernel_rfl) (by kernel_rfl) (by kernel_rfl) (fun _ _ _ h => h) (Or.inl ⟨by rfl, ?hy11⟩) (by assumption) ?rest11
          case hy11 => (intro w hSw; (try dsimp only at hSw); go_simp; try (with_reducible rfl))
          try simp only [Act.put, List.setIfInBounds_toArray, List.set_cons_zero, List.set_cons_succ]
          refine wpAnyH_take (i := 11) (oi := ⟨some 26, .pick (.tmp 17) (.tmp 25) (.const (.bool false)), 4, "l02_files.go:100", #[⟨2, .data⟩, ⟨10, .data⟩], none⟩) (v := ?v12) rfl (by kernel_rfl) (by kernel_rfl) (by kernel_rfl) (fun _ _ _ h => h) (Or.inl ⟨by rfl, ?hy12⟩) (by assumption) ?rest12
          case hy12 => (intro w hSw; (try dsimp only at hSw); go_simp; try (with_reducible rfl))
          try simp only [Act.put, List.setIfInBounds_toArray, List.set_cons_zero, List.set_cons_succ]
          refine wpAnyH_done (by kernel_rfl) ?_ _
          obtain ⟨wd, hwd⟩ : ∃ W9, W9 = wr.drew := ⟨_, rfl⟩
          rw [← hwd] at hHeld ⊢
          have HRowd := Hid.mk (RowR.keep rEntry_good HRow.out hHeld hbz)
          have hbkd := bthen hbk hHeld
          have HBWd := Hid.mk (HBW.out.under hHeld)
          have HREd := Hid.mk (rEntry_good.below HRE.out (hHeld.mono hbz))
          have hzd := hHeld.size
          have k0d := (hHeld.cell (p := ⟨b1, o1 + k * 2, none⟩) hB1).trans k0
          have k1d := (hHeld.cell (p := ⟨b1, o1 + k * 2 + 1, none⟩) hB1).trans k1
          have c0d := HBWd.out.cell 0 _ rfl
          have c1d := HBWd.out.cell 1 _ rfl
          have hB1d : b1 < wd.heap.size := Nat.lt_of_lt_of_le hB1 hzd
          have hbzd : w.heap.size ≤ wd.heap.size := Nat.le_trans hbz hzd
          have hbz1d : w.heap.size + 1 ≤ wd.heap.size := Nat.le_trans hbz1 hzd
          clear k0 k1 c0' c1' hB1 hbz hbz1 hbk HBW HRE HRow hwd hHeld hp0 hp1 hzd
          have k0 := k0d
          have k1 := k1d
          have c0' := c0d
          have c1' := c1d
          have hB1 := hB1d
          have hbz := hbzd
          have hbz1 := hbz1d
          have hbk := hbkd
          have HBW := HBWd
          have HRE := HREd
          have HRow := HRowd
          clear k0d k1d c0d c1d hB1d hbzd hbz1d hbkd HBWd HREd HRowd
          have hp0 : ∀ W, Below wd.heap.size wd W → W.cell? ⟨b1, o1 + k * 2, none⟩ = some (.string x.fName) := fun W hb => (hb.cell (p := ⟨b1, o1 + k * 2, none⟩) hB1).trans k0
          have hp1 : ∀ W, Below wd.heap.size wd W → W.cell? ⟨w.heap.size, 0, none⟩ = some (.string e.fName) := fun W hb => (HBW.out.under hb).cell 0 _ rfl
          go_wp2_with fail
          refine wp_region_held_drew (S := fun W => Below wd.heap.size wd W) (by kernel_rfl) (Below.drew (Below.refl _ _)) (fun hHeld => ?_)
          refine wpAnyH_take (i := 0) (oi := ⟨some 31, .move (.tmp 0), 25, "l02_files.go:104", #[], none⟩) (v := ?v13) rfl (by kernel_rfl) (by kernel_rfl) (by kernel_rfl) (fun _ _ _ h => h) (Or.inl ⟨by rfl, ?hy13⟩) (by assumption) ?rest13
          case hy13 => (intro w hSw; (try dsimp only at hSw); go_simp; try (with_reducible rfl))
          try simp only [Act.put, List.setIfInBounds_toArray, List.set_cons_zero, List.set_cons_succ]
          refine wpAnyH_take (i := 1) (oi := ⟨some 32, .move (.tmp 7), 3, "l02_files.go:104", #[], none⟩) (v := ?v14) rfl (by kernel_rfl) (by kernel_rfl) (by kernel_rfl) (fun _ _ _ h => h) (Or.inl ⟨by rfl, ?hy14⟩) (by assumption) ?rest14
          case hy14 => (intro w hSw; (try dsimp only at hSw); go_simp; try (with_reducible rfl))
          try simp only [Act.put, List.setIfInBounds_toArray, List.set_cons_zero, List.set_cons_succ]
          refine wpAnyH_take (i := 2) (oi := ⟨some 33, .indexAddr 25 (.tmp 31) (.tmp 32), 0, "l02_files.go:104", #[⟨0, .data⟩, ⟨1, .data⟩], none⟩) (v := ?v15) rfl (by kernel_rfl) (by kernel_rfl) (by kernel_rfl) (fun _ _ _ h => h) (Or.inl ⟨by rfl, ?hy15⟩) (by assumption) ?rest15
          case hy15 => (intro w hSw; (try dsimp only at hSw); go_simp; try (with_reducible rfl))
          try simp only [Act.put, List.setIfInBounds_toArray, List.set_cons_zero, List.set_cons_succ]
          refine wpAnyH_take (i := 3) (oi := ⟨some 34, .fieldAddr 91 (.tmp 33) 0, 0, "l02_files.go:104", #[⟨2, .data⟩], none⟩) (v := ?v16) rfl (by kernel_rfl) (by kernel_rfl) (by kernel_rfl) (fun _ _ _ h => h) (Or.inl ⟨by rfl, ?hy16⟩) (by assumption) ?rest16
          case hy16 => (intro w hSw; (try dsimp only at hSw); go_simp; try (with_reducible rfl))
          try simp only [Act.put, List.setIfInBounds_toArray, List.set_cons_zero, List.set_cons_succ]
          refine wpAnyH_take (i := 4) (oi := ⟨some 35, .load 9 (.tmp 34), 9, "l02_files.go:104", #[⟨3, .data⟩], none⟩) (v := ?v17) rfl (by kernel_rfl) (by kernel_rfl) (by kernel_rfl) (fun _ _ _ h => h) (Or.inl ⟨by rfl, ?hy17⟩) (by assumption) ?rest17
          case hy17 => (intro w hSw; (try dsimp only at hSw); go_simp; try (with_reducible rfl))
          try simp only [Act.put, List.setIfInBounds_toArray, List.set_cons_zero, List.set_cons_succ]
          refine wpAnyH_take (i := 5) (oi := ⟨some 36, .fieldAddr 91 (.tmp 3) 0, 0, "l02_files.go:104", #[], none⟩) (v := ?v18) rfl (by kernel_rfl) (by kernel_rfl) (by kernel_rfl) (fun _ _ _ h => h) (Or.inl ⟨by rfl, ?hy18⟩) (by assumption) ?rest18
          case hy18 => (intro w hSw; (try dsimp only at hSw); go_simp; try (with_reducible rfl))
          try simp only [Act.put, List.setIfInBounds_toArray, List.set_cons_zero, List.set_cons_succ]
          refine wpAnyH_take (i := 6) (oi := ⟨some 37, .load 9 (.tmp 36), 9, "l02_files.go:104", #[⟨5, .data⟩], none⟩) (v := ?v19) rfl (by kernel_rfl) (by kernel_rfl) (by kernel_rfl) (fun _ _ _ h => h) (Or.inl ⟨by rfl, ?hy19⟩) (by assumption) ?rest19
          case hy19 => (intro w hSw; (try dsimp only at hSw); go_simp; try (with_reducible rfl))
          try simp only [Act.put, List.setIfInBounds_toArray, List.set_cons_zero, List.set_cons_succ]
          refine wpAnyH_take (i := 7) (oi := ⟨some 38, .binOp .neq 9 (.tmp 35) (.tmp 37) 9, 4, "l02_files.go:104", #[⟨4, .data⟩, ⟨6, .data⟩], none⟩) (v := ?v20) rfl (by kernel_rfl) (by kernel_rfl) (by kernel_rfl) (fun _ _ _ h => h) (Or.inl ⟨by rfl, ?hy20⟩) (by assumption) ?rest20
          case hy20 => (intro w hSw; (try dsimp only at hSw); go_simp; try (with_reducible rfl))
          try simp only [Act.put, List.setIfInBounds_toArray, List.set_cons_zero, List.set_cons_succ]
          refine wpAnyH_done (by kernel_rfl) ?_ _
          obtain ⟨we, hwd⟩ : ∃ W9, W9 = wd.drew := ⟨_, rfl⟩
          rw [← hwd] at hHeld ⊢
          have HRowd := Hid.mk (RowR.keep rEntry_good HRow.out hHeld hbz)
          have hbkd := bthen hbk hHeld
          have HBWd := Hid.mk (HBW.out.under hHeld)
          have HREd := Hid.mk (rEntry_good.below HRE.out (hHeld.mono hbz))
          have hzd := hHeld.size
          have k0d := (hHeld.cell (p := ⟨b1, o1 + k * 2, none⟩) hB1).trans k0
          have k1d := (hHeld.cell (p := ⟨b1, o1 + k * 2 + 1, none⟩) hB1).trans k1
          have c0d := HBWd.out.cell 0 _ rfl
          have c1d := HBWd.out.cell 1 _ rfl
          have hB1d : b1 < we.heap.size := Nat.lt_of_lt_of_le hB1 hzd
          have hbzd : w.heap.size ≤ we.heap.size := Nat.le_trans hbz hzd
          have hbz1d : w.heap.size + 1 ≤ we.heap.size := Nat.le_trans hbz1 hzd
          clear k0 k1 c0' c1' hB1 hbz hbz1 hbk HBW HRE HRow hwd hHeld hp0 hp1 hzd
          have k0 := k0d
          have k1 := k1d
          have c0' := c0d
          have c1' := c1d
          have hB1 := hB1d
          have hbz := hbzd
          have hbz1 := hbz1d
          have hbk := hbkd
          have HBW := HBWd
          have HRE := HREd
          have HRow := HRowd
          clear k0d k1d c0d c1d hB1d hbzd hbz1d hbkd HBWd HREd HRowd
          obtain ⟨css5, r1, r2, r3, r4⟩ := HRow.out
          go_wp2_with (at_builtin; refine wpList_append_own_at _ rfl _ _ 25 rfl (w.heap.size + 1) 91 iE (.agg #[.string ⟨#[]⟩, .int .i64 0]) 2 24 Try.underlying25 hiE hzE0 hzE1 hzE2 rfl (by decide) _ _ _ rfl (own_below r4 ((Below.refl _ _).alloc (Nat.le_refl _) _)) ⟨we.heap.size, 0, none⟩ 1 1 [.string x.fName, .int .i64 x.fId] rfl rfl (bx_news (Bx.new we _ _)) (by intro u hu; simp at hu; rcases hu with rfl | rfl <;> rfl) (by unfold maxLen; omega) (by omega) (by simp; omega) ?_; intro v5 w5 hown5 hgrow5 hnil5 hloc5)
          have hT5 := Turn.after ((Below.refl we.heap.size we).alloc (Nat.le_refl _) _) (turnOwn hgrow5)
          have hge5 : ∀ k, k ∈ (Value.ownBlock _).toList → w.heap.size + 1 ≤ k := fun k hk => (r4.lt k (by simpa using hk)).1
          have hBl5 : Below w.heap.size we w5 := Turn.below hT5 (fun k hk => by have := hge5 k hk; omega) hbz
          have HRowd := Hid.mk (RowR.push rEntry_good r1 r2 r3 hBl5 rfl (rEntry_good.below HRE.out hBl5) hown5)
          have hbkd := hbk.trans hBl5
          have HBWd := Hid.mk (HBW.out.turn hT5 (fun h => by have := hge5 _ h; omega))
          have HREd := Hid.mk (rEntry_good.below HRE.out hBl5)
          have hzd := hT5.size
          have k0d := (hT5.cell (p := ⟨b1, o1 + k * 2, none⟩) hB1 (fun h => by have := hge5 _ h; have := HBL.out; simp at *; omega)).trans k0
          have k1d := (hT5.cell (p := ⟨b1, o1 + k * 2 + 1, none⟩) hB1 (fun h => by have := hge5 _ h; have := HBL.out; simp at *; omega)).trans k1
          have c0d := HBWd.out.cell 0 _ rfl
          have c1d := HBWd.out.cell 1 _ rfl
          have hB1d : b1 < w5.heap.size := Nat.lt_of_lt_of_le hB1 hzd
          have hbzd : w.heap.size ≤ w5.heap.size := Nat.le_trans hbz hzd
          have hbz1d : w.heap.size + 1 ≤ w5.heap.size := Nat.le_trans hbz1 hzd
          clear k0 k1 c0' c1' hB1 hbz hbz1 hbk HBW HRE HRow hzd r1 r2 r3 r4 hT5 hge5 hBl5 hown5 hgrow5 hnil5 hloc5
          have k0 := k0d
          have k1 := k1d
          have c0' := c0d
          have c1' := c1d
          have hB1 := hB1d
          have hbz := hbzd
          have hbz1 := hbz1d
          have hbk := hbkd
          have HBW := HBWd
          have HRE := HREd
          have HRow := HRowd
          clear k0d k1d c0d c1d hB1d hbzd hbz1d hbkd HBWd HREd HRowd
          go_roundw
          case rel => exact ⟨k + 1, o ++ [x], false, by omega, rfl, by go_num, by simp; omega, HEQ.out, HRow.out, hbk, HBW.out⟩
          case measure => simp [intOf]; omega
        · by_cases heq : x.fName = e.fName
          · clear hlt
            have p1 : Op.bytesLess x.fName.toList e.fName.toList = false := by rw [heq]; exact strLt_irrefl _
            have p2 : Op.bytesLess e.fName.toList x.fName.toList = false := by rw [heq]; exact strLt_irrefl _
            have p3 := str_same heq
            have p4 := str_same heq.symm
            have HEQ : Hid (o ++ [e] ++ withL e true (l.drop (k + 1)) = withE l e) := by
              show _ = _
              have h := HE.out
              rw [HD.out] at h
              have hl : strLt x.fName e.fName = false := (show strLt x.fName e.fName = false from by rw [heq]; exact strLt_irrefl _)
              have hn2 : x.fName = e.fName := heq
              simpa [withL, hl, hn2, strLt_irrefl] using h
            clear HE HD heq
            have hkn0 : (0 : Int) ≤ (k : Int) := by omega
            have hkn1 : (k : Int) < (n : Int) := by omega
            have hp0 : ∀ W, Below wr.heap.size wr W → W.cell? ⟨b1, o1 + k * 2, none⟩ = some (.string x.fName) := fun W hb => (hb.cell (p := ⟨b1, o1 + k * 2, none⟩) hB1).trans k0
            have hp1 : ∀ W, Below wr.heap.size wr W → W.cell? ⟨w.heap.size, 0, none⟩ = some (.string e.fName) := fun W hb => (HBW.out.under hb).cell 0 _ rfl
            go_wp2_with fail
            refine wp_region_held_drew (S := fun W => Below wr.heap.size wr W) (by kernel_rfl) (Below.drew (Below.refl _ _)) (fun hHeld => ?_)
            refine wpAnyH_take (i := 0) (oi := ⟨some 15, .move (.tmp 6), 4, "l02_files.go:100", #[], none⟩) (v := ?v21) rfl (by kernel_rfl) (by kernel_rfl) (by kernel_rfl) (fun _ _ _ h => h) (Or.inl ⟨by rfl, ?hy21⟩) (by assumption) ?rest21
            case hy21 => (intro w hSw; (try dsimp only at hSw); go_simp; try (with_reducible rfl))
            try simp only [Act.put, List.setIfInBounds_toArray, List.set_cons_zero, List.set_cons_succ]
            refine wpAnyH_take (i := 1) (oi := ⟨some 16, .unOp .not 4 (.tmp 15), 4, "l02_files.go:100", #[⟨0, .data⟩], none⟩) (v := ?v22) rfl (by kernel_rfl) (by kernel_rfl) (by kernel_rfl) (fun _ _ _ h => h) (Or.inl ⟨by rfl, ?hy22⟩) (by assumption) ?rest22
            case hy22 => (intro w hSw; (try dsimp only at hSw); go_simp; try (with_reducible rfl))
            try simp only [Act.put, List.setIfInBounds_toArray, List.set_cons_zero, List.set_cons_succ]
            refine wpAnyH_take (i := 2) (oi := ⟨some 17, .move (.tmp 16), 4, "l02_files.go:100", #[⟨1, .data⟩], none⟩) (v := ?v23) rfl (by kernel_rfl) (by kernel_rfl) (by kernel_rfl) (fun _ _ _ h => h) (Or.inl ⟨by rfl, ?hy23⟩) (by assumption) ?rest23
            case hy23 => (intro w hSw; (try dsimp only at hSw); go_simp; try (with_reducible rfl))
            try simp only [Act.put, List.setIfInBounds_toArray, List.set_cons_zero, List.set_cons_succ]
            refine wpAnyH_take (i := 3) (oi := ⟨some 18, .move (.tmp 0), 25, "l02_files.go:100", #[⟨2, .guard⟩], some (2, true)⟩) (v := ?v24) rfl (by kernel_rfl) (by kernel_rfl) (by kernel_rfl) (fun _ _ _ h => h) (Or.inl ⟨by rfl, ?hy24⟩) (by assumption) ?rest24
            case hy24 => (intro w hSw; (try dsimp only at hSw); go_simp; try (with_reducible rfl))
            try simp only [Act.put, List.setIfInBounds_toArray, List.set_cons_zero, List.set_cons_succ]
            refine wpAnyH_take (i := 4) (oi := ⟨some 19, .move (.tmp 7), 3, "l02_files.go:100", #[⟨2, .guard⟩], some (2, true)⟩) (v := ?v25) rfl (by kernel_rfl) (by kernel_rfl) (by kernel_rfl) (fun _ _ _ h => h) (Or.inl ⟨by rfl, ?hy25⟩) (by assumption) ?rest25
            case hy25 => (intro w hSw; (try dsimp only at hSw); go_simp; try (with_reducible rfl))
            try simp only [Act.put, List.setIfInBounds_toArray, List.set_cons_zero, List.set_cons_succ]
            refine wpAnyH_take (i := 5) (oi := ⟨some 20, .indexAddr 25 (.tmp 18) (.tmp 19), 0, "l02_files.go:100", #[⟨3, .data⟩, ⟨4, .data⟩, ⟨2, .guard⟩], some (2, true)⟩) (v := ?v26) rfl (by kernel_rfl) (by kernel_rfl) (by kernel_rfl) (fun _ _ _ h => h) (Or.inl ⟨by rfl, ?hy26⟩) (by assumption) ?rest26
            case hy26 => (intro w hSw; (try dsimp only at hSw); go_simp; try (with_reducible rfl))
            try simp only [Act.put, List.setIfInBounds_toArray, List.set_cons_zero, List.set_cons_succ]
            refine wpAnyH_take (i := 6) (oi := ⟨some 21, .fieldAddr 91 (.tmp 20) 0, 0, "l02_files.go:100", #[⟨5, .data⟩, ⟨2, .guard⟩], some (2, true)⟩) (v := ?v27) rfl (by kernel_rfl) (by kernel_rfl) (by kernel_rfl) (fun _ _ _ h => h) (Or.inl ⟨by rfl, ?hy27⟩) (by assumption) ?rest27
            case hy27 => (intro w hSw; (try dsimp only at hSw); go_simp; try (with_reducible rfl))
            try simp only [Act.put, List.setIfInBounds_toArray, List.set_cons_zero, List.set_cons_succ]
            refine wpAnyH_take (i := 7) (oi := ⟨some 22, .load 9 (.tmp 21), 9, "l02_files.go:100", #[⟨6, .data⟩, ⟨2, .guard⟩], some (2, true)⟩) (v := ?v28) rfl (by kernel_rfl) (by kernel_rfl) (by kernel_rfl) (fun _ _ _ h => h) (Or.inl ⟨by rfl, ?hy28⟩) (by assumption) ?rest28
            case hy28 => (intro w hSw; (try dsimp only at hSw); go_simp; try (with_reducible rfl))
            try simp only [Act.put, List.setIfInBounds_toArray, List.set_cons_zero, List.set_cons_succ]
            refine wpAnyH_take (i := 8) (oi := ⟨some 23, .fieldAddr 91 (.tmp 3) 0, 0, "l02_files.go:100", #[⟨2, .guard⟩], some (2, true)⟩) (v := ?v29) rfl (by kernel_rfl) (by kernel_rfl) (by kernel_rfl) (fun _ _ _ h => h) (Or.inl ⟨by rfl, ?hy29⟩) (by assumption) ?rest29
            case hy29 => (intro w hSw; (try dsimp only at hSw); go_simp; try (with_reducible rfl))
            try simp only [Act.put, List.setIfInBounds_toArray, List.set_cons_zero, List.set_cons_succ]
            refine wpAnyH_take (i := 9) (oi := ⟨some 24, .load 9 (.tmp 23), 9, "l02_files.go:100", #[⟨8, .data⟩, ⟨2, .guard⟩], some (2, true)⟩) (v := ?v30) rfl (by kernel_rfl) (by kernel_rfl) (by kernel_rfl) (fun _ _ _ h => h) (Or.inl ⟨by rfl, ?hy30⟩) (by assumption) ?rest30
            case hy30 => (intro w hSw; (try dsimp only at hSw); go_simp; try (with_reducible rfl))
            try simp only [Act.put, List.setIfInBounds_toArray, List.set_cons_zero, List.set_cons_succ]
            refine wpAnyH_take (i := 10) (oi := ⟨some 25, .binOp .geq 9 (.tmp 22) (.tmp 24) 9, 4, "l02_files.go:100", #[⟨7, .data⟩, ⟨9, .data⟩, ⟨2, .guard⟩], some (2, true)⟩) (v := ?v31) rfl (by kernel_rfl) (by kernel_rfl) (by kernel_rfl) (fun _ _ _ h => h) (Or.inl ⟨by rfl, ?hy31⟩) (by assumption) ?rest31
            case hy31 => (intro w hSw; (try dsimp only at hSw); go_simp; try (with_reducible rfl))
            try simp only [Act.put, List.setIfInBounds_toArray, List.set_cons_zero, List.set_cons_succ]
            refine wpAnyH_take (i := 11) (oi := ⟨some 26, .pick (.tmp 17) (.tmp 25) (.const (.bool false)), 4, "l02_files.go:100", #[⟨2, .data⟩, ⟨10, .data⟩], none⟩) (v := ?v32) rfl (by kernel_rfl) (by kernel_rfl) (by kernel_rfl) (fun _ _ _ h => h) (Or.inl ⟨by rfl, ?hy32⟩) (by assumption) ?rest32
            case hy32 => (intro w hSw; (try dsimp only at hSw); go_simp; try (with_reducible rfl))
            try simp only [Act.put, List.setIfInBounds_toArray, List.set_cons_zero, List.set_cons_succ]
            refine wpAnyH_done (by kernel_rfl) ?_ _
            obtain ⟨wd, hwd⟩ : ∃ W9, W9 = wr.drew := ⟨_, rfl⟩
            rw [← hwd] at hHeld ⊢
            have HRowd := Hid.mk (RowR.keep rEntry_good HRow.out hHeld hbz)
            have hbkd := bthen hbk hHeld
            have HBWd := Hid.mk (HBW.out.under hHeld)
            have HREd := Hid.mk (rEntry_good.below HRE.out (hHeld.mono hbz))
            have hzd := hHeld.size
            have k0d := (hHeld.cell (p := ⟨b1, o1 + k * 2, none⟩) hB1).trans k0
            have k1d := (hHeld.cell (p := ⟨b1, o1 + k * 2 + 1, none⟩) hB1).trans k1
            have c0d := HBWd.out.cell 0 _ rfl
            have c1d := HBWd.out.cell 1 _ rfl
            have hB1d : b1 < wd.heap.size := Nat.lt_of_lt_of_le hB1 hzd
            have hbzd : w.heap.size ≤ wd.heap.size := Nat.le_trans hbz hzd
            have hbz1d : w.heap.size + 1 ≤ wd.heap.size := Nat.le_trans hbz1 hzd
            clear k0 k1 c0' c1' hB1 hbz hbz1 hbk HBW HRE HRow hwd hHeld hp0 hp1 hzd
            have k0 := k0d
            have k1 := k1d
            have c0' := c0d
            have c1' := c1d
            have hB1 := hB1d
            have hbz := hbzd
            have hbz1 := hbz1d
            have hbk := hbkd
            have HBW := HBWd
            have HRE := HREd
            have HRow := HRowd
            clear k0d k1d c0d c1d hB1d hbzd hbz1d hbkd HBWd HREd HRowd
            obtain ⟨css3, r1, r2, r3, r4⟩ := HRow.out
            go_wp2_with (at_builtin; refine wpList_append_own_at _ rfl _ _ 25 rfl (w.heap.size + 1) 91 iE (.agg #[.string ⟨#[]⟩, .int .i64 0]) 2 24 Try.underlying25 hiE hzE0 hzE1 hzE2 rfl (by decide) _ _ _ rfl (own_below r4 ((Below.refl _ _).alloc (Nat.le_refl _) _)) ⟨wd.heap.size, 0, none⟩ 1 1 [.string e.fName, .int .i64 e.fId] rfl rfl (bx_news (Bx.new wd _ _)) (by intro u hu; simp at hu; rcases hu with rfl | rfl <;> rfl) (by unfold maxLen; omega) (by omega) (by simp; omega) ?_; intro v3 w3 hown3 hgrow3 hnil3 hloc3)
            have hT3 := Turn.after ((Below.refl wd.heap.size wd).alloc (Nat.le_refl _) _) (turnOwn hgrow3)
            have hge3 : ∀ k, k ∈ (Value.ownBlock _).toList → w.heap.size + 1 ≤ k := fun k hk => (r4.lt k (by simpa using hk)).1
            have hBl3 : Below w.heap.size wd w3 := Turn.below hT3 (fun k hk => by have := hge3 k hk; omega) hbz
            have HRowd := Hid.mk (RowR.push rEntry_good r1 r2 r3 hBl3 rfl (rEntry_good.below (HEE.out wd) hBl3) hown3)
            have hbkd := hbk.trans hBl3
            have HBWd := Hid.mk (HBW.out.turn hT3 (fun h => by have := hge3 _ h; omega))
            have HREd := Hid.mk (rEntry_good.below HRE.out hBl3)
            have hzd := hT3.size
            have k0d := (hT3.cell (p := ⟨b1, o1 + k * 2, none⟩) hB1 (fun h => by have := hge3 _ h; have := HBL.out; simp at *; omega)).trans k0
            have k1d := (hT3.cell (p := ⟨b1, o1 + k * 2 + 1, none⟩) hB1 (fun h => by have := hge3 _ h; have := HBL.out; simp at *; omega)).trans k1
            have c0d := HBWd.out.cell 0 _ rfl
            have c1d := HBWd.out.cell 1 _ rfl
            have hB1d : b1 < w3.heap.size := Nat.lt_of_lt_of_le hB1 hzd
            have hbzd : w.heap.size ≤ w3.heap.size := Nat.le_trans hbz hzd
            have hbz1d : w.heap.size + 1 ≤ w3.heap.size := Nat.le_trans hbz1 hzd
            clear k0 k1 c0' c1' hB1 hbz hbz1 hbk HBW HRE HRow hzd r1 r2 r3 r4 hT3 hge3 hBl3 hown3 hgrow3 hnil3 hloc3
            have k0 := k0d
            have k1 := k1d
            have c0' := c0d
            have c1' := c1d
            have hB1 := hB1d
            have hbz := hbzd
            have hbz1 := hbz1d
            have hbk := hbkd
            have HBW := HBWd
            have HRE := HREd
            have HRow := HRowd
            clear k0d k1d c0d c1d hB1d hbzd hbz1d hbkd HBWd HREd HRowd
            have hol1 : (o ++ [e]).length ≤ 2 * k + 1 := by simp; omega
            have hp0 : ∀ W, Below w3.heap.size w3 W → W.cell? ⟨b1, o1 + k * 2, none⟩ = some (.string x.fName) := fun W hb => (hb.cell (p := ⟨b1, o1 + k * 2, none⟩) hB1).trans k0
            have hp1 : ∀ W, Below w3.heap.size w3 W → W.cell? ⟨w.heap.size, 0, none⟩ = some (.string e.fName) := fun W hb => (HBW.out.under hb).cell 0 _ rfl
            go_wp2_with fail
            refine wp_region_held_drew (S := fun W => Below w3.heap.size w3 W) (by kernel_rfl) (Below.drew (Below.refl _ _)) (fun hHeld => ?_)
            refine wpAnyH_take (i := 0) (oi := ⟨some 31, .move (.tmp 0), 25, "l02_files.go:104", #[], none⟩) (v := ?v33) rfl (by kernel_rfl) (by kernel_rfl) (by kernel_rfl) (fun _ _ _ h => h) (Or.inl ⟨by rfl, ?hy33⟩) (by assumption) ?rest33
            case hy33 => (intro w hSw; (try dsimp only at hSw); go_simp; try (with_reducible rfl))
            try simp only [Act.put, List.setIfInBounds_toArray, List.set_cons_zero, List.set_cons_succ]
            refine wpAnyH_take (i := 1) (oi := ⟨some 32, .move (.tmp 7), 3, "l02_files.go:104", #[], none⟩) (v := ?v34) rfl (by kernel_rfl) (by kernel_rfl) (by kernel_rfl) (fun _ _ _ h => h) (Or.inl ⟨by rfl, ?hy34⟩) (by assumption) ?rest34
            case hy34 => (intro w hSw; (try dsimp only at hSw); go_simp; try (with_reducible rfl))
            try simp only [Act.put, List.setIfInBounds_toArray, List.set_cons_zero, List.set_cons_succ]
            refine wpAnyH_take (i := 2) (oi := ⟨some 33, .indexAddr 25 (.tmp 31) (.tmp 32), 0, "l02_files.go:104", #[⟨0, .data⟩, ⟨1, .data⟩], none⟩) (v := ?v35) rfl (by kernel_rfl) (by kernel_rfl) (by kernel_rfl) (fun _ _ _ h => h) (Or.inl ⟨by rfl, ?hy35⟩) (by assumption) ?rest35
            case hy35 => (intro w hSw; (try dsimp only at hSw); go_simp; try (with_reducible rfl))
            try simp only [Act.put, List.setIfInBounds_toArray, List.set_cons_zero, List.set_cons_succ]
            refine wpAnyH_take (i := 3) (oi := ⟨some 34, .fieldAddr 91 (.tmp 33) 0, 0, "l02_files.go:104", #[⟨2, .data⟩], none⟩) (v := ?v36) rfl (by kernel_rfl) (by kernel_rfl) (by kernel_rfl) (fun _ _ _ h => h) (Or.inl ⟨by rfl, ?hy36⟩) (by assumption) ?rest36
            case hy36 => (intro w hSw; (try dsimp only at hSw); go_simp; try (with_reducible rfl))
            try simp only [Act.put, List.setIfInBounds_toArray, List.set_cons_zero, List.set_cons_succ]
            refine wpAnyH_take (i := 4) (oi := ⟨some 35, .load 9 (.tmp 34), 9, "l02_files.go:104", #[⟨3, .data⟩], none⟩) (v := ?v37) rfl (by kernel_rfl) (by kernel_rfl) (by kernel_rfl) (fun _ _ _ h => h) (Or.inl ⟨by rfl, ?hy37⟩) (by assumption) ?rest37
            case hy37 => (intro w hSw; (try dsimp only at hSw); go_simp; try (with_reducible rfl))
            try simp only [Act.put, List.setIfInBounds_toArray, List.set_cons_zero, List.set_cons_succ]
            refine wpAnyH_take (i := 5) (oi := ⟨some 36, .fieldAddr 91 (.tmp 3) 0, 0, "l02_files.go:104", #[], none⟩) (v := ?v38) rfl (by kernel_rfl) (by kernel_rfl) (by kernel_rfl) (fun _ _ _ h => h) (Or.inl ⟨by rfl, ?hy38⟩) (by assumption) ?rest38
            case hy38 => (intro w hSw; (try dsimp only at hSw); go_simp; try (with_reducible rfl))
            try simp only [Act.put, List.setIfInBounds_toArray, List.set_cons_zero, List.set_cons_succ]
            refine wpAnyH_take (i := 6) (oi := ⟨some 37, .load 9 (.tmp 36), 9, "l02_files.go:104", #[⟨5, .data⟩], none⟩) (v := ?v39) rfl (by kernel_rfl) (by kernel_rfl) (by kernel_rfl) (fun _ _ _ h => h) (Or.inl ⟨by rfl, ?hy39⟩) (by assumption) ?rest39
            case hy39 => (intro w hSw; (try dsimp only at hSw); go_simp; try (with_reducible rfl))
            try simp only [Act.put, List.setIfInBounds_toArray, List.set_cons_zero, List.set_cons_succ]
            refine wpAnyH_take (i := 7) (oi := ⟨some 38, .binOp .neq 9 (.tmp 35) (.tmp 37) 9, 4, "l02_files.go:104", #[⟨4, .data⟩, ⟨6, .data⟩], none⟩) (v := ?v40) rfl (by kernel_rfl) (by kernel_rfl) (by kernel_rfl) (fun _ _ _ h => h) (Or.inl ⟨by rfl, ?hy40⟩) (by assumption) ?rest40
            case hy40 => (intro w hSw; (try dsimp only at hSw); go_simp; try (with_reducible rfl))
            try simp only [Act.put, List.setIfInBounds_toArray, List.set_cons_zero, List.set_cons_succ]
            refine wpAnyH_done (by kernel_rfl) ?_ _
            obtain ⟨we, hwd⟩ : ∃ W9, W9 = w3.drew := ⟨_, rfl⟩
            rw [← hwd] at hHeld ⊢
            have HRowd := Hid.mk (RowR.keep rEntry_good HRow.out hHeld hbz)
            have hbkd := bthen hbk hHeld
            have HBWd := Hid.mk (HBW.out.under hHeld)
            have HREd := Hid.mk (rEntry_good.below HRE.out (hHeld.mono hbz))
            have hzd := hHeld.size
            have k0d := (hHeld.cell (p := ⟨b1, o1 + k * 2, none⟩) hB1).trans k0
            have k1d := (hHeld.cell (p := ⟨b1, o1 + k * 2 + 1, none⟩) hB1).trans k1
            have c0d := HBWd.out.cell 0 _ rfl
            have c1d := HBWd.out.cell 1 _ rfl
            have hB1d : b1 < we.heap.size := Nat.lt_of_lt_of_le hB1 hzd
            have hbzd : w.heap.size ≤ we.heap.size := Nat.le_trans hbz hzd
            have hbz1d : w.heap.size + 1 ≤ we.heap.size := Nat.le_trans hbz1 hzd
            clear k0 k1 c0' c1' hB1 hbz hbz1 hbk HBW HRE HRow hwd hHeld hp0 hp1 hzd
            have k0 := k0d
            have k1 := k1d
            have c0' := c0d
            have c1' := c1d
            have hB1 := hB1d
            have hbz := hbzd
            have hbz1 := hbz1d
            have hbk := hbkd
            have HBW := HBWd
            have HRE := HREd
            have HRow := HRowd
            clear k0d k1d c0d c1d hB1d hbzd hbz1d hbkd HBWd HREd HRowd
            go_wp2_with fail
            go_roundw
            case rel => exact ⟨k + 1, o ++ [e], true, by omega, rfl, by go_num, by simp; omega, HEQ.out, HRow.out, hbk, HBW.out⟩
            case measure => simp [intOf]; omega
          · have hgt := strLt_tri (Bool.eq_false_iff.2 hlt) heq
            clear hlt heq
            obtain ⟨p1, p2, p3⟩ := strLt_facts hgt
            have p4 : (x.fName.toList == e.fName.toList) = false := str_ne (fun h => by rw [h, strLt_irrefl] at hgt; cases hgt)
            have HEQ : Hid ((o ++ [e]) ++ [x] ++ withL e true (l.drop (k + 1)) = withE l e) := by
              show _ = _
              have h := HE.out
              rw [HD.out] at h
              have hl : strLt x.fName e.fName = false := strLt_asymm hgt
              have hn2 : ¬ x.fName = e.fName := (fun h => by rw [h, strLt_irrefl] at hgt; cases hgt)
              simpa [withL, hl, hn2] using h
            clear HE HD hgt
            have hkn0 : (0 : Int) ≤ (k : Int) := by omega
            have hkn1 : (k : Int) < (n : Int) := by omega
            have hp0 : ∀ W, Below wr.heap.size wr W → W.cell? ⟨b1, o1 + k * 2, none⟩ = some (.string x.fName) := fun W hb => (hb.cell (p := ⟨b1, o1 + k * 2, none⟩) hB1).trans k0
            have hp1 : ∀ W, Below wr.heap.size wr W → W.cell? ⟨w.heap.size, 0, none⟩ = some (.string e.fName) := fun W hb => (HBW.out.under hb).cell 0 _ rfl
            go_wp2_with fail
            refine wp_region_held_drew (S := fun W => Below wr.heap.size wr W) (by kernel_rfl) (Below.drew (Below.refl _ _)) (fun hHeld => ?_)
            refine wpAnyH_take (i := 0) (oi := ⟨some 15, .move (.tmp 6), 4, "l02_files.go:100", #[], none⟩) (v := ?v41) rfl (by kernel_rfl) (by kernel_rfl) (by kernel_rfl) (fun _ _ _ h => h) (Or.inl ⟨by rfl, ?hy41⟩) (by assumption) ?rest41
            case hy41 => (intro w hSw; (try dsimp only at hSw); go_simp; try (with_reducible rfl))
            try simp only [Act.put, List.setIfInBounds_toArray, List.set_cons_zero, List.set_cons_succ]
            refine wpAnyH_take (i := 1) (oi := ⟨some 16, .unOp .not 4 (.tmp 15), 4, "l02_files.go:100", #[⟨0, .data⟩], none⟩) (v := ?v42) rfl (by kernel_rfl) (by kernel_rfl) (by kernel_rfl) (fun _ _ _ h => h) (Or.inl ⟨by rfl, ?hy42⟩) (by assumption) ?rest42
            case hy42 => (intro w hSw; (try dsimp only at hSw); go_simp; try (with_reducible rfl))
            try simp only [Act.put, List.setIfInBounds_toArray, List.set_cons_zero, List.set_cons_succ]
            refine wpAnyH_take (i := 2) (oi := ⟨some 17, .move (.tmp 16), 4, "l02_files.go:100", #[⟨1, .data⟩], none⟩) (v := ?v43) rfl (by kernel_rfl) (by kernel_rfl) (by kernel_rfl) (fun _ _ _ h => h) (Or.inl ⟨by rfl, ?hy43⟩) (by assumption) ?rest43
            case hy43 => (intro w hSw; (try dsimp only at hSw); go_simp; try (with_reducible rfl))
            try simp only [Act.put, List.setIfInBounds_toArray, List.set_cons_zero, List.set_cons_succ]
            refine wpAnyH_take (i := 3) (oi := ⟨some 18, .move (.tmp 0), 25, "l02_files.go:100", #[⟨2, .guard⟩], some (2, true)⟩) (v := ?v44) rfl (by kernel_rfl) (by kernel_rfl) (by kernel_rfl) (fun _ _ _ h => h) (Or.inl ⟨by rfl, ?hy44⟩) (by assumption) ?rest44
            case hy44 => (intro w hSw; (try dsimp only at hSw); go_simp; try (with_reducible rfl))
            try simp only [Act.put, List.setIfInBounds_toArray, List.set_cons_zero, List.set_cons_succ]
            refine wpAnyH_take (i := 4) (oi := ⟨some 19, .move (.tmp 7), 3, "l02_files.go:100", #[⟨2, .guard⟩], some (2, true)⟩) (v := ?v45) rfl (by kernel_rfl) (by kernel_rfl) (by kernel_rfl) (fun _ _ _ h => h) (Or.inl ⟨by rfl, ?hy45⟩) (by assumption) ?rest45
            case hy45 => (intro w hSw; (try dsimp only at hSw); go_simp; try (with_reducible rfl))
            try simp only [Act.put, List.setIfInBounds_toArray, List.set_cons_zero, List.set_cons_succ]
            refine wpAnyH_take (i := 5) (oi := ⟨some 20, .indexAddr 25 (.tmp 18) (.tmp 19), 0, "l02_files.go:100", #[⟨3, .data⟩, ⟨4, .data⟩, ⟨2, .guard⟩], some (2, true)⟩) (v := ?v46) rfl (by kernel_rfl) (by kernel_rfl) (by kernel_rfl) (fun _ _ _ h => h) (Or.inl ⟨by rfl, ?hy46⟩) (by assumption) ?rest46
            case hy46 => (intro w hSw; (try dsimp only at hSw); go_simp; try (with_reducible rfl))
            try simp only [Act.put, List.setIfInBounds_toArray, List.set_cons_zero, List.set_cons_succ]
            refine wpAnyH_take (i := 6) (oi := ⟨some 21, .fieldAddr 91 (.tmp 20) 0, 0, "l02_files.go:100", #[⟨5, .data⟩, ⟨2, .guard⟩], some (2, true)⟩) (v := ?v47) rfl (by kernel_rfl) (by kernel_rfl) (by kernel_rfl) (fun _ _ _ h => h) (Or.inl ⟨by rfl, ?hy47⟩) (by assumption) ?rest47
            case hy47 => (intro w hSw; (try dsimp only at hSw); go_simp; try (with_reducible rfl))
            try simp only [Act.put, List.setIfInBounds_toArray, List.set_cons_zero, List.set_cons_succ]
            refine wpAnyH_take (i := 7) (oi := ⟨some 22, .load 9 (.tmp 21), 9, "l02_files.go:100", #[⟨6, .data⟩, ⟨2, .guard⟩], some (2, true)⟩) (v := ?v48) rfl (by kernel_rfl) (by kernel_rfl) (by kernel_rfl) (fun _ _ _ h => h) (Or.inl ⟨by rfl, ?hy48⟩) (by assumption) ?rest48
            case hy48 => (intro w hSw; (try dsimp only at hSw); go_simp; try (with_reducible rfl))
            try simp only [Act.put, List.setIfInBounds_toArray, List.set_cons_zero, List.set_cons_succ]
            refine wpAnyH_take (i := 8) (oi := ⟨some 23, .fieldAddr 91 (.tmp 3) 0, 0, "l02_files.go:100", #[⟨2, .guard⟩], some (2, true)⟩) (v := ?v49) rfl (by kernel_rfl) (by kernel_rfl) (by kernel_rfl) (fun _ _ _ h => h) (Or.inl ⟨by rfl, ?hy49⟩) (by assumption) ?rest49
            case hy49 => (intro w hSw; (try dsimp only at hSw); go_simp; try (with_reducible rfl))
            try simp only [Act.put, List.setIfInBounds_toArray, List.set_cons_zero, List.set_cons_succ]
            refine wpAnyH_take (i := 9) (oi := ⟨some 24, .load 9 (.tmp 23), 9, "l02_files.go:100", #[⟨8, .data⟩, ⟨2, .guard⟩], some (2, true)⟩) (v := ?v50) rfl (by kernel_rfl) (by kernel_rfl) (by kernel_rfl) (fun _ _ _ h => h) (Or.inl ⟨by rfl, ?hy50⟩) (by assumption) ?rest50
            case hy50 => (intro w hSw; (try dsimp only at hSw); go_simp; try (with_reducible rfl))
            try simp only [Act.put, List.setIfInBounds_toArray, List.set_cons_zero, List.set_cons_succ]
            refine wpAnyH_take (i := 10) (oi := ⟨some 25, .binOp .geq 9 (.tmp 22) (.tmp 24) 9, 4, "l02_files.go:100", #[⟨7, .data⟩, ⟨9, .data⟩, ⟨2, .guard⟩], some (2, true)⟩) (v := ?v51) rfl (by kernel_rfl) (by kernel_rfl) (by kernel_rfl) (fun _ _ _ h => h) (Or.inl ⟨by rfl, ?hy51⟩) (by assumption) ?rest51
            case hy51 => (intro w hSw; (try dsimp only at hSw); go_simp; try (with_reducible rfl))
            try simp only [Act.put, List.setIfInBounds_toArray, List.set_cons_zero, List.set_cons_succ]
            refine wpAnyH_take (i := 11) (oi := ⟨some 26, .pick (.tmp 17) (.tmp 25) (.const (.bool false)), 4, "l02_files.go:100", #[⟨2, .data⟩, ⟨10, .data⟩], none⟩) (v := ?v52) rfl (by kernel_rfl) (by kernel_rfl) (by kernel_rfl) (fun _ _ _ h => h) (Or.inl ⟨by rfl, ?hy52⟩) (by assumption) ?rest52
            case hy52 => (intro w hSw; (try dsimp only at hSw); go_simp; try (with_reducible rfl))
            try simp only [Act.put, List.setIfInBounds_toArray, List.set_cons_zero, List.set_cons_succ]
            refine wpAnyH_done (by kernel_rfl) ?_ _
            obtain ⟨wd, hwd⟩ : ∃ W9, W9 = wr.drew := ⟨_, rfl⟩
            rw [← hwd] at hHeld ⊢
            have HRowd := Hid.mk (RowR.keep rEntry_good HRow.out hHeld hbz)
            have hbkd := bthen hbk hHeld
            have HBWd := Hid.mk (HBW.out.under hHeld)
            have HREd := Hid.mk (rEntry_good.below HRE.out (hHeld.mono hbz))
            have hzd := hHeld.size
            have k0d := (hHeld.cell (p := ⟨b1, o1 + k * 2, none⟩) hB1).trans k0
            have k1d := (hHeld.cell (p := ⟨b1, o1 + k * 2 + 1, none⟩) hB1).trans k1
            have c0d := HBWd.out.cell 0 _ rfl
            have c1d := HBWd.out.cell 1 _ rfl
            have hB1d : b1 < wd.heap.size := Nat.lt_of_lt_of_le hB1 hzd
            have hbzd : w.heap.size ≤ wd.heap.size := Nat.le_trans hbz hzd
            have hbz1d : w.heap.size + 1 ≤ wd.heap.size := Nat.le_trans hbz1 hzd
            clear k0 k1 c0' c1' hB1 hbz hbz1 hbk HBW HRE HRow hwd hHeld hp0 hp1 hzd
            have k0 := k0d
            have k1 := k1d
            have c0' := c0d
            have c1' := c1d
            have hB1 := hB1d
            have hbz := hbzd
            have hbz1 := hbz1d
            have hbk := hbkd
            have HBW := HBWd
            have HRE := HREd
            have HRow := HRowd
            clear k0d k1d c0d c1d hB1d hbzd hbz1d hbkd HBWd HREd HRowd
            obtain ⟨css3, r1, r2, r3, r4⟩ := HRow.out
            go_wp2_with (at_builtin; refine wpList_append_own_at _ rfl _ _ 25 rfl (w.heap.size + 1) 91 iE (.agg #[.string ⟨#[]⟩, .int .i64 0]) 2 24 Try.underlying25 hiE hzE0 hzE1 hzE2 rfl (by decide) _ _ _ rfl (own_below r4 ((Below.refl _ _).alloc (Nat.le_refl _) _)) ⟨wd.heap.size, 0, none⟩ 1 1 [.string e.fName, .int .i64 e.fId] rfl rfl (bx_news (Bx.new wd _ _)) (by intro u hu; simp at hu; rcases hu with rfl | rfl <;> rfl) (by unfold maxLen; omega) (by omega) (by simp; omega) ?_; intro v3 w3 hown3 hgrow3 hnil3 hloc3)
            have hT3 := Turn.after ((Below.refl wd.heap.size wd).alloc (Nat.le_refl _) _) (turnOwn hgrow3)
            have hge3 : ∀ k, k ∈ (Value.ownBlock _).toList → w.heap.size + 1 ≤ k := fun k hk => (r4.lt k (by simpa using hk)).1
            have hBl3 : Below w.heap.size wd w3 := Turn.below hT3 (fun k hk => by have := hge3 k hk; omega) hbz
            have HRowd := Hid.mk (RowR.push rEntry_good r1 r2 r3 hBl3 rfl (rEntry_good.below (HEE.out wd) hBl3) hown3)
            have hbkd := hbk.trans hBl3
            have HBWd := Hid.mk (HBW.out.turn hT3 (fun h => by have := hge3 _ h; omega))
            have HREd := Hid.mk (rEntry_good.below HRE.out hBl3)
            have hzd := hT3.size
            have k0d := (hT3.cell (p := ⟨b1, o1 + k * 2, none⟩) hB1 (fun h => by have := hge3 _ h; have := HBL.out; simp at *; omega)).trans k0
            have k1d := (hT3.cell (p := ⟨b1, o1 + k * 2 + 1, none⟩) hB1 (fun h => by have := hge3 _ h; have := HBL.out; simp at *; omega)).trans k1
            have c0d := HBWd.out.cell 0 _ rfl
            have c1d := HBWd.out.cell 1 _ rfl
            have hB1d : b1 < w3.heap.size := Nat.lt_of_lt_of_le hB1 hzd
            have hbzd : w.heap.size ≤ w3.heap.size := Nat.le_trans hbz hzd
            have hbz1d : w.heap.size + 1 ≤ w3.heap.size := Nat.le_trans hbz1 hzd
            clear k0 k1 c0' c1' hB1 hbz hbz1 hbk HBW HRE HRow hzd r1 r2 r3 r4 hT3 hge3 hBl3 hown3 hgrow3 hnil3 hloc3
            have k0 := k0d
            have k1 := k1d
            have c0' := c0d
            have c1' := c1d
            have hB1 := hB1d
            have hbz := hbzd
            have hbz1 := hbz1d
            have hbk := hbkd
            have HBW := HBWd
            have HRE := HREd
            have HRow := HRowd
            clear k0d k1d c0d c1d hB1d hbzd hbz1d hbkd HBWd HREd HRowd
            have hol1 : (o ++ [e]).length ≤ 2 * k + 1 := by simp; omega
            have hp0 : ∀ W, Below w3.heap.size w3 W → W.cell? ⟨b1, o1 + k * 2, none⟩ = some (.string x.fName) := fun W hb => (hb.cell (p := ⟨b1, o1 + k * 2, none⟩) hB1).trans k0
            have hp1 : ∀ W, Below w3.heap.size w3 W → W.cell? ⟨w.heap.size, 0, none⟩ = some (.string e.fName) := fun W hb => (HBW.out.under hb).cell 0 _ rfl
            go_wp2_with fail
            refine wp_region_held_drew (S := fun W => Below w3.heap.size w3 W) (by kernel_rfl) (Below.drew (Below.refl _ _)) (fun hHeld => ?_)
            refine wpAnyH_take (i := 0) (oi := ⟨some 31, .move (.tmp 0), 25, "l02_files.go:104", #[], none⟩) (v := ?v53) rfl (by kernel_rfl) (by kernel_rfl) (by kernel_rfl) (fun _ _ _ h => h) (Or.inl ⟨by rfl, ?hy53⟩) (by assumption) ?rest53
            case hy53 => (intro w hSw; (try dsimp only at hSw); go_simp; try (with_reducible rfl))
            try simp only [Act.put, List.setIfInBounds_toArray, List.set_cons_zero, List.set_cons_succ]
            refine wpAnyH_take (i := 1) (oi := ⟨some 32, .move (.tmp 7), 3, "l02_files.go:104", #[], none⟩) (v := ?v54) rfl (by kernel_rfl) (by kernel_rfl) (by kernel_rfl) (fun _ _ _ h => h) (Or.inl ⟨by rfl, ?hy54⟩) (by assumption) ?rest54
            case hy54 => (intro w hSw; (try dsimp only at hSw); go_simp; try (with_reducible rfl))
            try simp only [Act.put, List.setIfInBounds_toArray, List.set_cons_zero, List.set_cons_succ]
            refine wpAnyH_take (i := 2) (oi := ⟨some 33, .indexAddr 25 (.tmp 31) (.tmp 32), 0, "l02_files.go:104", #[⟨0, .data⟩, ⟨1, .data⟩], none⟩) (v := ?v55) rfl (by kernel_rfl) (by kernel_rfl) (by kernel_rfl) (fun _ _ _ h => h) (Or.inl ⟨by rfl, ?hy55⟩) (by assumption) ?rest55
            case hy55 => (intro w hSw; (try dsimp only at hSw); go_simp; try (with_reducible rfl))
            try simp only [Act.put, List.setIfInBounds_toArray, List.set_cons_zero, List.set_cons_succ]
            refine wpAnyH_take (i := 3) (oi := ⟨some 34, .fieldAddr 91 (.tmp 33) 0, 0, "l02_files.go:104", #[⟨2, .data⟩], none⟩) (v := ?v56) rfl (by kernel_rfl) (by kernel_rfl) (by kernel_rfl) (fun _ _ _ h => h) (Or.inl ⟨by rfl, ?hy56⟩) (by assumption) ?rest56
            case hy56 => (intro w hSw; (try dsimp only at hSw); go_simp; try (with_reducible rfl))
            try simp only [Act.put, List.setIfInBounds_toArray, List.set_cons_zero, List.set_cons_succ]
            refine wpAnyH_take (i := 4) (oi := ⟨some 35, .load 9 (.tmp 34), 9, "l02_files.go:104", #[⟨3, .data⟩], none⟩) (v := ?v57) rfl (by kernel_rfl) (by kernel_rfl) (by kernel_rfl) (fun _ _ _ h => h) (Or.inl ⟨by rfl, ?hy57⟩) (by assumption) ?rest57
            case hy57 => (intro w hSw; (try dsimp only at hSw); go_simp; try (with_reducible rfl))
            try simp only [Act.put, List.setIfInBounds_toArray, List.set_cons_zero, List.set_cons_succ]
            refine wpAnyH_take (i := 5) (oi := ⟨some 36, .fieldAddr 91 (.tmp 3) 0, 0, "l02_files.go:104", #[], none⟩) (v := ?v58) rfl (by kernel_rfl) (by kernel_rfl) (by kernel_rfl) (fun _ _ _ h => h) (Or.inl ⟨by rfl, ?hy58⟩) (by assumption) ?rest58
            case hy58 => (intro w hSw; (try dsimp only at hSw); go_simp; try (with_reducible rfl))
            try simp only [Act.put, List.setIfInBounds_toArray, List.set_cons_zero, List.set_cons_succ]
            refine wpAnyH_take (i := 6) (oi := ⟨some 37, .load 9 (.tmp 36), 9, "l02_files.go:104", #[⟨5, .data⟩], none⟩) (v := ?v59) rfl (by kernel_rfl) (by kernel_rfl) (by kernel_rfl) (fun _ _ _ h => h) (Or.inl ⟨by rfl, ?hy59⟩) (by assumption) ?rest59
            case hy59 => (intro w hSw; (try dsimp only at hSw); go_simp; try (with_reducible rfl))
            try simp only [Act.put, List.setIfInBounds_toArray, List.set_cons_zero, List.set_cons_succ]
            refine wpAnyH_take (i := 7) (oi := ⟨some 38, .binOp .neq 9 (.tmp 35) (.tmp 37) 9, 4, "l02_files.go:104", #[⟨4, .data⟩, ⟨6, .data⟩], none⟩) (v := ?v60) rfl (by kernel_rfl) (by kernel_rfl) (by kernel_rfl) (fun _ _ _ h => h) (Or.inl ⟨by rfl, ?hy60⟩) (by assumption) ?rest60
            case hy60 => (intro w hSw; (try dsimp only at hSw); go_simp; try (with_reducible rfl))
            try simp only [Act.put, List.setIfInBounds_toArray, List.set_cons_zero, List.set_cons_succ]
            refine wpAnyH_done (by kernel_rfl) ?_ _
            obtain ⟨we, hwd⟩ : ∃ W9, W9 = w3.drew := ⟨_, rfl⟩
            rw [← hwd] at hHeld ⊢
            have HRowd := Hid.mk (RowR.keep rEntry_good HRow.out hHeld hbz)
            have hbkd := bthen hbk hHeld
            have HBWd := Hid.mk (HBW.out.under hHeld)
            have HREd := Hid.mk (rEntry_good.below HRE.out (hHeld.mono hbz))
            have hzd := hHeld.size
            have k0d := (hHeld.cell (p := ⟨b1, o1 + k * 2, none⟩) hB1).trans k0
            have k1d := (hHeld.cell (p := ⟨b1, o1 + k * 2 + 1, none⟩) hB1).trans k1
            have c0d := HBWd.out.cell 0 _ rfl
            have c1d := HBWd.out.cell 1 _ rfl
            have hB1d : b1 < we.heap.size := Nat.lt_of_lt_of_le hB1 hzd
            have hbzd : w.heap.size ≤ we.heap.size := Nat.le_trans hbz hzd
            have hbz1d : w.heap.size + 1 ≤ we.heap.size := Nat.le_trans hbz1 hzd
            clear k0 k1 c0' c1' hB1 hbz hbz1 hbk HBW HRE HRow hwd hHeld hp0 hp1 hzd
            have k0 := k0d
            have k1 := k1d
            have c0' := c0d
            have c1' := c1d
            have hB1 := hB1d
            have hbz := hbzd
            have hbz1 := hbz1d
            have hbk := hbkd
            have HBW := HBWd
            have HRE := HREd
            have HRow := HRowd
            clear k0d k1d c0d c1d hB1d hbzd hbz1d hbkd HBWd HREd HRowd
            obtain ⟨css5, r1, r2, r3, r4⟩ := HRow.out
            go_wp2_with (at_builtin; refine wpList_append_own_at _ rfl _ _ 25 rfl (w.heap.size + 1) 91 iE (.agg #[.string ⟨#[]⟩, .int .i64 0]) 2 24 Try.underlying25 hiE hzE0 hzE1 hzE2 rfl (by decide) _ _ _ rfl (own_below r4 ((Below.refl _ _).alloc (Nat.le_refl _) _)) ⟨we.heap.size, 0, none⟩ 1 1 [.string x.fName, .int .i64 x.fId] rfl rfl (bx_news (Bx.new we _ _)) (by intro u hu; simp at hu; rcases hu with rfl | rfl <;> rfl) (by unfold maxLen; omega) (by omega) (by simp; omega) ?_; intro v5 w5 hown5 hgrow5 hnil5 hloc5)
            have hT5 := Turn.after ((Below.refl we.heap.size we).alloc (Nat.le_refl _) _) (turnOwn hgrow5)
            have hge5 : ∀ k, k ∈ (Value.ownBlock _).toList → w.heap.size + 1 ≤ k := fun k hk => (r4.lt k (by simpa using hk)).1
            have hBl5 : Below w.heap.size we w5 := Turn.below hT5 (fun k hk => by have := hge5 k hk; omega) hbz
            have HRowd := Hid.mk (RowR.push rEntry_good r1 r2 r3 hBl5 rfl (rEntry_good.below HRE.out hBl5) hown5)
            have hbkd := hbk.trans hBl5
            have HBWd := Hid.mk (HBW.out.turn hT5 (fun h => by have := hge5 _ h; omega))
            have HREd := Hid.mk (rEntry_good.below HRE.out hBl5)
            have hzd := hT5.size
            have k0d := (hT5.cell (p := ⟨b1, o1 + k * 2, none⟩) hB1 (fun h => by have := hge5 _ h; have := HBL.out; simp at *; omega)).trans k0
            have k1d := (hT5.cell (p := ⟨b1, o1 + k * 2 + 1, none⟩) hB1 (fun h => by have := hge5 _ h; have := HBL.out; simp at *; omega)).trans k1
            have c0d := HBWd.out.cell 0 _ rfl
            have c1d := HBWd.out.cell 1 _ rfl
            have hB1d : b1 < w5.heap.size := Nat.lt_of_lt_of_le hB1 hzd
            have hbzd : w.heap.size ≤ w5.heap.size := Nat.le_trans hbz hzd
            have hbz1d : w.heap.size + 1 ≤ w5.heap.size := Nat.le_trans hbz1 hzd
            clear k0 k1 c0' c1' hB1 hbz hbz1 hbk HBW HRE HRow hzd r1 r2 r3 r4 hT5 hge5 hBl5 hown5 hgrow5 hnil5 hloc5
            have k0 := k0d
            have k1 := k1d
            have c0' := c0d
            have c1' := c1d
            have hB1 := hB1d
            have hbz := hbzd
            have hbz1 := hbz1d
            have hbk := hbkd
            have HBW := HBWd
            have HRE := HREd
            have HRow := HRowd
            clear k0d k1d c0d c1d hB1d hbzd hbz1d hbkd HBWd HREd HRowd
            go_roundw
            case rel => exact ⟨k + 1, (o ++ [e]) ++ [x], true, by omega, rfl, by go_num, by simp; omega, HEQ.out, HRow.out, hbk, HBW.out⟩
            case measure => simp [intOf]; omega
      · by_cases hlt : strLt x.fName e.fName = true
        · obtain ⟨p1, p2, p3⟩ := strLt_facts hlt
          have p4 : (x.fName.toList == e.fName.toList) = false := str_ne (fun h => by rw [h, strLt_irrefl] at hlt; cases hlt)
          have HEQ : Hid (o ++ [x] ++ withL e true (l.drop (k + 1)) = withE l e) := by
            show _ = _
            have h := HE.out
            rw [HD.out] at h
            have hl : strLt x.fName e.fName = true := hlt
            have hn2 : ¬ x.fName = e.fName := (fun h => by rw [h, strLt_irrefl] at hlt; cases hlt)
            simpa [withL, hl, hn2] using h
          clear HE HD hlt
          have hkn0 : (0 : Int) ≤ (k : Int) := by omega
          have hkn1 : (k : Int) < (n : Int) := by omega
          have hp0 : ∀ W, Below wr.heap.size wr W → W.cell? ⟨b1, o1 + k * 2, none⟩ = some (.string x.fName) := fun W hb => (hb.cell (p := ⟨b1, o1 + k * 2, none⟩) hB1).trans k0
          have hp1 : ∀ W, Below wr.heap.size wr W → W.cell? ⟨w.heap.size, 0, none⟩ = some (.string e.fName) := fun W hb => (HBW.out.under hb).cell 0 _ rfl
          go_wp2_with fail
          refine wp_region_held_drew (S := fun W => Below wr.heap.size wr W) (by kernel_rfl) (Below.drew (Below.refl _ _)) (fun hHeld => ?_)
          refine wpAnyH_take (i := 0) (oi := ⟨some 15, .move (.tmp 6), 4, "l02_files.go:100", #[], none⟩) (v := ?v61) rfl (by kernel_rfl) (by kernel_rfl) (by kernel_rfl) (fun _ _ _ h => h) (Or.inl ⟨by rfl, ?hy61⟩) (by assumption) ?rest61
          case hy61 => (intro w hSw; (try dsimp only at hSw); go_simp; try (with_reducible rfl))
          try simp only [Act.put, List.setIfInBounds_toArray, List.set_cons_zero, List.set_cons_succ]
          refine wpAnyH_take (i := 1) (oi := ⟨some 16, .unOp .not 4 (.tmp 15), 4, "l02_files.go:100", #[⟨0, .data⟩], none⟩) (v := ?v62) rfl (by kernel_rfl) (by kernel_rfl) (by kernel_rfl) (fun _ _ _ h => h) (Or.inl ⟨by rfl, ?hy62⟩) (by assumption) ?rest62
          case hy62 => (intro w hSw; (try dsimp only at hSw); go_simp; try (with_reducible rfl))
          try simp only [Act.put, List.setIfInBounds_toArray, List.set_cons_zero, List.set_cons_succ]
          refine wpAnyH_take (i := 2) (oi := ⟨some 17, .move (.tmp 16), 4, "l02_files.go:100", #[⟨1, .data⟩], none⟩) (v := ?v63) rfl (by kernel_rfl) (by kernel_rfl) (by kernel_rfl) (fun _ _ _ h => h) (Or.inl ⟨by rfl, ?hy63⟩) (by assumption) ?rest63
          case hy63 => (intro w hSw; (try dsimp only at hSw); go_simp; try (with_reducible rfl))
          try simp only [Act.put, List.setIfInBounds_toArray, List.set_cons_zero, List.set_cons_succ]
          refine wpAnyH_take (i := 3) (oi := ⟨some 18, .move (.tmp 0), 25, "l02_files.go:100", #[⟨2, .guard⟩], some (2, true)⟩) (v := undef) rfl (by kernel_rfl) (by kernel_rfl) (by kernel_rfl) (fun _ _ _ h => h) (Or.inr ⟨by rfl, rfl⟩) (by assumption) ?rest64
          try simp only [Act.put, List.setIfInBounds_toArray, List.set_cons_zero, List.set_cons_succ]
          refine wpAnyH_take (i := 4) (oi := ⟨some 19, .move (.tmp 7), 3, "l02_files.go:100", #[⟨2, .guard⟩], some (2, true)⟩) (v := undef) rfl (by kernel_rfl) (by kernel_rfl) (by kernel_rfl) (fun _ _ _ h => h) (Or.inr ⟨by rfl, rfl⟩) (by assumption) ?rest65
          try simp only [Act.put, List.setIfInBounds_toArray, List.set_cons_zero, List.set_cons_succ]
          refine wpAnyH_take (i := 5) (oi := ⟨some 20, .indexAddr 25 (.tmp 18) (.tmp 19), 0, "l02_files.go:100", #[⟨3, .data⟩, ⟨4, .data⟩, ⟨2, .guard⟩], some (2, true)⟩) (v := undef) rfl (by kernel_rfl) (by kernel_rfl) (by kernel_rfl) (fun _ _ _ h => h) (Or.inr ⟨by rfl, rfl⟩) (by assumption) ?rest66
          try simp only [Act.put, List.setIfInBounds_toArray, List.set_cons_zero, List.set_cons_succ]
          refine wpAnyH_take (i := 6) (oi := ⟨some 21, .fieldAddr 91 (.tmp 20) 0, 0, "l02_files.go:100", #[⟨5, .data⟩, ⟨2, .guard⟩], some (2, true)⟩) (v := undef) rfl (by kernel_rfl) (by kernel_rfl) (by kernel_rfl) (fun _ _ _ h => h) (Or.inr ⟨by rfl, rfl⟩) (by assumption) ?rest67
          try simp only [Act.put, List.setIfInBounds_toArray, List.set_cons_zero, List.set_cons_succ]
          refine wpAnyH_take (i := 7) (oi := ⟨some 22, .load 9 (.tmp 21), 9, "l02_files.go:100", #[⟨6, .data⟩, ⟨2, .guard⟩], some (2, true)⟩) (v := undef) rfl (by kernel_rfl) (by kernel_rfl) (by kernel_rfl) (fun _ _ _ h => h) (Or.inr ⟨by rfl, rfl⟩) (by assumption) ?rest68
          try simp only [Act.put, List.setIfInBounds_toArray, List.set_cons_zero, List.set_cons_succ]
          refine wpAnyH_take (i := 8) (oi := ⟨some 23, .fieldAddr 91 (.tmp 3) 0, 0, "l02_files.go:100", #[⟨2, .guard⟩], some (2, true)⟩) (v := undef) rfl (by kernel_rfl) (by kernel_rfl) (by kernel_rfl) (fun _ _ _ h => h) (Or.inr ⟨by rfl, rfl⟩) (by assumption) ?rest69
          try simp only [Act.put, List.setIfInBounds_toArray, List.set_cons_zero, List.set_cons_succ]
          refine wpAnyH_take (i := 9) (oi := ⟨some 24, .load 9 (.tmp 23), 9, "l02_files.go:100", #[⟨8, .data⟩, ⟨2, .guard⟩], some (2, true)⟩) (v := undef) rfl (by kernel_rfl) (by kernel_rfl) (by kernel_rfl) (fun _ _ _ h => h) (Or.inr ⟨by rfl, rfl⟩) (by assumption) ?rest70
          try simp only [Act.put, List.setIfInBounds_toArray, List.set_cons_zero, List.set_cons_succ]
          refine wpAnyH_take (i := 10) (oi := ⟨some 25, .binOp .geq 9 (.tmp 22) (.tmp 24) 9, 4, "l02_files.go:100", #[⟨7, .data⟩, ⟨9, .data⟩, ⟨2, .guard⟩], some (2, true)⟩) (v := undef) rfl (by kernel_rfl) (by kernel_rfl) (by kernel_rfl) (fun _ _ _ h => h) (Or.inr ⟨by rfl, rfl⟩) (by assumption) ?rest71
          try simp only [Act.put, List.setIfInBounds_toArray, List.set_cons_zero, List.set_cons_succ]
          refine wpAnyH_take (i := 11) (oi := ⟨some 26, .pick (.tmp 17) (.tmp 25) (.const (.bool false)), 4, "l02_files.go:100", #[⟨2, .data⟩, ⟨10, .data⟩], none⟩) (v := ?v72) rfl (by kernel_rfl) (by kernel_rfl) (by kernel_rfl) (fun _ _ _ h => h) (Or.inl ⟨by rfl, ?hy72⟩) (by assumption) ?rest72
          case hy72 => (intro w hSw; (try dsimp only at hSw); go_simp; try (with_reducible rfl))
          try simp only [Act.put, List.setIfInBounds_toArray, List.set_cons_zero, List.set_cons_succ]
          refine wpAnyH_done (by kernel_rfl) ?_ _
          obtain ⟨wd, hwd⟩ : ∃ W9, W9 = wr.drew := ⟨_, rfl⟩
          rw [← hwd] at hHeld ⊢
          have HRowd := Hid.mk (RowR.keep rEntry_good HRow.out hHeld hbz)
          have hbkd := bthen hbk hHeld
          have HBWd := Hid.mk (HBW.out.under hHeld)
          have HREd := Hid.mk (rEntry_good.below HRE.out (hHeld.mono hbz))
          have hzd := hHeld.size
          have k0d := (hHeld.cell (p := ⟨b1, o1 + k * 2, none⟩) hB1).trans k0
          have k1d := (hHeld.cell (p := ⟨b1, o1 + k * 2 + 1, none⟩) hB1).trans k1
          have c0d := HBWd.out.cell 0 _ rfl
          have c1d := HBWd.out.cell 1 _ rfl
          have hB1d : b1 < wd.heap.size := Nat.lt_of_lt_of_le hB1 hzd
          have hbzd : w.heap.size ≤ wd.heap.size := Nat.le_trans hbz hzd
          have hbz1d : w.heap.size + 1 ≤ wd.heap.size := Nat.le_trans hbz1 hzd
          clear k0 k1 c0' c1' hB1 hbz hbz1 hbk HBW HRE HRow hwd hHeld hp0 hp1 hzd
          have k0 := k0d
          have k1 := k1d
          have c0' := c0d
          have c1' := c1d
          have hB1 := hB1d
          have hbz := hbzd
          have hbz1 := hbz1d
          have hbk := hbkd
          have HBW := HBWd
          have HRE := HREd
          have HRow := HRowd
          clear k0d k1d c0d c1d hB1d hbzd hbz1d hbkd HBWd HREd HRowd
          have hp0 : ∀ W, Below wd.heap.size wd W → W.cell? ⟨b1, o1 + k * 2, none⟩ = some (.string x.fName) := fun W hb => (hb.cell (p := ⟨b1, o1 + k * 2, none⟩) hB1).trans k0
          have hp1 : ∀ W, Below wd.heap.size wd W → W.cell? ⟨w.heap.size, 0, none⟩ = some (.string e.fName) := fun W hb => (HBW.out.under hb).cell 0 _ rfl
          go_wp2_with fail
          refine wp_region_held_drew (S := fun W => Below wd.heap.size wd W) (by kernel_rfl) (Below.drew (Below.refl _ _)) (fun hHeld => ?_)
          refine wpAnyH_take (i := 0) (oi := ⟨some 31, .move (.tmp 0), 25, "l02_files.go:104", #[], none⟩) (v := ?v73) rfl (by kernel_rfl) (by kernel_rfl) (by kernel_rfl) (fun _ _ _ h => h) (Or.inl ⟨by rfl, ?hy73⟩) (by assumption) ?rest73
          case hy73 => (intro w hSw; (try dsimp only at hSw); go_simp; try (with_reducible rfl))
          try simp only [Act.put, List.setIfInBounds_toArray, List.set_cons_zero, List.set_cons_succ]
          refine wpAnyH_take (i := 1) (oi := ⟨some 32, .move (.tmp 7), 3, "l02_files.go:104", #[], none⟩) (v := ?v74) rfl (by kernel_rfl) (by kernel_rfl) (by kernel_rfl) (fun _ _ _ h => h) (Or.inl ⟨by rfl, ?hy74⟩) (by assumption) ?rest74
          case hy74 => (intro w hSw; (try dsimp only at hSw); go_simp; try (with_reducible rfl))
          try simp only [Act.put, List.setIfInBounds_toArray, List.set_cons_zero, List.set_cons_succ]
          refine wpAnyH_take (i := 2) (oi := ⟨some 33, .indexAddr 25 (.tmp 31) (.tmp 32), 0, "l02_files.go:104", #[⟨0, .data⟩, ⟨1, .data⟩], none⟩) (v := ?v75) rfl (by kernel_rfl) (by kernel_rfl) (by kernel_rfl) (fun _ _ _ h => h) (Or.inl ⟨by rfl, ?hy75⟩) (by assumption) ?rest75
          case hy75 => (intro w hSw; (try dsimp only at hSw); go_simp; try (with_reducible rfl))
          try simp only [Act.put, List.setIfInBounds_toArray, List.set_cons_zero, List.set_cons_succ]
          refine wpAnyH_take (i := 3) (oi := ⟨some 34, .fieldAddr 91 (.tmp 33) 0, 0, "l02_files.go:104", #[⟨2, .data⟩], none⟩) (v := ?v76) rfl (by kernel_rfl) (by kernel_rfl) (by kernel_rfl) (fun _ _ _ h => h) (Or.inl ⟨by rfl, ?hy76⟩) (by assumption) ?rest76
          case hy76 => (intro w hSw; (try dsimp only at hSw); go_simp; try (with_reducible rfl))
          try simp only [Act.put, List.setIfInBounds_toArray, List.set_cons_zero, List.set_cons_succ]
          refine wpAnyH_take (i := 4) (oi := ⟨some 35, .load 9 (.tmp 34), 9, "l02_files.go:104", #[⟨3, .data⟩], none⟩) (v := ?v77) rfl (by kernel_rfl) (by kernel_rfl) (by kernel_rfl) (fun _ _ _ h => h) (Or.inl ⟨by rfl, ?hy77⟩) (by assumption) ?rest77
          case hy77 => (intro w hSw; (try dsimp only at hSw); go_simp; try (with_reducible rfl))
          try simp only [Act.put, List.setIfInBounds_toArray, List.set_cons_zero, List.set_cons_succ]
          refine wpAnyH_take (i := 5) (oi := ⟨some 36, .fieldAddr 91 (.tmp 3) 0, 0, "l02_files.go:104", #[], none⟩) (v := ?v78) rfl (by kernel_rfl) (by kernel_rfl) (by kernel_rfl) (fun _ _ _ h => h) (Or.inl ⟨by rfl, ?hy78⟩) (by assumption) ?rest78
          case hy78 => (intro w hSw; (try dsimp only at hSw); go_simp; try (with_reducible rfl))
          try simp only [Act.put, List.setIfInBounds_toArray, List.set_cons_zero, List.set_cons_succ]
          refine wpAnyH_take (i := 6) (oi := ⟨some 37, .load 9 (.tmp 36), 9, "l02_files.go:104", #[⟨5, .data⟩], none⟩) (v := ?v79) rfl (by kernel_rfl) (by kernel_rfl) (by kernel_rfl) (fun _ _ _ h => h) (Or.inl ⟨by rfl, ?hy79⟩) (by assumption) ?rest79
          case hy79 => (intro w hSw; (try dsimp only at hSw); go_simp; try (with_reducible rfl))
          try simp only [Act.put, List.setIfInBounds_toArray, List.set_cons_zero, List.set_cons_succ]
          refine wpAnyH_take (i := 7) (oi := ⟨some 38, .binOp .neq 9 (.tmp 35) (.tmp 37) 9, 4, "l02_files.go:104", #[⟨4, .data⟩, ⟨6, .data⟩], none⟩) (v := ?v80) rfl (by kernel_rfl) (by kernel_rfl) (by kernel_rfl) (fun _ _ _ h => h) (Or.inl ⟨by rfl, ?hy80⟩) (by assumption) ?rest80
          case hy80 => (intro w hSw; (try dsimp only at hSw); go_simp; try (with_reducible rfl))
          try simp only [Act.put, List.setIfInBounds_toArray, List.set_cons_zero, List.set_cons_succ]
          refine wpAnyH_done (by kernel_rfl) ?_ _
          obtain ⟨we, hwd⟩ : ∃ W9, W9 = wd.drew := ⟨_, rfl⟩
          rw [← hwd] at hHeld ⊢
          have HRowd := Hid.mk (RowR.keep rEntry_good HRow.out hHeld hbz)
          have hbkd := bthen hbk hHeld
          have HBWd := Hid.mk (HBW.out.under hHeld)
          have HREd := Hid.mk (rEntry_good.below HRE.out (hHeld.mono hbz))
          have hzd := hHeld.size
          have k0d := (hHeld.cell (p := ⟨b1, o1 + k * 2, none⟩) hB1).trans k0
          have k1d := (hHeld.cell (p := ⟨b1, o1 + k * 2 + 1, none⟩) hB1).trans k1
          have c0d := HBWd.out.cell 0 _ rfl
          have c1d := HBWd.out.cell 1 _ rfl
          have hB1d : b1 < we.heap.size := Nat.lt_of_lt_of_le hB1 hzd
          have hbzd : w.heap.size ≤ we.heap.size := Nat.le_trans hbz hzd
          have hbz1d : w.heap.size + 1 ≤ we.heap.size := Nat.le_trans hbz1 hzd
          clear k0 k1 c0' c1' hB1 hbz hbz1 hbk HBW HRE HRow hwd hHeld hp0 hp1 hzd
          have k0 := k0d
          have k1 := k1d
          have c0' := c0d
          have c1' := c1d
          have hB1 := hB1d
          have hbz := hbzd
          have hbz1 := hbz1d
          have hbk := hbkd
          have HBW := HBWd
          have HRE := HREd
          have HRow := HRowd
          clear k0d k1d c0d c1d hB1d hbzd hbz1d hbkd HBWd HREd HRowd
          obtain ⟨css5, r1, r2, r3, r4⟩ := HRow.out
          go_wp2_with (at_builtin; refine wpList_append_own_at _ rfl _ _ 25 rfl (w.heap.size + 1) 91 iE (.agg #[.string ⟨#[]⟩, .int .i64 0]) 2 24 Try.underlying25 hiE hzE0 hzE1 hzE2 rfl (by decide) _ _ _ rfl (own_below r4 ((Below.refl _ _).alloc (Nat.le_refl _) _)) ⟨we.heap.size, 0, none⟩ 1 1 [.string x.fName, .int .i64 x.fId] rfl rfl (bx_news (Bx.new we _ _)) (by intro u hu; simp at hu; rcases hu with rfl | rfl <;> rfl) (by unfold maxLen; omega) (by omega) (by simp; omega) ?_; intro v5 w5 hown5 hgrow5 hnil5 hloc5)
          have hT5 := Turn.after ((Below.refl we.heap.size we).alloc (Nat.le_refl _) _) (turnOwn hgrow5)
          have hge5 : ∀ k, k ∈ (Value.ownBlock _).toList → w.heap.size + 1 ≤ k := fun k hk => (r4.lt k (by simpa using hk)).1
          have hBl5 : Below w.heap.size we w5 := Turn.below hT5 (fun k hk => by have := hge5 k hk; omega) hbz
          have HRowd := Hid.mk (RowR.push rEntry_good r1 r2 r3 hBl5 rfl (rEntry_good.below HRE.out hBl5) hown5)
          have hbkd := hbk.trans hBl5
          have HBWd := Hid.mk (HBW.out.turn hT5 (fun h => by have := hge5 _ h; omega))
          have HREd := Hid.mk (rEntry_good.below HRE.out hBl5)
          have hzd := hT5.size
          have k0d := (hT5.cell (p := ⟨b1, o1 + k * 2, none⟩) hB1 (fun h => by have := hge5 _ h; have := HBL.out; simp at *; omega)).trans k0
          have k1d := (hT5.cell (p := ⟨b1, o1 + k * 2 + 1, none⟩) hB1 (fun h => by have := hge5 _ h; have := HBL.out; simp at *; omega)).trans k1
          have c0d := HBWd.out.cell 0 _ rfl
          have c1d := HBWd.out.cell 1 _ rfl
          have hB1d : b1 < w5.heap.size := Nat.lt_of_lt_of_le hB1 hzd
          have hbzd : w.heap.size ≤ w5.heap.size := Nat.le_trans hbz hzd
          have hbz1d : w.heap.size + 1 ≤ w5.heap.size := Nat.le_trans hbz1 hzd
          clear k0 k1 c0' c1' hB1 hbz hbz1 hbk HBW HRE HRow hzd r1 r2 r3 r4 hT5 hge5 hBl5 hown5 hgrow5 hnil5 hloc5
          have k0 := k0d
          have k1 := k1d
          have c0' := c0d
          have c1' := c1d
          have hB1 := hB1d
          have hbz := hbzd
          have hbz1 := hbz1d
          have hbk := hbkd
          have HBW := HBWd
          have HRE := HREd
          have HRow := HRowd
          clear k0d k1d c0d c1d hB1d hbzd hbz1d hbkd HBWd HREd HRowd
          go_roundw
          case rel => exact ⟨k + 1, o ++ [x], true, by omega, rfl, by go_num, by simp; omega, HEQ.out, HRow.out, hbk, HBW.out⟩
          case measure => simp [intOf]; omega
        · by_cases heq : x.fName = e.fName
          · clear hlt
            have p1 : Op.bytesLess x.fName.toList e.fName.toList = false := by rw [heq]; exact strLt_irrefl _
            have p2 : Op.bytesLess e.fName.toList x.fName.toList = false := by rw [heq]; exact strLt_irrefl _
            have p3 := str_same heq
            have p4 := str_same heq.symm
            have HEQ : Hid (o ++ withL e true (l.drop (k + 1)) = withE l e) := by
              show _ = _
              have h := HE.out
              rw [HD.out] at h
              have hl : strLt x.fName e.fName = false := (show strLt x.fName e.fName = false from by rw [heq]; exact strLt_irrefl _)
              have hn2 : x.fName = e.fName := heq
              simpa [withL, hl, hn2, strLt_irrefl] using h
            clear HE HD heq
            have hkn0 : (0 : Int) ≤ (k : Int) := by omega
            have hkn1 : (k : Int) < (n : Int) := by omega
            have hp0 : ∀ W, Below wr.heap.size wr W → W.cell? ⟨b1, o1 + k * 2, none⟩ = some (.string x.fName) := fun W hb => (hb.cell (p := ⟨b1, o1 + k * 2, none⟩) hB1).trans k0
            have hp1 : ∀ W, Below wr.heap.size wr W → W.cell? ⟨w.heap.size, 0, none⟩ = some (.string e.fName) := fun W hb => (HBW.out.under hb).cell 0 _ rfl
            go_wp2_with fail
            refine wp_region_held_drew (S := fun W => Below wr.heap.size wr W) (by kernel_rfl) (Below.drew (Below.refl _ _)) (fun hHeld => ?_)
            refine wpAnyH_take (i := 0) (oi := ⟨some 15, .move (.tmp 6), 4, "l02_files.go:100", #[], none⟩) (v := ?v81) rfl (by kernel_rfl) (by kernel_rfl) (by kernel_rfl) (fun _ _ _ h => h) (Or.inl ⟨by rfl, ?hy81⟩) (by assumption) ?rest81
            case hy81 => (intro w hSw; (try dsimp only at hSw); go_simp; try (with_reducible rfl))
            try simp only [Act.put, List.setIfInBounds_toArray, List.set_cons_zero, List.set_cons_succ]
            refine wpAnyH_take (i := 1) (oi := ⟨some 16, .unOp .not 4 (.tmp 15), 4, "l02_files.go:100", #[⟨0, .data⟩], none⟩) (v := ?v82) rfl (by kernel_rfl) (by kernel_rfl) (by kernel_rfl) (fun _ _ _ h => h) (Or.inl ⟨by rfl, ?hy82⟩) (by assumption) ?rest82
            case hy82 => (intro w hSw; (try dsimp only at hSw); go_simp; try (with_reducible rfl))
            try simp only [Act.put, List.setIfInBounds_toArray, List.set_cons_zero, List.set_cons_succ]
            refine wpAnyH_take (i := 2) (oi := ⟨some 17, .move (.tmp 16), 4, "l02_files.go:100", #[⟨1, .data⟩], none⟩) (v := ?v83) rfl (by kernel_rfl) (by kernel_rfl) (by kernel_rfl) (fun _ _ _ h => h) (Or.inl ⟨by rfl, ?hy83⟩) (by assumption) ?rest83
            case hy83 => (intro w hSw; (try dsimp only at hSw); go_simp; try (with_reducible rfl))
            try simp only [Act.put, List.setIfInBounds_toArray, List.set_cons_zero, List.set_cons_succ]
            refine wpAnyH_take (i := 3) (oi := ⟨some 18, .move (.tmp 0), 25, "l02_files.go:100", #[⟨2, .guard⟩], some (2, true)⟩) (v := undef) rfl (by kernel_rfl) (by kernel_rfl) (by kernel_rfl) (fun _ _ _ h => h) (Or.inr ⟨by rfl, rfl⟩) (by assumption) ?rest84
            try simp only [Act.put, List.setIfInBounds_toArray, List.set_cons_zero, List.set_cons_succ]
            refine wpAnyH_take (i := 4) (oi := ⟨some 19, .move (.tmp 7), 3, "l02_files.go:100", #[⟨2, .guard⟩], some (2, true)⟩) (v := undef) rfl (by kernel_rfl) (by kernel_rfl) (by kernel_rfl) (fun _ _ _ h => h) (Or.inr ⟨by rfl, rfl⟩) (by assumption) ?rest85
            try simp only [Act.put, List.setIfInBounds_toArray, List.set_cons_zero, List.set_cons_succ]
            refine wpAnyH_take (i := 5) (oi := ⟨some 20, .indexAddr 25 (.tmp 18) (.tmp 19), 0, "l02_files.go:100", #[⟨3, .data⟩, ⟨4, .data⟩, ⟨2, .guard⟩], some (2, true)⟩) (v := undef) rfl (by kernel_rfl) (by kernel_rfl) (by kernel_rfl) (fun _ _ _ h => h) (Or.inr ⟨by rfl, rfl⟩) (by assumption) ?rest86
            try simp only [Act.put, List.setIfInBounds_toArray, List.set_cons_zero, List.set_cons_succ]
            refine wpAnyH_take (i := 6) (oi := ⟨some 21, .fieldAddr 91 (.tmp 20) 0, 0, "l02_files.go:100", #[⟨5, .data⟩, ⟨2, .guard⟩], some (2, true)⟩) (v := undef) rfl (by kernel_rfl) (by kernel_rfl) (by kernel_rfl) (fun _ _ _ h => h) (Or.inr ⟨by rfl, rfl⟩) (by assumption) ?rest87
            try simp only [Act.put, List.setIfInBounds_toArray, List.set_cons_zero, List.set_cons_succ]
            refine wpAnyH_take (i := 7) (oi := ⟨some 22, .load 9 (.tmp 21), 9, "l02_files.go:100", #[⟨6, .data⟩, ⟨2, .guard⟩], some (2, true)⟩) (v := undef) rfl (by kernel_rfl) (by kernel_rfl) (by kernel_rfl) (fun _ _ _ h => h) (Or.inr ⟨by rfl, rfl⟩) (by assumption) ?rest88
            try simp only [Act.put, List.setIfInBounds_toArray, List.set_cons_zero, List.set_cons_succ]
            refine wpAnyH_take (i := 8) (oi := ⟨some 23, .fieldAddr 91 (.tmp 3) 0, 0, "l02_files.go:100", #[⟨2, .guard⟩], some (2, true)⟩) (v := undef) rfl (by kernel_rfl) (by kernel_rfl) (by kernel_rfl) (fun _ _ _ h => h) (Or.inr ⟨by rfl, rfl⟩) (by assumption) ?rest89
            try simp only [Act.put, List.setIfInBounds_toArray, List.set_cons_zero, List.set_cons_succ]
            refine wpAnyH_take (i := 9) (oi := ⟨some 24, .load 9 (.tmp 23), 9, "l02_files.go:100", #[⟨8, .data⟩, ⟨2, .guard⟩], some (2, true)⟩) (v := undef) rfl (by kernel_rfl) (by kernel_rfl) (by kernel_rfl) (fun _ _ _ h => h) (Or.inr ⟨by rfl, rfl⟩) (by assumption) ?rest90
            try simp only [Act.put, List.setIfInBounds_toArray, List.set_cons_zero, List.set_cons_succ]
            refine wpAnyH_take (i := 10) (oi := ⟨some 25, .binOp .geq 9 (.tmp 22) (.tmp 24) 9, 4, "l02_files.go:100", #[⟨7, .data⟩, ⟨9, .data⟩, ⟨2, .guard⟩], some (2, true)⟩) (v := undef) rfl (by kernel_rfl) (by kernel_rfl) (by kernel_rfl) (fun _ _ _ h => h) (Or.inr ⟨by rfl, rfl⟩) (by assumption) ?rest91
            try simp only [Act.put, List.setIfInBounds_toArray, List.set_cons_zero, List.set_cons_succ]
            refine wpAnyH_take (i := 11) (oi := ⟨some 26, .pick (.tmp 17) (.tmp 25) (.const (.bool false)), 4, "l02_files.go:100", #[⟨2, .data⟩, ⟨10, .data⟩], none⟩) (v := ?v92) rfl (by kernel_rfl) (by kernel_rfl) (by kernel_rfl) (fun _ _ _ h => h) (Or.inl ⟨by rfl, ?hy92⟩) (by assumption) ?rest92
            case hy92 => (intro w hSw; (try dsimp only at hSw); go_simp; try (with_reducible rfl))
            try simp only [Act.put, List.setIfInBounds_toArray, List.set_cons_zero, List.set_cons_succ]
            refine wpAnyH_done (by kernel_rfl) ?_ _
            obtain ⟨wd, hwd⟩ : ∃ W9, W9 = wr.drew := ⟨_, rfl⟩
            rw [← hwd] at hHeld ⊢
            have HRowd := Hid.mk (RowR.keep rEntry_good HRow.out hHeld hbz)
            have hbkd := bthen hbk hHeld
            have HBWd := Hid.mk (HBW.out.under hHeld)
            have HREd := Hid.mk (rEntry_good.below HRE.out (hHeld.mono hbz))
            have hzd := hHeld.size
            have k0d := (hHeld.cell (p := ⟨b1, o1 + k * 2, none⟩) hB1).trans k0
            have k1d := (hHeld.cell (p := ⟨b1, o1 + k * 2 + 1, none⟩) hB1).trans k1
            have c0d := HBWd.out.cell 0 _ rfl
            have c1d := HBWd.out.cell 1 _ rfl
            have hB1d : b1 < wd.heap.size := Nat.lt_of_lt_of_le hB1 hzd
            have hbzd : w.heap.size ≤ wd.heap.size := Nat.le_trans hbz hzd
            have hbz1d : w.heap.size + 1 ≤ wd.heap.size := Nat.le_trans hbz1 hzd
            clear k0 k1 c0' c1' hB1 hbz hbz1 hbk HBW HRE HRow hwd hHeld hp0 hp1 hzd
            have k0 := k0d
            have k1 := k1d
            have c0' := c0d
            have c1' := c1d
            have hB1 := hB1d
            have hbz := hbzd
            have hbz1 := hbz1d
            have hbk := hbkd
            have HBW := HBWd
            have HRE := HREd
            have HRow := HRowd
            clear k0d k1d c0d c1d hB1d hbzd hbz1d hbkd HBWd HREd HRowd
            have hp0 : ∀ W, Below wd.heap.size wd W → W.cell? ⟨b1, o1 + k * 2, none⟩ = some (.string x.fName) := fun W hb => (hb.cell (p := ⟨b1, o1 + k * 2, none⟩) hB1).trans k0
            have hp1 : ∀ W, Below wd.heap.size wd W → W.cell? ⟨w.heap.size, 0, none⟩ = some (.string e.fName) := fun W hb => (HBW.out.under hb).cell 0 _ rfl
            go_wp2_with fail
            refine wp_region_held_drew (S := fun W => Below wd.heap.size wd W) (by kernel_rfl) (Below.drew (Below.refl _ _)) (fun hHeld => ?_)
            refine wpAnyH_take (i := 0) (oi := ⟨some 31, .move (.tmp 0), 25, "l02_files.go:104", #[], none⟩) (v := ?v93) rfl (by kernel_rfl) (by kernel_rfl) (by kernel_rfl) (fun _ _ _ h => h) (Or.inl ⟨by rfl, ?hy93⟩) (by assumption) ?rest93
            case hy93 => (intro w hSw; (try dsimp only at hSw); go_simp; try (with_reducible rfl))
            try simp only [Act.put, List.setIfInBounds_toArray, List.set_cons_zero, List.set_cons_succ]
            refine wpAnyH_take (i := 1) (oi := ⟨some 32, .move (.tmp 7), 3, "l02_files.go:104", #[], none⟩) (v := ?v94) rfl (by kernel_rfl) (by kernel_rfl) (by kernel_rfl) (fun _ _ _ h => h) (Or.inl ⟨by rfl, ?hy94⟩) (by assumption) ?rest94
            case hy94 => (intro w hSw; (try dsimp only at hSw); go_simp; try (with_reducible rfl))
            try simp only [Act.put, List.setIfInBounds_toArray, List.set_cons_zero, List.set_cons_succ]
            refine wpAnyH_take (i := 2) (oi := ⟨some 33, .indexAddr 25 (.tmp 31) (.tmp 32), 0, "l02_files.go:104", #[⟨0, .data⟩, ⟨1, .data⟩], none⟩) (v := ?v95) rfl (by kernel_rfl) (by kernel_rfl) (by kernel_rfl) (fun _ _ _ h => h) (Or.inl ⟨by rfl, ?hy95⟩) (by assumption) ?rest95
            case hy95 => (intro w hSw; (try dsimp only at hSw); go_simp; try (with_reducible rfl))
            try simp only [Act.put, List.setIfInBounds_toArray, List.set_cons_zero, List.set_cons_succ]
            refine wpAnyH_take (i := 3) (oi := ⟨some 34, .fieldAddr 91 (.tmp 33) 0, 0, "l02_files.go:104", #[⟨2, .data⟩], none⟩) (v := ?v96) rfl (by kernel_rfl) (by kernel_rfl) (by kernel_rfl) (fun _ _ _ h => h) (Or.inl ⟨by rfl, ?hy96⟩) (by assumption) ?rest96
            case hy96 => (intro w hSw; (try dsimp only at hSw); go_simp; try (with_reducible rfl))
            try simp only [Act.put, List.setIfInBounds_toArray, List.set_cons_zero, List.set_cons_succ]
            refine wpAnyH_take (i := 4) (oi := ⟨some 35, .load 9 (.tmp 34), 9, "l02_files.go:104", #[⟨3, .data⟩], none⟩) (v := ?v97) rfl (by kernel_rfl) (by kernel_rfl) (by kernel_rfl) (fun _ _ _ h => h) (Or.inl ⟨by rfl, ?hy97⟩) (by assumption) ?rest97
            case hy97 => (intro w hSw; (try dsimp only at hSw); go_simp; try (with_reducible rfl))
            try simp only [Act.put, List.setIfInBounds_toArray, List.set_cons_zero, List.set_cons_succ]
            refine wpAnyH_take (i := 5) (oi := ⟨some 36, .fieldAddr 91 (.tmp 3) 0, 0, "l02_files.go:104", #[], none⟩) (v := ?v98) rfl (by kernel_rfl) (by kernel_rfl) (by kernel_rfl) (fun _ _ _ h => h) (Or.inl ⟨by rfl, ?hy98⟩) (by assumption) ?rest98
            case hy98 => (intro w hSw; (try dsimp only at hSw); go_simp; try (with_reducible rfl))
            try simp only [Act.put, List.setIfInBounds_toArray, List.set_cons_zero, List.set_cons_succ]
            refine wpAnyH_take (i := 6) (oi := ⟨some 37, .load 9 (.tmp 36), 9, "l02_files.go:104", #[⟨5, .data⟩], none⟩) (v := ?v99) rfl (by kernel_rfl) (by kernel_rfl) (by kernel_rfl) (fun _ _ _ h => h) (Or.inl ⟨by rfl, ?hy99⟩) (by assumption) ?rest99
            case hy99 => (intro w hSw; (try dsimp only at hSw); go_simp; try (with_reducible rfl))
            try simp only [Act.put, List.setIfInBounds_toArray, List.set_cons_zero, List.set_cons_succ]
            refine wpAnyH_take (i := 7) (oi := ⟨some 38, .binOp .neq 9 (.tmp 35) (.tmp 37) 9, 4, "l02_files.go:104", #[⟨4, .data⟩, ⟨6, .data⟩], none⟩) (v := ?v100) rfl (by kernel_rfl) (by kernel_rfl) (by kernel_rfl) (fun _ _ _ h => h) (Or.inl ⟨by rfl, ?hy100⟩) (by assumption) ?rest100
            case hy100 => (intro w hSw; (try dsimp only at hSw); go_simp; try (with_reducible rfl))
            try simp only [Act.put, List.setIfInBounds_toArray, List.set_cons_zero, List.set_cons_succ]
            refine wpAnyH_done (by kernel_rfl) ?_ _
            obtain ⟨we, hwd⟩ : ∃ W9, W9 = wd.drew := ⟨_, rfl⟩
            rw [← hwd] at hHeld ⊢
            have HRowd := Hid.mk (RowR.keep rEntry_good HRow.out hHeld hbz)
            have hbkd := bthen hbk hHeld
            have HBWd := Hid.mk (HBW.out.under hHeld)
            have HREd := Hid.mk (rEntry_good.below HRE.out (hHeld.mono hbz))
            have hzd := hHeld.size
            have k0d := (hHeld.cell (p := ⟨b1, o1 + k * 2, none⟩) hB1).trans k0
            have k1d := (hHeld.cell (p := ⟨b1, o1 + k * 2 + 1, none⟩) hB1).trans k1
            have c0d := HBWd.out.cell 0 _ rfl
            have c1d := HBWd.out.cell 1 _ rfl
            have hB1d : b1 < we.heap.size := Nat.lt_of_lt_of_le hB1 hzd
            have hbzd : w.heap.size ≤ we.heap.size := Nat.le_trans hbz hzd
            have hbz1d : w.heap.size + 1 ≤ we.heap.size := Nat.le_trans hbz1 hzd
            clear k0 k1 c0' c1' hB1 hbz hbz1 hbk HBW HRE HRow hwd hHeld hp0 hp1 hzd
            have k0 := k0d
            have k1 := k1d
            have c0' := c0d
            have c1' := c1d
            have hB1 := hB1d
            have hbz := hbzd
            have hbz1 := hbz1d
            have hbk := hbkd
            have HBW := HBWd
            have HRE := HREd
            have HRow := HRowd
            clear k0d k1d c0d c1d hB1d hbzd hbz1d hbkd HBWd HREd HRowd
            go_wp2_with fail
            go_roundw
            case rel => exact ⟨k + 1, o, true, by omega, rfl, by go_num, by omega, HEQ.out, HRow.out, hbk, HBW.out⟩
            case measure => simp [intOf]; omega
          · have hgt := strLt_tri (Bool.eq_false_iff.2 hlt) heq
            clear hlt heq
            obtain ⟨p1, p2, p3⟩ := strLt_facts hgt
            have p4 : (x.fName.toList == e.fName.toList) = false := str_ne (fun h => by rw [h, strLt_irrefl] at hgt; cases hgt)
            have HEQ : Hid (o ++ [x] ++ withL e true (l.drop (k + 1)) = withE l e) := by
              show _ = _
              have h := HE.out
              rw [HD.out] at h
              have hl : strLt x.fName e.fName = false := strLt_asymm hgt
              have hn2 : ¬ x.fName = e.fName := (fun h => by rw [h, strLt_irrefl] at hgt; cases hgt)
              simpa [withL, hl, hn2] using h
            clear HE HD hgt
            have hkn0 : (0 : Int) ≤ (k : Int) := by omega
            have hkn1 : (k : Int) < (n : Int) := by omega
            have hp0 : ∀ W, Below wr.heap.size wr W → W.cell? ⟨b1, o1 + k * 2, none⟩ = some (.string x.fName) := fun W hb => (hb.cell (p := ⟨b1, o1 + k * 2, none⟩) hB1).trans k0
            have hp1 : ∀ W, Below wr.heap.size wr W → W.cell? ⟨w.heap.size, 0, none⟩ = some (.string e.fName) := fun W hb => (HBW.out.under hb).cell 0 _ rfl
            go_wp2_with fail
            refine wp_region_held_drew (S := fun W => Below wr.heap.size wr W) (by kernel_rfl) (Below.drew (Below.refl _ _)) (fun hHeld => ?_)
            refine wpAnyH_take (i := 0) (oi := ⟨some 15, .move (.tmp 6), 4, "l02_files.go:100", #[], none⟩) (v := ?v101) rfl (by kernel_rfl) (by kernel_rfl) (by kernel_rfl) (fun _ _ _ h => h) (Or.inl ⟨by rfl, ?hy101⟩) (by assumption) ?rest101
            case hy101 => (intro w hSw; (try dsimp only at hSw); go_simp; try (with_reducible rfl))
            try simp only [Act.put, List.setIfInBounds_toArray, List.set_cons_zero, List.set_cons_succ]
            refine wpAnyH_take (i := 1) (oi := ⟨some 16, .unOp .not 4 (.tmp 15), 4, "l02_files.go:100", #[⟨0, .data⟩], none⟩) (v := ?v102) rfl (by kernel_rfl) (by kernel_rfl) (by kernel_rfl) (fun _ _ _ h => h) (Or.inl ⟨by rfl, ?hy102⟩) (by assumption) ?rest102
            case hy102 => (intro w hSw; (try dsimp only at hSw); go_simp; try (with_reducible rfl))
            try simp only [Act.put, List.setIfInBounds_toArray, List.set_cons_zero, List.set_cons_succ]
            refine wpAnyH_take (i := 2) (oi := ⟨some 17, .move (.tmp 16), 4, "l02_files.go:100", #[⟨1, .data⟩], none⟩) (v := ?v103) rfl (by kernel_rfl) (by kernel_rfl) (by kernel_rfl) (fun _ _ _ h => h) (Or.inl ⟨by rfl, ?hy103⟩) (by assumption) ?rest103
            case hy103 => (intro w hSw; (try dsimp only at hSw); go_simp; try (with_reducible rfl))
            try simp only [Act.put, List.setIfInBounds_toArray, List.set_cons_zero, List.set_cons_succ]
            refine wpAnyH_take (i := 3) (oi := ⟨some 18, .move (.tmp 0), 25, "l02_files.go:100", #[⟨2, .guard⟩], some (2, true)⟩) (v := undef) rfl (by kernel_rfl) (by kernel_rfl) (by kernel_rfl) (fun _ _ _ h => h) (Or.inr ⟨by rfl, rfl⟩) (by assumption) ?rest104
            try simp only [Act.put, List.setIfInBounds_toArray, List.set_cons_zero, List.set_cons_succ]
            refine wpAnyH_take (i := 4) (oi := ⟨some 19, .move (.tmp 7), 3, "l02_files.go:100", #[⟨2, .guard⟩], some (2, true)⟩) (v := undef) rfl (by kernel_rfl) (by kernel_rfl) (by kernel_rfl) (fun _ _ _ h => h) (Or.inr ⟨by rfl, rfl⟩) (by assumption) ?rest105
            try simp only [Act.put, List.setIfInBounds_toArray, List.set_cons_zero, List.set_cons_succ]
            refine wpAnyH_take (i := 5) (oi := ⟨some 20, .indexAddr 25 (.tmp 18) (.tmp 19), 0, "l02_files.go:100", #[⟨3, .data⟩, ⟨4, .data⟩, ⟨2, .guard⟩], some (2, true)⟩) (v := undef) rfl (by kernel_rfl) (by kernel_rfl) (by kernel_rfl) (fun _ _ _ h => h) (Or.inr ⟨by rfl, rfl⟩) (by assumption) ?rest106
            try simp only [Act.put, List.setIfInBounds_toArray, List.set_cons_zero, List.set_cons_succ]
            refine wpAnyH_take (i := 6) (oi := ⟨some 21, .fieldAddr 91 (.tmp 20) 0, 0, "l02_files.go:100", #[⟨5, .data⟩, ⟨2, .guard⟩], some (2, true)⟩) (v := undef) rfl (by kernel_rfl) (by kernel_rfl) (by kernel_rfl) (fun _ _ _ h => h) (Or.inr ⟨by rfl, rfl⟩) (by assumption) ?rest107
            try simp only [Act.put, List.setIfInBounds_toArray, List.set_cons_zero, List.set_cons_succ]
            refine wpAnyH_take (i := 7) (oi := ⟨some 22, .load 9 (.tmp 21), 9, "l02_files.go:100", #[⟨6, .data⟩, ⟨2, .guard⟩], some (2, true)⟩) (v := undef) rfl (by kernel_rfl) (by kernel_rfl) (by kernel_rfl) (fun _ _ _ h => h) (Or.inr ⟨by rfl, rfl⟩) (by assumption) ?rest108
            try simp only [Act.put, List.setIfInBounds_toArray, List.set_cons_zero, List.set_cons_succ]
            refine wpAnyH_take (i := 8) (oi := ⟨some 23, .fieldAddr 91 (.tmp 3) 0, 0, "l02_files.go:100", #[⟨2, .guard⟩], some (2, true)⟩) (v := undef) rfl (by kernel_rfl) (by kernel_rfl) (by kernel_rfl) (fun _ _ _ h => h) (Or.inr ⟨by rfl, rfl⟩) (by assumption) ?rest109
            try simp only [Act.put, List.setIfInBounds_toArray, List.set_cons_zero, List.set_cons_succ]
            refine wpAnyH_take (i := 9) (oi := ⟨some 24, .load 9 (.tmp 23), 9, "l02_files.go:100", #[⟨8, .data⟩, ⟨2, .guard⟩], some (2, true)⟩) (v := undef) rfl (by kernel_rfl) (by kernel_rfl) (by kernel_rfl) (fun _ _ _ h => h) (Or.inr ⟨by rfl, rfl⟩) (by assumption) ?rest110
            try simp only [Act.put, List.setIfInBounds_toArray, List.set_cons_zero, List.set_cons_succ]
            refine wpAnyH_take (i := 10) (oi := ⟨some 25, .binOp .geq 9 (.tmp 22) (.tmp 24) 9, 4, "l02_files.go:100", #[⟨7, .data⟩, ⟨9, .data⟩, ⟨2, .guard⟩], some (2, true)⟩) (v := undef) rfl (by kernel_rfl) (by kernel_rfl) (by kernel_rfl) (fun _ _ _ h => h) (Or.inr ⟨by rfl, rfl⟩) (by assumption) ?rest111
            try simp only [Act.put, List.setIfInBounds_toArray, List.set_cons_zero, List.set_cons_succ]
            refine wpAnyH_take (i := 11) (oi := ⟨some 26, .pick (.tmp 17) (.tmp 25) (.const (.bool false)), 4, "l02_files.go:100", #[⟨2, .data⟩, ⟨10, .data⟩], none⟩) (v := ?v112) rfl (by kernel_rfl) (by kernel_rfl) (by kernel_rfl) (fun _ _ _ h => h) (Or.inl ⟨by rfl, ?hy112⟩) (by assumption) ?rest112
            case hy112 => (intro w hSw; (try dsimp only at hSw); go_simp; try (with_reducible rfl))
            try simp only [Act.put, List.setIfInBounds_toArray, List.set_cons_zero, List.set_cons_succ]
            refine wpAnyH_done (by kernel_rfl) ?_ _
            obtain ⟨wd, hwd⟩ : ∃ W9, W9 = wr.drew := ⟨_, rfl⟩
            rw [← hwd] at hHeld ⊢
            have HRowd := Hid.mk (RowR.keep rEntry_good HRow.out hHeld hbz)
            have hbkd := bthen hbk hHeld
            have HBWd := Hid.mk (HBW.out.under hHeld)
            have HREd := Hid.mk (rEntry_good.below HRE.out (hHeld.mono hbz))
            have hzd := hHeld.size
            have k0d := (hHeld.cell (p := ⟨b1, o1 + k * 2, none⟩) hB1).trans k0
            have k1d := (hHeld.cell (p := ⟨b1, o1 + k * 2 + 1, none⟩) hB1).trans k1
            have c0d := HBWd.out.cell 0 _ rfl
            have c1d := HBWd.out.cell 1 _ rfl
            have hB1d : b1 < wd.heap.size := Nat.lt_of_lt_of_le hB1 hzd
            have hbzd : w.heap.size ≤ wd.heap.size := Nat.le_trans hbz hzd
            have hbz1d : w.heap.size + 1 ≤ wd.heap.size := Nat.le_trans hbz1 hzd
            clear k0 k1 c0' c1' hB1 hbz hbz1 hbk HBW HRE HRow hwd hHeld hp0 hp1 hzd
            have k0 := k0d
            have k1 := k1d
            have c0' := c0d
            have c1' := c1d
            have hB1 := hB1d
            have hbz := hbzd
            have hbz1 := hbz1d
            have hbk := hbkd
            have HBW := HBWd
            have HRE := HREd
            have HRow := HRowd
            clear k0d k1d c0d c1d hB1d hbzd hbz1d hbkd HBWd HREd HRowd
            have hp0 : ∀ W, Below wd.heap.size wd W → W.cell? ⟨b1, o1 + k * 2, none⟩ = some (.string x.fName) := fun W hb => (hb.cell (p := ⟨b1, o1 + k * 2, none⟩) hB1).trans k0
            have hp1 : ∀ W, Below wd.heap.size wd W → W.cell? ⟨w.heap.size, 0, none⟩ = some (.string e.fName) := fun W hb => (HBW.out.under hb).cell 0 _ rfl
            go_wp2_with fail
            refine wp_region_held_drew (S := fun W => Below wd.heap.size wd W) (by kernel_rfl) (Below.drew (Below.refl _ _)) (fun hHeld => ?_)
            refine wpAnyH_take (i := 0) (oi := ⟨some 31, .move (.tmp 0), 25, "l02_files.go:104", #[], none⟩) (v := ?v113) rfl (by kernel_rfl) (by kernel_rfl) (by kernel_rfl) (fun _ _ _ h => h) (Or.inl ⟨by rfl, ?hy113⟩) (by assumption) ?rest113
            case hy113 => (intro w hSw; (try dsimp only at hSw); go_simp; try (with_reducible rfl))
            try simp only [Act.put, List.setIfInBounds_toArray, List.set_cons_zero, List.set_cons_succ]
            refine wpAnyH_take (i := 1) (oi := ⟨some 32, .move (.tmp 7), 3, "l02_files.go:104", #[], none⟩) (v := ?v114) rfl (by kernel_rfl) (by kernel_rfl) (by kernel_rfl) (fun _ _ _ h => h) (Or.inl ⟨by rfl, ?hy114⟩) (by assumption) ?rest114
            case hy114 => (intro w hSw; (try dsimp only at hSw); go_simp; try (with_reducible rfl))
            try simp only [Act.put, List.setIfInBounds_toArray, List.set_cons_zero, List.set_cons_succ]
            refine wpAnyH_take (i := 2) (oi := ⟨some 33, .indexAddr 25 (.tmp 31) (.tmp 32), 0, "l02_files.go:104", #[⟨0, .data⟩, ⟨1, .data⟩], none⟩) (v := ?v115) rfl (by kernel_rfl) (by kernel_rfl) (by kernel_rfl) (fun _ _ _ h => h) (Or.inl ⟨by rfl, ?hy115⟩) (by assumption) ?rest115
            case hy115 => (intro w hSw; (try dsimp only at hSw); go_simp; try (with_reducible rfl))
            try simp only [Act.put, List.setIfInBounds_toArray, List.set_cons_zero, List.set_cons_succ]
            refine wpAnyH_take (i := 3) (oi := ⟨some 34, .fieldAddr 91 (.tmp 33) 0, 0, "l02_files.go:104", #[⟨2, .data⟩], none⟩) (v := ?v116) rfl (by kernel_rfl) (by kernel_rfl) (by kernel_rfl) (fun _ _ _ h => h) (Or.inl ⟨by rfl, ?hy116⟩) (by assumption) ?rest116
            case hy116 => (intro w hSw; (try dsimp only at hSw); go_simp; try (with_reducible rfl))
            try simp only [Act.put, List.setIfInBounds_toArray, List.set_cons_zero, List.set_cons_succ]
            refine wpAnyH_take (i := 4) (oi := ⟨some 35, .load 9 (.tmp 34), 9, "l02_files.go:104", #[⟨3, .data⟩], none⟩) (v := ?v117) rfl (by kernel_rfl) (by kernel_rfl) (by kernel_rfl) (fun _ _ _ h => h) (Or.inl ⟨by rfl, ?hy117⟩) (by assumption) ?rest117
            case hy117 => (intro w hSw; (try dsimp only at hSw); go_simp; try (with_reducible rfl))
            try simp only [Act.put, List.setIfInBounds_toArray, List.set_cons_zero, List.set_cons_succ]
            refine wpAnyH_take (i := 5) (oi := ⟨some 36, .fieldAddr 91 (.tmp 3) 0, 0, "l02_files.go:104", #[], none⟩) (v := ?v118) rfl (by kernel_rfl) (by kernel_rfl) (by kernel_rfl) (fun _ _ _ h => h) (Or.inl ⟨by rfl, ?hy118⟩) (by assumption) ?rest118
            case hy118 => (intro w hSw; (try dsimp only at hSw); go_simp; try (with_reducible rfl))
            try simp only [Act.put, List.setIfInBounds_toArray, List.set_cons_zero, List.set_cons_succ]
            refine wpAnyH_take (i := 6) (oi := ⟨some 37, .load 9 (.tmp 36), 9, "l02_files.go:104", #[⟨5, .data⟩], none⟩) (v := ?v119) rfl (by kernel_rfl) (by kernel_rfl) (by kernel_rfl) (fun _ _ _ h => h) (Or.inl ⟨by rfl, ?hy119⟩) (by assumption) ?rest119
            case hy119 => (intro w hSw; (try dsimp only at hSw); go_simp; try (with_reducible rfl))
            try simp only [Act.put, List.setIfInBounds_toArray, List.set_cons_zero, List.set_cons_succ]
            refine wpAnyH_take (i := 7) (oi := ⟨some 38, .binOp .neq 9 (.tmp 35) (.tmp 37) 9, 4, "l02_files.go:104", #[⟨4, .data⟩, ⟨6, .data⟩], none⟩) (v := ?v120) rfl (by kernel_rfl) (by kernel_rfl) (by kernel_rfl) (fun _ _ _ h => h) (Or.inl ⟨by rfl, ?hy120⟩) (by assumption) ?rest120
            case hy120 => (intro w hSw; (try dsimp only at hSw); go_simp; try (with_reducible rfl))
            try simp only [Act.put, List.setIfInBounds_toArray, List.set_cons_zero, List.set_cons_succ]
            refine wpAnyH_done (by kernel_rfl) ?_ _
            obtain ⟨we, hwd⟩ : ∃ W9, W9 = wd.drew := ⟨_, rfl⟩
            rw [← hwd] at hHeld ⊢
            have HRowd := Hid.mk (RowR.keep rEntry_good HRow.out hHeld hbz)
            have hbkd := bthen hbk hHeld
            have HBWd := Hid.mk (HBW.out.under hHeld)
            have HREd := Hid.mk (rEntry_good.below HRE.out (hHeld.mono hbz))
            have hzd := hHeld.size
            have k0d := (hHeld.cell (p := ⟨b1, o1 + k * 2, none⟩) hB1).trans k0
            have k1d := (hHeld.cell (p := ⟨b1, o1 + k * 2 + 1, none⟩) hB1).trans k1
            have c0d := HBWd.out.cell 0 _ rfl
            have c1d := HBWd.out.cell 1 _ rfl
            have hB1d : b1 < we.heap.size := Nat.lt_of_lt_of_le hB1 hzd
            have hbzd : w.heap.size ≤ we.heap.size := Nat.le_trans hbz hzd
            have hbz1d : w.heap.size + 1 ≤ we.heap.size := Nat.le_trans hbz1 hzd
            clear k0 k1 c0' c1' hB1 hbz hbz1 hbk HBW HRE HRow hwd hHeld hp0 hp1 hzd
            have k0 := k0d
            have k1 := k1d
            have c0' := c0d
            have c1' := c1d
            have hB1 := hB1d
            have hbz := hbzd
            have hbz1 := hbz1d
            have hbk := hbkd
            have HBW := HBWd
            have HRE := HREd
            have HRow := HRowd
            clear k0d k1d c0d c1d hB1d hbzd hbz1d hbkd HBWd HREd HRowd
            obtain ⟨css5, r1, r2, r3, r4⟩ := HRow.out
            go_wp2_with (at_builtin; refine wpList_append_own_at _ rfl _ _ 25 rfl (w.heap.size + 1) 91 iE (.agg #[.string ⟨#[]⟩, .int .i64 0]) 2 24 Try.underlying25 hiE hzE0 hzE1 hzE2 rfl (by decide) _ _ _ rfl (own_below r4 ((Below.refl _ _).alloc (Nat.le_refl _) _)) ⟨we.heap.size, 0, none⟩ 1 1 [.string x.fName, .int .i64 x.fId] rfl rfl (bx_news (Bx.new we _ _)) (by intro u hu; simp at hu; rcases hu with rfl | rfl <;> rfl) (by unfold maxLen; omega) (by omega) (by simp; omega) ?_; intro v5 w5 hown5 hgrow5 hnil5 hloc5)
            have hT5 := Turn.after ((Below.refl we.heap.size we).alloc (Nat.le_refl _) _) (turnOwn hgrow5)
            have hge5 : ∀ k, k ∈ (Value.ownBlock _).toList → w.heap.size + 1 ≤ k := fun k hk => (r4.lt k (by simpa using hk)).1
            have hBl5 : Below w.heap.size we w5 := Turn.below hT5 (fun k hk => by have := hge5 k hk; omega) hbz
            have HRowd := Hid.mk (RowR.push rEntry_good r1 r2 r3 hBl5 rfl (rEntry_good.below HRE.out hBl5) hown5)
            have hbkd := hbk.trans hBl5
            have HBWd := Hid.mk (HBW.out.turn hT5 (fun h => by have := hge5 _ h; omega))
            have HREd := Hid.mk (rEntry_good.below HRE.out hBl5)
            have hzd := hT5.size
            have k0d := (hT5.cell (p := ⟨b1, o1 + k * 2, none⟩) hB1 (fun h => by have := hge5 _ h; have := HBL.out; simp at *; omega)).trans k0
            have k1d := (hT5.cell (p := ⟨b1, o1 + k * 2 + 1, none⟩) hB1 (fun h => by have := hge5 _ h; have := HBL.out; simp at *; omega)).trans k1
            have c0d := HBWd.out.cell 0 _ rfl
            have c1d := HBWd.out.cell 1 _ rfl
            have hB1d : b1 < w5.heap.size := Nat.lt_of_lt_of_le hB1 hzd
            have hbzd : w.heap.size ≤ w5.heap.size := Nat.le_trans hbz hzd
            have hbz1d : w.heap.size + 1 ≤ w5.heap.size := Nat.le_trans hbz1 hzd
            clear k0 k1 c0' c1' hB1 hbz hbz1 hbk HBW HRE HRow hzd r1 r2 r3 r4 hT5 hge5 hBl5 hown5 hgrow5 hnil5 hloc5
            have k0 := k0d
            have k1 := k1d
            have c0' := c0d
            have c1' := c1d
            have hB1 := hB1d
            have hbz := hbzd
            have hbz1 := hbz1d
            have hbk := hbkd
            have HBW := HBWd
            have HRE := HREd
            have HRow := HRowd
            clear k0d k1d c0d c1d hB1d hbzd hbz1d hbkd HBWd HREd HRowd
            go_roundw
            case rel => exact ⟨k + 1, o ++ [x], true, by omega, rfl, by go_num, by simp; omega, HEQ.out, HRow.out, hbk, HBW.out⟩
            case measure => simp [intOf]; omega
    · obtain ⟨css, r1, r2, r3, r4⟩ := HRow.out
      have hkn : k = n := by omega
      have HDN : Hid (l.drop k = []) := by show _ = _; rw [hkn, ← HX.out]; exact List.drop_length
      cases p
      · have HEQ : Hid (o ++ [e] = withE l e) := by show _ = _; have h := HE.out; rw [HDN.out] at h; simpa [withL] using h
        clear HE HDN
        go_wp2_with (at_builtin; refine wpList_append_own_at _ rfl _ _ 25 rfl (w.heap.size + 1) 91 iE (.agg #[.string ⟨#[]⟩, .int .i64 0]) 2 24 Try.underlying25 hiE hzE0 hzE1 hzE2 rfl (by decide) _ _ _ rfl (own_below r4 ((Below.refl _ _).alloc (Nat.le_refl _) _)) ⟨wr.heap.size, 0, none⟩ 1 1 [.string e.fName, .int .i64 e.fId] rfl rfl (bx_news (Bx.new wr _ _)) (by intro u hu; simp at hu; rcases hu with rfl | rfl <;> rfl) (by unfold maxLen; omega) (by omega) (by simp; omega) ?_; intro v1 w3 hown3 hgrow3 hnil3 hloc3)
        have hT3 := Turn.after ((Below.refl wr.heap.size wr).alloc (Nat.le_refl _) _) (turnOwn hgrow3)
        have hge3 : ∀ k, k ∈ (Value.ownBlock _).toList → w.heap.size + 1 ≤ k := fun k hk => (r4.lt k (by simpa using hk)).1
        have hBl3 : Below w.heap.size wr w3 := Turn.below hT3 (fun k hk => by have := hge3 k hk; omega) hbz
        have hr3 := RowR.push rEntry_good r1 r2 r3 hBl3 rfl (rEntry_good.below (HEE.out wr) hBl3) hown3
        rw [HEQ.out] at hr3
        obtain ⟨css3, s1, s2, s3, s4⟩ := hr3
        obtain ⟨a', c', rfl⟩ := own_slice s4
        have ho := ownS_row rfl s1 s2 s3 s4
        go_ret
        exact ⟨a', c', _, rfl, ho, (fun b hb => by have := (s4.lt b (by simpa using hb)).1; omega), hbk.trans hBl3⟩
      · have HEQ : Hid (o = withE l e) := by show _ = _; have h := HE.out; rw [HDN.out] at h; simpa [withL] using h
        rw [HEQ.out] at r1 r3 r4
        clear HE HDN
        obtain ⟨a', c', rfl⟩ := own_slice r4
        have ho := ownS_row rfl r1 r2 r3 r4
        have HO := Hid.mk ho
        have HGE : Hid (∀ b, b ∈ (Value.ownBlock (.slice a' (withE l e).length c')).toList → w.heap.size ≤ b) := fun b hb => by have := (r4.lt b (by simpa using hb)).1; omega
        clear ho r1 r2 r3 r4
        go_wp2_with fail
        go_ret
        exact ⟨a', c', _, rfl, HO.out, HGE.out, hbk⟩

end Go.Proofs.Ytcbhmbgmeodjdaa
