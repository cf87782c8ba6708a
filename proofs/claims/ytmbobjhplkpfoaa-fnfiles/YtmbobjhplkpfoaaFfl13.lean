/-
  Part 14 of the texts that the proof leans on.
-/
import Derived.Test.YtmbobjhplkpfoaaFfl0
import Derived.Test.YtmbobjhplkpfoaaFfl2
import Derived.Test.YtmbobjhplkpfoaaFfl12
import Derived.Test.YtmbobjhplkpfoaaFfl6
import Derived.Test.YtmbobjhplkpfoaaFfl4
import Derived.Test.YtmbobjhplkpfoaaFfl1
set_option linter.unusedVariables false
set_option linter.unusedSimpArgs false
set_option maxRecDepth 10000

namespace Go.Proofs.Ytmbobjhplkpfoaa
open Go.RowKit Go.Maps
abbrev q00d_34_6_0 : Oper := ⟨some 15, .move (.tmp 6), 4, "l02_files.go:100", #[], none⟩
abbrev q00d_34_6_1 : Oper := ⟨some 16, .unOp .not 4 (.tmp 15), 4, "l02_files.go:100", #[⟨0, .data⟩], none⟩
abbrev q00d_34_6_2 : Oper := ⟨some 17, .move (.tmp 16), 4, "l02_files.go:100", #[⟨1, .data⟩], none⟩
abbrev q00d_34_6_3 : Oper := ⟨some 18, .move (.tmp 0), 25, "l02_files.go:100", #[⟨2, .guard⟩], some (2, true)⟩
abbrev q00d_34_6_4 : Oper := ⟨some 19, .move (.tmp 7), 3, "l02_files.go:100", #[⟨2, .guard⟩], some (2, true)⟩
abbrev q00d_34_6_5 : Oper := ⟨some 20, .indexAddr 25 (.tmp 18) (.tmp 19), 0, "l02_files.go:100", #[⟨3, .data⟩, ⟨4, .data⟩, ⟨2, .guard⟩], some (2, true)⟩
abbrev q00d_34_6_6 : Oper := ⟨some 21, .fieldAddr 61 (.tmp 20) 0, 0, "l02_files.go:100", #[⟨5, .data⟩, ⟨2, .guard⟩], some (2, true)⟩
abbrev q00d_34_6_7 : Oper := ⟨some 22, .load 9 (.tmp 21), 9, "l02_files.go:100", #[⟨6, .data⟩, ⟨2, .guard⟩], some (2, true)⟩
abbrev q00d_34_6_8 : Oper := ⟨some 23, .fieldAddr 61 (.tmp 3) 0, 0, "l02_files.go:100", #[⟨2, .guard⟩], some (2, true)⟩
abbrev q00d_34_6_9 : Oper := ⟨some 24, .load 9 (.tmp 23), 9, "l02_files.go:100", #[⟨8, .data⟩, ⟨2, .guard⟩], some (2, true)⟩
abbrev q00d_34_6_10 : Oper := ⟨some 25, .binOp .geq 9 (.tmp 22) (.tmp 24) 9, 4, "l02_files.go:100", #[⟨7, .data⟩, ⟨9, .data⟩, ⟨2, .guard⟩], some (2, true)⟩
abbrev q00d_34_6_11 : Oper := ⟨some 26, .pick (.tmp 17) (.tmp 25) (.const (.bool false)), 4, "l02_files.go:100", #[⟨2, .data⟩, ⟨10, .data⟩], none⟩
abbrev q00d_34_9_0 : Oper := ⟨some 31, .move (.tmp 0), 25, "l02_files.go:104", #[], none⟩
abbrev q00d_34_9_1 : Oper := ⟨some 32, .move (.tmp 7), 3, "l02_files.go:104", #[], none⟩
abbrev q00d_34_9_2 : Oper := ⟨some 33, .indexAddr 25 (.tmp 31) (.tmp 32), 0, "l02_files.go:104", #[⟨0, .data⟩, ⟨1, .data⟩], none⟩
abbrev q00d_34_9_3 : Oper := ⟨some 34, .fieldAddr 61 (.tmp 33) 0, 0, "l02_files.go:104", #[⟨2, .data⟩], none⟩
abbrev q00d_34_9_4 : Oper := ⟨some 35, .load 9 (.tmp 34), 9, "l02_files.go:104", #[⟨3, .data⟩], none⟩
abbrev q00d_34_9_5 : Oper := ⟨some 36, .fieldAddr 61 (.tmp 3) 0, 0, "l02_files.go:104", #[], none⟩
abbrev q00d_34_9_6 : Oper := ⟨some 37, .load 9 (.tmp 36), 9, "l02_files.go:104", #[⟨5, .data⟩], none⟩
abbrev q00d_34_9_7 : Oper := ⟨some 38, .binOp .neq 9 (.tmp 35) (.tmp 37) 9, 4, "l02_files.go:104", #[⟨4, .data⟩, ⟨6, .data⟩], none⟩

set_option maxHeartbeats 4000000 in
theorem l2With_any (a : Option Addr) (n c : Nat) (l : List MEntry) (e : MEntry) (w : World) (hx : l.length = n) (hn : n ≤ 1048576) (hl : LeafL 2 rEntry w.heap.size w a c l) (hRi : Rise l) (he1 : e.fName.size ≤ 9223372036854775807) (he2 : (Lit.int .i64 e.fId).wf = true) :
    Calls Try.prog 34 #[.slice a n c, .agg #[.string e.fName, .int .i64 e.fId]] w fun r w' => ∃ (a' : Option Addr) (c' : Nat) (F : List Nat), r = .returned (.slice a' (withE l e).length c') ∧ ownS 2 61 oEntry w' (.slice a' (withE l e).length c') (withE l e) F ∧ (∀ b, b ∈ F → w.heap.size ≤ b) ∧ Below w.heap.size w w' := by
  obtain ⟨iE, hiE, hzE0, hzE1, hzE2⟩ := info_parts Try.infoOfEntry
  have HX := Hid.mk hx
  have HRS := Hid.mk hl.2.2
  have HEE : Hid (∀ W : World, rEntry w.heap.size W [.string e.fName, .int .i64 e.fId] e) := fun W => ⟨rfl, he1, he2, trivial⟩
  have HWL := Hid.mk (withL_false (e := e) hRi)
  clear hx hl hRi he1 he2
  go_enter Try.func34, Try.ntmps34
  go_wp2_with fail
  go_loopw [5, 6, 7] (fun v pv i wr => ∃ (k : Nat) (o : List MEntry) (p : Bool), k ≤ n ∧ pv = .bool p ∧ i = .int .i64 k ∧ o.length ≤ 2 * k ∧ o ++ withL e p (l.drop k) = withE l e ∧ RowR 2 61 rEntry w.heap.size wr (w.heap.size + 1) v o ∧ Below w.heap.size w wr ∧ Bw wr w.heap.size 61 [.string e.fName, .int .i64 e.fId]) (fun _ _ i _ => n - (intOf i).toNat)
  case atStart =>
    refine ⟨0, [], false, Nat.zero_le _, rfl, rfl, by simp, by simpa using HWL.out, ⟨[], rfl, (fun _ h => by cases h), (fun _ h => by simp at h), ?_⟩, Below.alloc (Below.alloc (Below.refl _ _) (Nat.le_refl _) _) (by simp) _, Bw.alloc (Bw.new _ _ _) _⟩
    have h := own_lit0 (w.alloc (.cells #[.string e.fName, .int .i64 e.fId] 61)) (w.heap.size + 1) 61 2 (by simp)
    simpa using h
  case round =>
    obtain ⟨k, o, p, hk, rfl, rfl, hol0, hE, hrow, hbk, hbw⟩ := hrel
    have HE := Hid.mk hE
    have HBW := Hid.mk hbw
    have hbz := hbk.size
    have hlw := hbw.lt
    have hbz1 : w.heap.size + 1 ≤ wr.heap.size := hlw
    have c0' := hbw.cell 0 _ rfl
    have c1' := hbw.cell 1 _ rfl
    have HRow := Hid.mk hrow
    clear hE hbw hrow
    by_cases hlt0 : k < n
    · have hkl : k < l.length := by rw [HX.out]; exact hlt0
      obtain ⟨b1, o1, rfl, hB, cs, hcl, hcell, hrE⟩ := (HRS.out.below rEntry_good hbk) k hkl
      have HD : Hid (l.drop k = l[k] :: l.drop (k + 1)) := List.drop_eq_getElem_cons hkl
      have HRE0 := Hid.mk hrE
      obtain ⟨rfl, hsz, hwf, _⟩ := hrE
      have HRE : Hid (rEntry w.heap.size wr [.string l[k].fName, .int .i64 l[k].fId] l[k]) := HRE0.out
      have k0 := hcell 0 _ rfl
      have k1 := hcell 1 _ rfl
      rw [Nat.add_zero] at k0
      have HBL : Hid (b1 < w.heap.size) := hB
      have hB1 : b1 < wr.heap.size := by omega
      clear hcell hcl HRE0
      obtain ⟨x, hx⟩ : ∃ x, l[k] = x := ⟨_, rfl⟩
      rw [hx] at HRE HD k0 k1
      clear hx hsz hwf hB
      cases p
      · by_cases hlt : strLt x.fName e.fName = true
        · obtain ⟨p1, p2, p3⟩ := strLt_facts hlt
          have p4 : (x.fName.toList == e.fName.toList) = false := str_ne (fun h => by rw [h, strLt_irrefl] at hlt; cases hlt)
          have HEQ : Hid (o ++ [x] ++ withL e false (l.drop (k + 1)) = withE l e) := by
            show _ = _
            have h := HE.out
            rw [HD.out] at h
            have hl : strLt x.fName e.fName = true := hlt
            have hn2 : ¬ x.fName = e.fName := (fun h => by rw [h, strLt_irrefl] at hlt; cases hlt)
            simpa [withL, hl, hn2] using h
          clear HE HD hlt
          have hkn0 : (0 : Int) ≤ (k : Int) := by omega
          have hkn1 : (k : Int) < (n : Int) := by omega
          have hp0 : ∀ W, Below wr.heap.size wr W → W.cell? ⟨b1, o1 + k * 2, none⟩ = some (.string x.fName) := fun W hb => (hb.cell (p := ⟨b1, o1 + k * 2, none⟩) hB1).trans k0
          have hp1 : ∀ W, Below wr.heap.size wr W → W.cell? ⟨w.heap.size, 0, none⟩ = some (.string e.fName) := fun W hb => (HBW.out.under hb).cell 0 _ rfl
          go_wp2_with fail
          refine wp_region_held_drew (S := fun W => Below wr.heap.size wr W) (by kernel_rfl) (Below.drew (Below.refl _ _)) (fun hHeld => ?_)
          refine tk 0 q00d_34_6_0 (some 15) (v := ?v1) rfl rfl (by kernel_rfl) hHeld (by rfl) (fun _ _ _ x => x) (fun w h => ?y1) ?_; (case y1 => (try dsimp only at h); go_simp; try (with_reducible rfl)); try simp only [Act.put, sa, s0, s1]
          refine tk 1 q00d_34_6_1 (some 16) (v := ?v2) rfl rfl (by kernel_rfl) hHeld (by rfl) (fun _ _ _ x => x) (fun w h => ?y2) ?_; (case y2 => (try dsimp only at h); go_simp; try (with_reducible rfl)); try simp only [Act.put, sa, s0, s1]
          refine tk 2 q00d_34_6_2 (some 17) (v := ?v3) rfl rfl (by kernel_rfl) hHeld (by rfl) (fun _ _ _ x => x) (fun w h => ?y3) ?_; (case y3 => (try dsimp only at h); go_simp; try (with_reducible rfl)); try simp only [Act.put, sa, s0, s1]
          refine tk 3 q00d_34_6_3 (some 18) (v := ?v4) rfl rfl (by kernel_rfl) hHeld (by rfl) (fun _ _ _ x => x) (fun w h => ?y4) ?_; (case y4 => (try dsimp only at h); go_simp; try (with_reducible rfl)); try simp only [Act.put, sa, s0, s1]
          refine tk 4 q00d_34_6_4 (some 19) (v := ?v5) rfl rfl (by kernel_rfl) hHeld (by rfl) (fun _ _ _ x => x) (fun w h => ?y5) ?_; (case y5 => (try dsimp only at h); go_simp; try (with_reducible rfl)); try simp only [Act.put, sa, s0, s1]
          refine tk 5 q00d_34_6_5 (some 20) (v := ?v6) rfl rfl (by kernel_rfl) hHeld (by rfl) (fun _ _ _ x => x) (fun w h => ?y6) ?_; (case y6 => (try dsimp only at h); go_simp; try (with_reducible rfl)); try simp only [Act.put, sa, s0, s1]
          refine tk 6 q00d_34_6_6 (some 21) (v := ?v7) rfl rfl (by kernel_rfl) hHeld (by rfl) (fun _ _ _ x => x) (fun w h => ?y7) ?_; (case y7 => (try dsimp only at h); go_simp; try (with_reducible rfl)); try simp only [Act.put, sa, s0, s1]
          refine tk 7 q00d_34_6_7 (some 22) (v := ?v8) rfl rfl (by kernel_rfl) hHeld (by rfl) (fun _ _ _ x => x) (fun w h => ?y8) ?_; (case y8 => (try dsimp only at h); go_simp; try (with_reducible rfl)); try simp only [Act.put, sa, s0, s1]
          refine tk 8 q00d_34_6_8 (some 23) (v := ?v9) rfl rfl (by kernel_rfl) hHeld (by rfl) (fun _ _ _ x => x) (fun w h => ?y9) ?_; (case y9 => (try dsimp only at h); go_simp; try (with_reducible rfl)); try simp only [Act.put, sa, s0, s1]
          refine tk 9 q00d_34_6_9 (some 24) (v := ?v10) rfl rfl (by kernel_rfl) hHeld (by rfl) (fun _ _ _ x => x) (fun w h => ?y10) ?_; (case y10 => (try dsimp only at h); go_simp; try (with_reducible rfl)); try simp only [Act.put, sa, s0, s1]
          refine tk 10 q00d_34_6_10 (some 25) (v := ?v11) rfl rfl (by kernel_rfl) hHeld (by rfl) (fun _ _ _ x => x) (fun w h => ?y11) ?_; (case y11 => (try dsimp only at h); go_simp; try (with_reducible rfl)); try simp only [Act.put, sa, s0, s1]
          refine tk 11 q00d_34_6_11 (some 26) (v := ?v12) rfl rfl (by kernel_rfl) hHeld (by rfl) (fun _ _ _ x => x) (fun w h => ?y12) ?_; (case y12 => (try dsimp only at h); go_simp; try (with_reducible rfl)); try simp only [Act.put, sa, s0, s1]
          refine wpAnyH_done (by kernel_rfl) ?_ _
          obtain ⟨wd, hwd⟩ : ∃ W9, W9 = wr.drew := ⟨_, rfl⟩
          rw [← hwd] at hHeld ⊢
          have HRowd := Hid.mk (RowR.keep rEntry_good HRow.out hHeld hbz)
          have hbkd := bthen hbk hHeld
          have HBWd := Hid.mk (HBW.out.under hHeld)
          have HREd := Hid.mk (rEntry_good.below HRE.out (hHeld.mono hbz))
          have hzd := hHeld.size
          have k0d := (hHeld.cell (p := ⟨b1, o1 + k * 2, none⟩) hB1).trans k0
          have k1d := (hHeld.cell (p := ⟨b1, o1 + k * 2 + 1, none⟩) hB1).trans k1
          have c0d := HBWd.out.cell 0 _ rfl
          have c1d := HBWd.out.cell 1 _ rfl
          have hB1d : b1 < wd.heap.size := Nat.lt_of_lt_of_le hB1 hzd
          have hbzd : w.heap.size ≤ wd.heap.size := Nat.le_trans hbz hzd
          have hbz1d : w.heap.size + 1 ≤ wd.heap.size := Nat.le_trans hbz1 hzd
          clear k0 k1 c0' c1' hB1 hbz hbz1 hbk HBW HRE HRow hwd hHeld hp0 hp1 hzd
          have k0 := k0d
          have k1 := k1d
          have c0' := c0d
          have c1' := c1d
          have hB1 := hB1d
          have hbz := hbzd
          have hbz1 := hbz1d
          have hbk := hbkd
          have HBW := HBWd
          have HRE := HREd
          have HRow := HRowd
          clear k0d k1d c0d c1d hB1d hbzd hbz1d hbkd HBWd HREd HRowd
          have hp0 : ∀ W, Below wd.heap.size wd W → W.cell? ⟨b1, o1 + k * 2, none⟩ = some (.string x.fName) := fun W hb => (hb.cell (p := ⟨b1, o1 + k * 2, none⟩) hB1).trans k0
          have hp1 : ∀ W, Below wd.heap.size wd W → W.cell? ⟨w.heap.size, 0, none⟩ = some (.string e.fName) := fun W hb => (HBW.out.under hb).cell 0 _ rfl
          go_wp2_with fail
          refine wp_region_held_drew (S := fun W => Below wd.heap.size wd W) (by kernel_rfl) (Below.drew (Below.refl _ _)) (fun hHeld => ?_)
          refine tk 0 q00d_34_9_0 (some 31) (v := ?v13) rfl rfl (by kernel_rfl) hHeld (by rfl) (fun _ _ _ x => x) (fun w h => ?y13) ?_; (case y13 => (try dsimp only at h); go_simp; try (with_reducible rfl)); try simp only [Act.put, sa, s0, s1]
          refine tk 1 q00d_34_9_1 (some 32) (v := ?v14) rfl rfl (by kernel_rfl) hHeld (by rfl) (fun _ _ _ x => x) (fun w h => ?y14) ?_; (case y14 => (try dsimp only at h); go_simp; try (with_reducible rfl)); try simp only [Act.put, sa, s0, s1]
          refine tk 2 q00d_34_9_2 (some 33) (v := ?v15) rfl rfl (by kernel_rfl) hHeld (by rfl) (fun _ _ _ x => x) (fun w h => ?y15) ?_; (case y15 => (try dsimp only at h); go_simp; try (with_reducible rfl)); try simp only [Act.put, sa, s0, s1]
          refine tk 3 q00d_34_9_3 (some 34) (v := ?v16) rfl rfl (by kernel_rfl) hHeld (by rfl) (fun _ _ _ x => x) (fun w h => ?y16) ?_; (case y16 => (try dsimp only at h); go_simp; try (with_reducible rfl)); try simp only [Act.put, sa, s0, s1]
          refine tk 4 q00d_34_9_4 (some 35) (v := ?v17) rfl rfl (by kernel_rfl) hHeld (by rfl) (fun _ _ _ x => x) (fun w h => ?y17) ?_; (case y17 => (try dsimp only at h); go_simp; try (with_reducible rfl)); try simp only [Act.put, sa, s0, s1]
          refine tk 5 q00d_34_9_5 (some 36) (v := ?v18) rfl rfl (by kernel_rfl) hHeld (by rfl) (fun _ _ _ x => x) (fun w h => ?y18) ?_; (case y18 => (try dsimp only at h); go_simp; try (with_reducible rfl)); try simp only [Act.put, sa, s0, s1]
          refine tk 6 q00d_34_9_6 (some 37) (v := ?v19) rfl rfl (by kernel_rfl) hHeld (by rfl) (fun _ _ _ x => x) (fun w h => ?y19) ?_; (case y19 => (try dsimp only at h); go_simp; try (with_reducible rfl)); try simp only [Act.put, sa, s0, s1]
          refine tk 7 q00d_34_9_7 (some 38) (v := ?v20) rfl rfl (by kernel_rfl) hHeld (by rfl) (fun _ _ _ x => x) (fun w h => ?y20) ?_; (case y20 => (try dsimp only at h); go_simp; try (with_reducible rfl)); try simp only [Act.put, sa, s0, s1]
          refine wpAnyH_done (by kernel_rfl) ?_ _
          obtain ⟨we, hwd⟩ : ∃ W9, W9 = wd.drew := ⟨_, rfl⟩
          rw [← hwd] at hHeld ⊢
          have HRowd := Hid.mk (RowR.keep rEntry_good HRow.out hHeld hbz)
          have hbkd := bthen hbk hHeld
          have HBWd := Hid.mk (HBW.out.under hHeld)
          have HREd := Hid.mk (rEntry_good.below HRE.out (hHeld.mono hbz))
          have hzd := hHeld.size
          have k0d := (hHeld.cell (p := ⟨b1, o1 + k * 2, none⟩) hB1).trans k0
          have k1d := (hHeld.cell (p := ⟨b1, o1 + k * 2 + 1, none⟩) hB1).trans k1
          have c0d := HBWd.out.cell 0 _ rfl
          have c1d := HBWd.out.cell 1 _ rfl
          have hB1d : b1 < we.heap.size := Nat.lt_of_lt_of_le hB1 hzd
          have hbzd : w.heap.size ≤ we.heap.size := Nat.le_trans hbz hzd
          have hbz1d : w.heap.size + 1 ≤ we.heap.size := Nat.le_trans hbz1 hzd
          clear k0 k1 c0' c1' hB1 hbz hbz1 hbk HBW HRE HRow hwd hHeld hp0 hp1 hzd
          have k0 := k0d
          have k1 := k1d
          have c0' := c0d
          have c1' := c1d
          have hB1 := hB1d
          have hbz := hbzd
          have hbz1 := hbz1d
          have hbk := hbkd
          have HBW := HBWd
          have HRE := HREd
          have HRow := HRowd
          clear k0d k1d c0d c1d hB1d hbzd hbz1d hbkd HBWd HREd HRowd
          obtain ⟨css5, r1, r2, r3, r4⟩ := HRow.out
          go_wp2_with (at_builtin; refine wpList_append_own_at _ rfl _ _ 25 rfl (w.heap.size + 1) 61 iE (.agg #[.string ⟨#[]⟩, .int .i64 0]) 2 24 Try.underlying25 hiE hzE0 hzE1 hzE2 rfl (by decide) _ _ _ rfl (own_below r4 ((Below.refl _ _).alloc (Nat.le_refl _) _)) ⟨we.heap.size, 0, none⟩ 1 1 [.string x.fName, .int .i64 x.fId] rfl rfl (bx_news (Bx.new we _ _)) (by intro u hu; simp at hu; rcases hu with rfl | rfl <;> rfl) (by unfold maxLen; omega) (by omega) (by simp; omega) ?_; intro v5 w5 hown5 hgrow5 hnil5 hloc5)
          have hT5 := Turn.after ((Below.refl we.heap.size we).alloc (Nat.le_refl _) _) (turnOwn hgrow5)
          have hge5 : ∀ k, k ∈ (Value.ownBlock _).toList → w.heap.size + 1 ≤ k := fun k hk => (r4.lt k (by simpa using hk)).1
          have hBl5 : Below w.heap.size we w5 := Turn.below hT5 (fun k hk => by have := hge5 k hk; omega) hbz
          have HRowd := Hid.mk (RowR.push rEntry_good r1 r2 r3 hBl5 rfl (rEntry_good.below HRE.out hBl5) hown5)
          have hbkd := hbk.trans hBl5
          have HBWd := Hid.mk (HBW.out.turn hT5 (fun h => by have := hge5 _ h; omega))
          have HREd := Hid.mk (rEntry_good.below HRE.out hBl5)
          have hzd := hT5.size
          have k0d := (hT5.cell (p := ⟨b1, o1 + k * 2, none⟩) hB1 (fun h => by have := hge5 _ h; have := HBL.out; simp at *; omega)).trans k0
          have k1d := (hT5.cell (p := ⟨b1, o1 + k * 2 + 1, none⟩) hB1 (fun h => by have := hge5 _ h; have := HBL.out; simp at *; omega)).trans k1
          have c0d := HBWd.out.cell 0 _ rfl
          have c1d := HBWd.out.cell 1 _ rfl
          have hB1d : b1 < w5.heap.size := Nat.lt_of_lt_of_le hB1 hzd
          have hbzd : w.heap.size ≤ w5.heap.size := Nat.le_trans hbz hzd
          have hbz1d : w.heap.size + 1 ≤ w5.heap.size := Nat.le_trans hbz1 hzd
          clear k0 k1 c0' c1' hB1 hbz hbz1 hbk HBW HRE HRow hzd r1 r2 r3 r4 hT5 hge5 hBl5 hown5 hgrow5 hnil5 hloc5
          have k0 := k0d
          have k1 := k1d
          have c0' := c0d
          have c1' := c1d
          have hB1 := hB1d
          have hbz := hbzd
          have hbz1 := hbz1d
          have hbk := hbkd
          have HBW := HBWd
          have HRE := HREd
          have HRow := HRowd
          clear k0d k1d c0d c1d hB1d hbzd hbz1d hbkd HBWd HREd HRowd
          go_roundw
          case rel => exact ⟨k + 1, o ++ [x], false, by omega, rfl, by go_num, by simp; omega, HEQ.out, HRow.out, hbk, HBW.out⟩
          case measure => simp [intOf]; omega
        · by_cases heq : x.fName = e.fName
          · clear hlt
            have p1 : Op.bytesLess x.fName.toList e.fName.toList = false := by rw [heq]; exact strLt_irrefl _
            have p2 : Op.bytesLess e.fName.toList x.fName.toList = false := by rw [heq]; exact strLt_irrefl _
            have p3 := str_same heq
            have p4 := str_same heq.symm
            have HEQ : Hid (o ++ [e] ++ withL e true (l.drop (k + 1)) = withE l e) := by
              show _ = _
              have h := HE.out
              rw [HD.out] at h
              have hl : strLt x.fName e.fName = false := (show strLt x.fName e.fName = false from by rw [heq]; exact strLt_irrefl _)
              have hn2 : x.fName = e.fName := heq
              simpa [withL, hl, hn2, strLt_irrefl] using h
            clear HE HD heq
            have hkn0 : (0 : Int) ≤ (k : Int) := by omega
            have hkn1 : (k : Int) < (n : Int) := by omega
            have hp0 : ∀ W, Below wr.heap.size wr W → W.cell? ⟨b1, o1 + k * 2, none⟩ = some (.string x.fName) := fun W hb => (hb.cell (p := ⟨b1, o1 + k * 2, none⟩) hB1).trans k0
            have hp1 : ∀ W, Below wr.heap.size wr W → W.cell? ⟨w.heap.size, 0, none⟩ = some (.string e.fName) := fun W hb => (HBW.out.under hb).cell 0 _ rfl
            go_wp2_with fail
            refine wp_region_held_drew (S := fun W => Below wr.heap.size wr W) (by kernel_rfl) (Below.drew (Below.refl _ _)) (fun hHeld => ?_)
            refine tk 0 q00d_34_6_0 (some 15) (v := ?v21) rfl rfl (by kernel_rfl) hHeld (by rfl) (fun _ _ _ x => x) (fun w h => ?y21) ?_; (case y21 => (try dsimp only at h); go_simp; try (with_reducible rfl)); try simp only [Act.put, sa, s0, s1]
            refine tk 1 q00d_34_6_1 (some 16) (v := ?v22) rfl rfl (by kernel_rfl) hHeld (by rfl) (fun _ _ _ x => x) (fun w h => ?y22) ?_; (case y22 => (try dsimp only at h); go_simp; try (with_reducible rfl)); try simp only [Act.put, sa, s0, s1]
            refine tk 2 q00d_34_6_2 (some 17) (v := ?v23) rfl rfl (by kernel_rfl) hHeld (by rfl) (fun _ _ _ x => x) (fun w h => ?y23) ?_; (case y23 => (try dsimp only at h); go_simp; try (with_reducible rfl)); try simp only [Act.put, sa, s0, s1]
            refine tk 3 q00d_34_6_3 (some 18) (v := ?v24) rfl rfl (by kernel_rfl) hHeld (by rfl) (fun _ _ _ x => x) (fun w h => ?y24) ?_; (case y24 => (try dsimp only at h); go_simp; try (with_reducible rfl)); try simp only [Act.put, sa, s0, s1]
            refine tk 4 q00d_34_6_4 (some 19) (v := ?v25) rfl rfl (by kernel_rfl) hHeld (by rfl) (fun _ _ _ x => x) (fun w h => ?y25) ?_; (case y25 => (try dsimp only at h); go_simp; try (with_reducible rfl)); try simp only [Act.put, sa, s0, s1]
            refine tk 5 q00d_34_6_5 (some 20) (v := ?v26) rfl rfl (by kernel_rfl) hHeld (by rfl) (fun _ _ _ x => x) (fun w h => ?y26) ?_; (case y26 => (try dsimp only at h); go_simp; try (with_reducible rfl)); try simp only [Act.put, sa, s0, s1]
            refine tk 6 q00d_34_6_6 (some 21) (v := ?v27) rfl rfl (by kernel_rfl) hHeld (by rfl) (fun _ _ _ x => x) (fun w h => ?y27) ?_; (case y27 => (try dsimp only at h); go_simp; try (with_reducible rfl)); try simp only [Act.put, sa, s0, s1]
            refine tk 7 q00d_34_6_7 (some 22) (v := ?v28) rfl rfl (by kernel_rfl) hHeld (by rfl) (fun _ _ _ x => x) (fun w h => ?y28) ?_; (case y28 => (try dsimp only at h); go_simp; try (with_reducible rfl)); try simp only [Act.put, sa, s0, s1]
            refine tk 8 q00d_34_6_8 (some 23) (v := ?v29) rfl rfl (by kernel_rfl) hHeld (by rfl) (fun _ _ _ x => x) (fun w h => ?y29) ?_; (case y29 => (try dsimp only at h); go_simp; try (with_reducible rfl)); try simp only [Act.put, sa, s0, s1]
            refine tk 9 q00d_34_6_9 (some 24) (v := ?v30) rfl rfl (by kernel_rfl) hHeld (by rfl) (fun _ _ _ x => x) (fun w h => ?y30) ?_; (case y30 => (try dsimp only at h); go_simp; try (with_reducible rfl)); try simp only [Act.put, sa, s0, s1]
            refine tk 10 q00d_34_6_10 (some 25) (v := ?v31) rfl rfl (by kernel_rfl) hHeld (by rfl) (fun _ _ _ x => x) (fun w h => ?y31) ?_; (case y31 => (try dsimp only at h); go_simp; try (with_reducible rfl)); try simp only [Act.put, sa, s0, s1]
            refine tk 11 q00d_34_6_11 (some 26) (v := ?v32) rfl rfl (by kernel_rfl) hHeld (by rfl) (fun _ _ _ x => x) (fun w h => ?y32) ?_; (case y32 => (try dsimp only at h); go_simp; try (with_reducible rfl)); try simp only [Act.put, sa, s0, s1]
            refine wpAnyH_done (by kernel_rfl) ?_ _
            obtain ⟨wd, hwd⟩ : ∃ W9, W9 = wr.drew := ⟨_, rfl⟩
            rw [← hwd] at hHeld ⊢
            have HRowd := Hid.mk (RowR.keep rEntry_good HRow.out hHeld hbz)
            have hbkd := bthen hbk hHeld
            have HBWd := Hid.mk (HBW.out.under hHeld)
            have HREd := Hid.mk (rEntry_good.below HRE.out (hHeld.mono hbz))
            have hzd := hHeld.size
            have k0d := (hHeld.cell (p := ⟨b1, o1 + k * 2, none⟩) hB1).trans k0
            have k1d := (hHeld.cell (p := ⟨b1, o1 + k * 2 + 1, none⟩) hB1).trans k1
            have c0d := HBWd.out.cell 0 _ rfl
            have c1d := HBWd.out.cell 1 _ rfl
            have hB1d : b1 < wd.heap.size := Nat.lt_of_lt_of_le hB1 hzd
            have hbzd : w.heap.size ≤ wd.heap.size := Nat.le_trans hbz hzd
            have hbz1d : w.heap.size + 1 ≤ wd.heap.size := Nat.le_trans hbz1 hzd
            clear k0 k1 c0' c1' hB1 hbz hbz1 hbk HBW HRE HRow hwd hHeld hp0 hp1 hzd
            have k0 := k0d
            have k1 := k1d
            have c0' := c0d
            have c1' := c1d
            have hB1 := hB1d
            have hbz := hbzd
            have hbz1 := hbz1d
            have hbk := hbkd
            have HBW := HBWd
            have HRE := HREd
            have HRow := HRowd
            clear k0d k1d c0d c1d hB1d hbzd hbz1d hbkd HBWd HREd HRowd
            obtain ⟨css3, r1, r2, r3, r4⟩ := HRow.out
            go_wp2_with (at_builtin; refine wpList_append_own_at _ rfl _ _ 25 rfl (w.heap.size + 1) 61 iE (.agg #[.string ⟨#[]⟩, .int .i64 0]) 2 24 Try.underlying25 hiE hzE0 hzE1 hzE2 rfl (by decide) _ _ _ rfl (own_below r4 ((Below.refl _ _).alloc (Nat.le_refl _) _)) ⟨wd.heap.size, 0, none⟩ 1 1 [.string e.fName, .int .i64 e.fId] rfl rfl (bx_news (Bx.new wd _ _)) (by intro u hu; simp at hu; rcases hu with rfl | rfl <;> rfl) (by unfold maxLen; omega) (by omega) (by simp; omega) ?_; intro v3 w3 hown3 hgrow3 hnil3 hloc3)
            have hT3 := Turn.after ((Below.refl wd.heap.size wd).alloc (Nat.le_refl _) _) (turnOwn hgrow3)
            have hge3 : ∀ k, k ∈ (Value.ownBlock _).toList → w.heap.size + 1 ≤ k := fun k hk => (r4.lt k (by simpa using hk)).1
            have hBl3 : Below w.heap.size wd w3 := Turn.below hT3 (fun k hk => by have := hge3 k hk; omega) hbz
            have HRowd := Hid.mk (RowR.push rEntry_good r1 r2 r3 hBl3 rfl (rEntry_good.below (HEE.out wd) hBl3) hown3)
            have hbkd := hbk.trans hBl3
            have HBWd := Hid.mk (HBW.out.turn hT3 (fun h => by have := hge3 _ h; omega))
            have HREd := Hid.mk (rEntry_good.below HRE.out hBl3)
            have hzd := hT3.size
            have k0d := (hT3.cell (p := ⟨b1, o1 + k * 2, none⟩) hB1 (fun h => by have := hge3 _ h; have := HBL.out; simp at *; omega)).trans k0
            have k1d := (hT3.cell (p := ⟨b1, o1 + k * 2 + 1, none⟩) hB1 (fun h => by have := hge3 _ h; have := HBL.out; simp at *; omega)).trans k1
            have c0d := HBWd.out.cell 0 _ rfl
            have c1d := HBWd.out.cell 1 _ rfl
            have hB1d : b1 < w3.heap.size := Nat.lt_of_lt_of_le hB1 hzd
            have hbzd : w.heap.size ≤ w3.heap.size := Nat.le_trans hbz hzd
            have hbz1d : w.heap.size + 1 ≤ w3.heap.size := Nat.le_trans hbz1 hzd
            clear k0 k1 c0' c1' hB1 hbz hbz1 hbk HBW HRE HRow hzd r1 r2 r3 r4 hT3 hge3 hBl3 hown3 hgrow3 hnil3 hloc3
            have k0 := k0d
            have k1 := k1d
            have c0' := c0d
            have c1' := c1d
            have hB1 := hB1d
            have hbz := hbzd
            have hbz1 := hbz1d
            have hbk := hbkd
            have HBW := HBWd
            have HRE := HREd
            have HRow := HRowd
            clear k0d k1d c0d c1d hB1d hbzd hbz1d hbkd HBWd HREd HRowd
            have hol1 : (o ++ [e]).length ≤ 2 * k + 1 := by simp; omega
            have hp0 : ∀ W, Below w3.heap.size w3 W → W.cell? ⟨b1, o1 + k * 2, none⟩ = some (.string x.fName) := fun W hb => (hb.cell (p := ⟨b1, o1 + k * 2, none⟩) hB1).trans k0
            have hp1 : ∀ W, Below w3.heap.size w3 W → W.cell? ⟨w.heap.size, 0, none⟩ = some (.string e.fName) := fun W hb => (HBW.out.under hb).cell 0 _ rfl
            go_wp2_with fail
            refine wp_region_held_drew (S := fun W => Below w3.heap.size w3 W) (by kernel_rfl) (Below.drew (Below.refl _ _)) (fun hHeld => ?_)
            refine tk 0 q00d_34_9_0 (some 31) (v := ?v33) rfl rfl (by kernel_rfl) hHeld (by rfl) (fun _ _ _ x => x) (fun w h => ?y33) ?_; (case y33 => (try dsimp only at h); go_simp; try (with_reducible rfl)); try simp only [Act.put, sa, s0, s1]
            refine tk 1 q00d_34_9_1 (some 32) (v := ?v34) rfl rfl (by kernel_rfl) hHeld (by rfl) (fun _ _ _ x => x) (fun w h => ?y34) ?_; (case y34 => (try dsimp only at h); go_simp; try (with_reducible rfl)); try simp only [Act.put, sa, s0, s1]
            refine tk 2 q00d_34_9_2 (some 33) (v := ?v35) rfl rfl (by kernel_rfl) hHeld (by rfl) (fun _ _ _ x => x) (fun w h => ?y35) ?_; (case y35 => (try dsimp only at h); go_simp; try (with_reducible rfl)); try simp only [Act.put, sa, s0, s1]
            refine tk 3 q00d_34_9_3 (some 34) (v := ?v36) rfl rfl (by kernel_rfl) hHeld (by rfl) (fun _ _ _ x => x) (fun w h => ?y36) ?_; (case y36 => (try dsimp only at h); go_simp; try (with_reducible rfl)); try simp only [Act.put, sa, s0, s1]
            refine tk 4 q00d_34_9_4 (some 35) (v := ?v37) rfl rfl (by kernel_rfl) hHeld (by rfl) (fun _ _ _ x => x) (fun w h => ?y37) ?_; (case y37 => (try dsimp only at h); go_simp; try (with_reducible rfl)); try simp only [Act.put, sa, s0, s1]
            refine tk 5 q00d_34_9_5 (some 36) (v := ?v38) rfl rfl (by kernel_rfl) hHeld (by rfl) (fun _ _ _ x => x) (fun w h => ?y38) ?_; (case y38 => (try dsimp only at h); go_simp; try (with_reducible rfl)); try simp only [Act.put, sa, s0, s1]
            refine tk 6 q00d_34_9_6 (some 37) (v := ?v39) rfl rfl (by kernel_rfl) hHeld (by rfl) (fun _ _ _ x => x) (fun w h => ?y39) ?_; (case y39 => (try dsimp only at h); go_simp; try (with_reducible rfl)); try simp only [Act.put, sa, s0, s1]
            refine tk 7 q00d_34_9_7 (some 38) (v := ?v40) rfl rfl (by kernel_rfl) hHeld (by rfl) (fun _ _ _ x => x) (fun w h => ?y40) ?_; (case y40 => (try dsimp only at h); go_simp; try (with_reducible rfl)); try simp only [Act.put, sa, s0, s1]
            refine wpAnyH_done (by kernel_rfl) ?_ _
            obtain ⟨we, hwd⟩ : ∃ W9, W9 = w3.drew := ⟨_, rfl⟩
            rw [← hwd] at hHeld ⊢
            have HRowd := Hid.mk (RowR.keep rEntry_good HRow.out hHeld hbz)
            have hbkd := bthen hbk hHeld
            have HBWd := Hid.mk (HBW.out.under hHeld)
            have HREd := Hid.mk (rEntry_good.below HRE.out (hHeld.mono hbz))
            have hzd := hHeld.size
            have k0d := (hHeld.cell (p := ⟨b1, o1 + k * 2, none⟩) hB1).trans k0
            have k1d := (hHeld.cell (p := ⟨b1, o1 + k * 2 + 1, none⟩) hB1).trans k1
            have c0d := HBWd.out.cell 0 _ rfl
            have c1d := HBWd.out.cell 1 _ rfl
            have hB1d : b1 < we.heap.size := Nat.lt_of_lt_of_le hB1 hzd
            have hbzd : w.heap.size ≤ we.heap.size := Nat.le_trans hbz hzd
            have hbz1d : w.heap.size + 1 ≤ we.heap.size := Nat.le_trans hbz1 hzd
            clear k0 k1 c0' c1' hB1 hbz hbz1 hbk HBW HRE HRow hwd hHeld hp0 hp1 hzd
            have k0 := k0d
            have k1 := k1d
            have c0' := c0d
            have c1' := c1d
            have hB1 := hB1d
            have hbz := hbzd
            have hbz1 := hbz1d
            have hbk := hbkd
            have HBW := HBWd
            have HRE := HREd
            have HRow := HRowd
            clear k0d k1d c0d c1d hB1d hbzd hbz1d hbkd HBWd HREd HRowd
            go_wp2_with fail
            go_roundw
            case rel => exact ⟨k + 1, o ++ [e], true, by omega, rfl, by go_num, by simp; omega, HEQ.out, HRow.out, hbk, HBW.out⟩
            case measure => simp [intOf]; omega
          · have hgt := strLt_tri (Bool.eq_false_iff.2 hlt) heq
            clear hlt heq
            obtain ⟨p1, p2, p3⟩ := strLt_facts hgt
            have p4 : (x.fName.toList == e.fName.toList) = false := str_ne (fun h => by rw [h, strLt_irrefl] at hgt; cases hgt)
            have HEQ : Hid ((o ++ [e]) ++ [x] ++ withL e true (l.drop (k + 1)) = withE l e) := by
              show _ = _
              have h := HE.out
              rw [HD.out] at h
              have hl : strLt x.fName e.fName = false := strLt_asymm hgt
              have hn2 : ¬ x.fName = e.fName := (fun h => by rw [h, strLt_irrefl] at hgt; cases hgt)
              simpa [withL, hl, hn2] using h
            clear HE HD hgt
            have hkn0 : (0 : Int) ≤ (k : Int) := by omega
            have hkn1 : (k : Int) < (n : Int) := by omega
            have hp0 : ∀ W, Below wr.heap.size wr W → W.cell? ⟨b1, o1 + k * 2, none⟩ = some (.string x.fName) := fun W hb => (hb.cell (p := ⟨b1, o1 + k * 2, none⟩) hB1).trans k0
            have hp1 : ∀ W, Below wr.heap.size wr W → W.cell? ⟨w.heap.size, 0, none⟩ = some (.string e.fName) := fun W hb => (HBW.out.under hb).cell 0 _ rfl
            go_wp2_with fail
            refine wp_region_held_drew (S := fun W => Below wr.heap.size wr W) (by kernel_rfl) (Below.drew (Below.refl _ _)) (fun hHeld => ?_)
            refine tk 0 q00d_34_6_0 (some 15) (v := ?v41) rfl rfl (by kernel_rfl) hHeld (by rfl) (fun _ _ _ x => x) (fun w h => ?y41) ?_; (case y41 => (try dsimp only at h); go_simp; try (with_reducible rfl)); try simp only [Act.put, sa, s0, s1]
            refine tk 1 q00d_34_6_1 (some 16) (v := ?v42) rfl rfl (by kernel_rfl) hHeld (by rfl) (fun _ _ _ x => x) (fun w h => ?y42) ?_; (case y42 => (try dsimp only at h); go_simp; try (with_reducible rfl)); try simp only [Act.put, sa, s0, s1]
            refine tk 2 q00d_34_6_2 (some 17) (v := ?v43) rfl rfl (by kernel_rfl) hHeld (by rfl) (fun _ _ _ x => x) (fun w h => ?y43) ?_; (case y43 => (try dsimp only at h); go_simp; try (with_reducible rfl)); try simp only [Act.put, sa, s0, s1]
            refine tk 3 q00d_34_6_3 (some 18) (v := ?v44) rfl rfl (by kernel_rfl) hHeld (by rfl) (fun _ _ _ x => x) (fun w h => ?y44) ?_; (case y44 => (try dsimp only at h); go_simp; try (with_reducible rfl)); try simp only [Act.put, sa, s0, s1]
            refine tk 4 q00d_34_6_4 (some 19) (v := ?v45) rfl rfl (by kernel_rfl) hHeld (by rfl) (fun _ _ _ x => x) (fun w h => ?y45) ?_; (case y45 => (try dsimp only at h); go_simp; try (with_reducible rfl)); try simp only [Act.put, sa, s0, s1]
            refine tk 5 q00d_34_6_5 (some 20) (v := ?v46) rfl rfl (by kernel_rfl) hHeld (by rfl) (fun _ _ _ x => x) (fun w h => ?y46) ?_; (case y46 => (try dsimp only at h); go_simp; try (with_reducible rfl)); try simp only [Act.put, sa, s0, s1]
            refine tk 6 q00d_34_6_6 (some 21) (v := ?v47) rfl rfl (by kernel_rfl) hHeld (by rfl) (fun _ _ _ x => x) (fun w h => ?y47) ?_; (case y47 => (try dsimp only at h); go_simp; try (with_reducible rfl)); try simp only [Act.put, sa, s0, s1]
            refine tk 7 q00d_34_6_7 (some 22) (v := ?v48) rfl rfl (by kernel_rfl) hHeld (by rfl) (fun _ _ _ x => x) (fun w h => ?y48) ?_; (case y48 => (try dsimp only at h); go_simp; try (with_reducible rfl)); try simp only [Act.put, sa, s0, s1]
            refine tk 8 q00d_34_6_8 (some 23) (v := ?v49) rfl rfl (by kernel_rfl) hHeld (by rfl) (fun _ _ _ x => x) (fun w h => ?y49) ?_; (case y49 => (try dsimp only at h); go_simp; try (with_reducible rfl)); try simp only [Act.put, sa, s0, s1]
            refine tk 9 q00d_34_6_9 (some 24) (v := ?v50) rfl rfl (by kernel_rfl) hHeld (by rfl) (fun _ _ _ x => x) (fun w h => ?y50) ?_; (case y50 => (try dsimp only at h); go_simp; try (with_reducible rfl)); try simp only [Act.put, sa, s0, s1]
            refine tk 10 q00d_34_6_10 (some 25) (v := ?v51) rfl rfl (by kernel_rfl) hHeld (by rfl) (fun _ _ _ x => x) (fun w h => ?y51) ?_; (case y51 => (try dsimp only at h); go_simp; try (with_reducible rfl)); try simp only [Act.put, sa, s0, s1]
            refine tk 11 q00d_34_6_11 (some 26) (v := ?v52) rfl rfl (by kernel_rfl) hHeld (by rfl) (fun _ _ _ x => x) (fun w h => ?y52) ?_; (case y52 => (try dsimp only at h); go_simp; try (with_reducible rfl)); try simp only [Act.put, sa, s0, s1]
            refine wpAnyH_done (by kernel_rfl) ?_ _
            obtain ⟨wd, hwd⟩ : ∃ W9, W9 = wr.drew := ⟨_, rfl⟩
            rw [← hwd] at hHeld ⊢
            have HRowd := Hid.mk (RowR.keep rEntry_good HRow.out hHeld hbz)
            have hbkd := bthen hbk hHeld
            have HBWd := Hid.mk (HBW.out.under hHeld)
            have HREd := Hid.mk (rEntry_good.below HRE.out (hHeld.mono hbz))
            have hzd := hHeld.size
            have k0d := (hHeld.cell (p := ⟨b1, o1 + k * 2, none⟩) hB1).trans k0
            have k1d := (hHeld.cell (p := ⟨b1, o1 + k * 2 + 1, none⟩) hB1).trans k1
            have c0d := HBWd.out.cell 0 _ rfl
            have c1d := HBWd.out.cell 1 _ rfl
            have hB1d : b1 < wd.heap.size := Nat.lt_of_lt_of_le hB1 hzd
            have hbzd : w.heap.size ≤ wd.heap.size := Nat.le_trans hbz hzd
            have hbz1d : w.heap.size + 1 ≤ wd.heap.size := Nat.le_trans hbz1 hzd
            clear k0 k1 c0' c1' hB1 hbz hbz1 hbk HBW HRE HRow hwd hHeld hp0 hp1 hzd
            have k0 := k0d
            have k1 := k1d
            have c0' := c0d
            have c1' := c1d
            have hB1 := hB1d
            have hbz := hbzd
            have hbz1 := hbz1d
            have hbk := hbkd
            have HBW := HBWd
            have HRE := HREd
            have HRow := HRowd
            clear k0d k1d c0d c1d hB1d hbzd hbz1d hbkd HBWd HREd HRowd
            obtain ⟨css3, r1, r2, r3, r4⟩ := HRow.out
            go_wp2_with (at_builtin; refine wpList_append_own_at _ rfl _ _ 25 rfl (w.heap.size + 1) 61 iE (.agg #[.string ⟨#[]⟩, .int .i64 0]) 2 24 Try.underlying25 hiE hzE0 hzE1 hzE2 rfl (by decide) _ _ _ rfl (own_below r4 ((Below.refl _ _).alloc (Nat.le_refl _) _)) ⟨wd.heap.size, 0, none⟩ 1 1 [.string e.fName, .int .i64 e.fId] rfl rfl (bx_news (Bx.new wd _ _)) (by intro u hu; simp at hu; rcases hu with rfl | rfl <;> rfl) (by unfold maxLen; omega) (by omega) (by simp; omega) ?_; intro v3 w3 hown3 hgrow3 hnil3 hloc3)
            have hT3 := Turn.after ((Below.refl wd.heap.size wd).alloc (Nat.le_refl _) _) (turnOwn hgrow3)
            have hge3 : ∀ k, k ∈ (Value.ownBlock _).toList → w.heap.size + 1 ≤ k := fun k hk => (r4.lt k (by simpa using hk)).1
            have hBl3 : Below w.heap.size wd w3 := Turn.below hT3 (fun k hk => by have := hge3 k hk; omega) hbz
            have HRowd := Hid.mk (RowR.push rEntry_good r1 r2 r3 hBl3 rfl (rEntry_good.below (HEE.out wd) hBl3) hown3)
            have hbkd := hbk.trans hBl3
            have HBWd := Hid.mk (HBW.out.turn hT3 (fun h => by have := hge3 _ h; omega))
            have HREd := Hid.mk (rEntry_good.below HRE.out hBl3)
            have hzd := hT3.size
            have k0d := (hT3.cell (p := ⟨b1, o1 + k * 2, none⟩) hB1 (fun h => by have := hge3 _ h; have := HBL.out; simp at *; omega)).trans k0
            have k1d := (hT3.cell (p := ⟨b1, o1 + k * 2 + 1, none⟩) hB1 (fun h => by have := hge3 _ h; have := HBL.out; simp at *; omega)).trans k1
            have c0d := HBWd.out.cell 0 _ rfl
            have c1d := HBWd.out.cell 1 _ rfl
            have hB1d : b1 < w3.heap.size := Nat.lt_of_lt_of_le hB1 hzd
            have hbzd : w.heap.size ≤ w3.heap.size := Nat.le_trans hbz hzd
            have hbz1d : w.heap.size + 1 ≤ w3.heap.size := Nat.le_trans hbz1 hzd
            clear k0 k1 c0' c1' hB1 hbz hbz1 hbk HBW HRE HRow hzd r1 r2 r3 r4 hT3 hge3 hBl3 hown3 hgrow3 hnil3 hloc3
            have k0 := k0d
            have k1 := k1d
            have c0' := c0d
            have c1' := c1d
            have hB1 := hB1d
            have hbz := hbzd
            have hbz1 := hbz1d
            have hbk := hbkd
            have HBW := HBWd
            have HRE := HREd
            have HRow := HRowd
            clear k0d k1d c0d c1d hB1d hbzd hbz1d hbkd HBWd HREd HRowd
            have hol1 : (o ++ [e]).length ≤ 2 * k + 1 := by simp; omega
            have hp0 : ∀ W, Below w3.heap.size w3 W → W.cell? ⟨b1, o1 + k * 2, none⟩ = some (.string x.fName) := fun W hb => (hb.cell (p := ⟨b1, o1 + k * 2, none⟩) hB1).trans k0
            have hp1 : ∀ W, Below w3.heap.size w3 W → W.cell? ⟨w.heap.size, 0, none⟩ = some (.string e.fName) := fun W hb => (HBW.out.under hb).cell 0 _ rfl
            go_wp2_with fail
            refine wp_region_held_drew (S := fun W => Below w3.heap.size w3 W) (by kernel_rfl) (Below.drew (Below.refl _ _)) (fun hHeld => ?_)
            refine tk 0 q00d_34_9_0 (some 31) (v := ?v53) rfl rfl (by kernel_rfl) hHeld (by rfl) (fun _ _ _ x => x) (fun w h => ?y53) ?_; (case y53 => (try dsimp only at h); go_simp; try (with_reducible rfl)); try simp only [Act.put, sa, s0, s1]
            refine tk 1 q00d_34_9_1 (some 32) (v := ?v54) rfl rfl (by kernel_rfl) hHeld (by rfl) (fun _ _ _ x => x) (fun w h => ?y54) ?_; (case y54 => (try dsimp only at h); go_simp; try (with_reducible rfl)); try simp only [Act.put, sa, s0, s1]
            refine tk 2 q00d_34_9_2 (some 33) (v := ?v55) rfl rfl (by kernel_rfl) hHeld (by rfl) (fun _ _ _ x => x) (fun w h => ?y55) ?_; (case y55 => (try dsimp only at h); go_simp; try (with_reducible rfl)); try simp only [Act.put, sa, s0, s1]
            refine tk 3 q00d_34_9_3 (some 34) (v := ?v56) rfl rfl (by kernel_rfl) hHeld (by rfl) (fun _ _ _ x => x) (fun w h => ?y56) ?_; (case y56 => (try dsimp only at h); go_simp; try (with_reducible rfl)); try simp only [Act.put, sa, s0, s1]
            refine tk 4 q00d_34_9_4 (some 35) (v := ?v57) rfl rfl (by kernel_rfl) hHeld (by rfl) (fun _ _ _ x => x) (fun w h => ?y57) ?_; (case y57 => (try dsimp only at h); go_simp; try (with_reducible rfl)); try simp only [Act.put, sa, s0, s1]
            refine tk 5 q00d_34_9_5 (some 36) (v := ?v58) rfl rfl (by kernel_rfl) hHeld (by rfl) (fun _ _ _ x => x) (fun w h => ?y58) ?_; (case y58 => (try dsimp only at h); go_simp; try (with_reducible rfl)); try simp only [Act.put, sa, s0, s1]
            refine tk 6 q00d_34_9_6 (some 37) (v := ?v59) rfl rfl (by kernel_rfl) hHeld (by rfl) (fun _ _ _ x => x) (fun w h => ?y59) ?_; (case y59 => (try dsimp only at h); go_simp; try (with_reducible rfl)); try simp only [Act.put, sa, s0, s1]
            refine tk 7 q00d_34_9_7 (some 38) (v := ?v60) rfl rfl (by kernel_rfl) hHeld (by rfl) (fun _ _ _ x => x) (fun w h => ?y60) ?_; (case y60 => (try dsimp only at h); go_simp; try (with_reducible rfl)); try simp only [Act.put, sa, s0, s1]
            refine wpAnyH_done (by kernel_rfl) ?_ _
            obtain ⟨we, hwd⟩ : ∃ W9, W9 = w3.drew := ⟨_, rfl⟩
            rw [← hwd] at hHeld ⊢
            have HRowd := Hid.mk (RowR.keep rEntry_good HRow.out hHeld hbz)
            have hbkd := bthen hbk hHeld
            have HBWd := Hid.mk (HBW.out.under hHeld)
            have HREd := Hid.mk (rEntry_good.below HRE.out (hHeld.mono hbz))
            have hzd := hHeld.size
            have k0d := (hHeld.cell (p := ⟨b1, o1 + k * 2, none⟩) hB1).trans k0
            have k1d := (hHeld.cell (p := ⟨b1, o1 + k * 2 + 1, none⟩) hB1).trans k1
            have c0d := HBWd.out.cell 0 _ rfl
            have c1d := HBWd.out.cell 1 _ rfl
            have hB1d : b1 < we.heap.size := Nat.lt_of_lt_of_le hB1 hzd
            have hbzd : w.heap.size ≤ we.heap.size := Nat.le_trans hbz hzd
            have hbz1d : w.heap.size + 1 ≤ we.heap.size := Nat.le_trans hbz1 hzd
            clear k0 k1 c0' c1' hB1 hbz hbz1 hbk HBW HRE HRow hwd hHeld hp0 hp1 hzd
            have k0 := k0d
            have k1 := k1d
            have c0' := c0d
            have c1' := c1d
            have hB1 := hB1d
            have hbz := hbzd
            have hbz1 := hbz1d
            have hbk := hbkd
            have HBW := HBWd
            have HRE := HREd
            have HRow := HRowd
            clear k0d k1d c0d c1d hB1d hbzd hbz1d hbkd HBWd HREd HRowd
            obtain ⟨css5, r1, r2, r3, r4⟩ := HRow.out
            go_wp2_with (at_builtin; refine wpList_append_own_at _ rfl _ _ 25 rfl (w.heap.size + 1) 61 iE (.agg #[.string ⟨#[]⟩, .int .i64 0]) 2 24 Try.underlying25 hiE hzE0 hzE1 hzE2 rfl (by decide) _ _ _ rfl (own_below r4 ((Below.refl _ _).alloc (Nat.le_refl _) _)) ⟨we.heap.size, 0, none⟩ 1 1 [.string x.fName, .int .i64 x.fId] rfl rfl (bx_news (Bx.new we _ _)) (by intro u hu; simp at hu; rcases hu with rfl | rfl <;> rfl) (by unfold maxLen; omega) (by omega) (by simp; omega) ?_; intro v5 w5 hown5 hgrow5 hnil5 hloc5)
            have hT5 := Turn.after ((Below.refl we.heap.size we).alloc (Nat.le_refl _) _) (turnOwn hgrow5)
            have hge5 : ∀ k, k ∈ (Value.ownBlock _).toList → w.heap.size + 1 ≤ k := fun k hk => (r4.lt k (by simpa using hk)).1
            have hBl5 : Below w.heap.size we w5 := Turn.below hT5 (fun k hk => by have := hge5 k hk; omega) hbz
            have HRowd := Hid.mk (RowR.push rEntry_good r1 r2 r3 hBl5 rfl (rEntry_good.below HRE.out hBl5) hown5)
            have hbkd := hbk.trans hBl5
            have HBWd := Hid.mk (HBW.out.turn hT5 (fun h => by have := hge5 _ h; omega))
            have HREd := Hid.mk (rEntry_good.below HRE.out hBl5)
            have hzd := hT5.size
            have k0d := (hT5.cell (p := ⟨b1, o1 + k * 2, none⟩) hB1 (fun h => by have := hge5 _ h; have := HBL.out; simp at *; omega)).trans k0
            have k1d := (hT5.cell (p := ⟨b1, o1 + k * 2 + 1, none⟩) hB1 (fun h => by have := hge5 _ h; have := HBL.out; simp at *; omega)).trans k1
            have c0d := HBWd.out.cell 0 _ rfl
            have c1d := HBWd.out.cell 1 _ rfl
            have hB1d : b1 < w5.heap.size := Nat.lt_of_lt_of_le hB1 hzd
            have hbzd : w.heap.size ≤ w5.heap.size := Nat.le_trans hbz hzd
            have hbz1d : w.heap.size + 1 ≤ w5.heap.size := Nat.le_trans hbz1 hzd
            clear k0 k1 c0' c1' hB1 hbz hbz1 hbk HBW HRE HRow hzd r1 r2 r3 r4 hT5 hge5 hBl5 hown5 hgrow5 hnil5 hloc5
            have k0 := k0d
            have k1 := k1d
            have c0' := c0d
            have c1' := c1d
            have hB1 := hB1d
            have hbz := hbzd
            have hbz1 := hbz1d
            have hbk := hbkd
            have HBW := HBWd
            have HRE := HREd
            have HRow := HRowd
            clear k0d k1d c0d c1d hB1d hbzd hbz1d hbkd HBWd HREd HRowd
            go_roundw
            case rel => exact ⟨k + 1, (o ++ [e]) ++ [x], true, by omega, rfl, by go_num, by simp; omega, HEQ.out, HRow.out, hbk, HBW.out⟩
            case measure => simp [intOf]; omega
      · by_cases hlt : strLt x.fName e.fName = true
        · obtain ⟨p1, p2, p3⟩ := strLt_facts hlt
          have p4 : (x.fName.toList == e.fName.toList) = false := str_ne (fun h => by rw [h, strLt_irrefl] at hlt; cases hlt)
          have HEQ : Hid (o ++ [x] ++ withL e true (l.drop (k + 1)) = withE l e) := by
            show _ = _
            have h := HE.out
            rw [HD.out] at h
            have hl : strLt x.fName e.fName = true := hlt
            have hn2 : ¬ x.fName = e.fName := (fun h => by rw [h, strLt_irrefl] at hlt; cases hlt)
            simpa [withL, hl, hn2] using h
          clear HE HD hlt
          have hkn0 : (0 : Int) ≤ (k : Int) := by omega
          have hkn1 : (k : Int) < (n : Int) := by omega
          have hp0 : ∀ W, Below wr.heap.size wr W → W.cell? ⟨b1, o1 + k * 2, none⟩ = some (.string x.fName) := fun W hb => (hb.cell (p := ⟨b1, o1 + k * 2, none⟩) hB1).trans k0
          have hp1 : ∀ W, Below wr.heap.size wr W → W.cell? ⟨w.heap.size, 0, none⟩ = some (.string e.fName) := fun W hb => (HBW.out.under hb).cell 0 _ rfl
          go_wp2_with fail
          refine wp_region_held_drew (S := fun W => Below wr.heap.size wr W) (by kernel_rfl) (Below.drew (Below.refl _ _)) (fun hHeld => ?_)
          refine tk 0 q00d_34_6_0 (some 15) (v := ?v61) rfl rfl (by kernel_rfl) hHeld (by rfl) (fun _ _ _ x => x) (fun w h => ?y61) ?_; (case y61 => (try dsimp only at h); go_simp; try (with_reducible rfl)); try simp only [Act.put, sa, s0, s1]
          refine tk 1 q00d_34_6_1 (some 16) (v := ?v62) rfl rfl (by kernel_rfl) hHeld (by rfl) (fun _ _ _ x => x) (fun w h => ?y62) ?_; (case y62 => (try dsimp only at h); go_simp; try (with_reducible rfl)); try simp only [Act.put, sa, s0, s1]
          refine tk 2 q00d_34_6_2 (some 17) (v := ?v63) rfl rfl (by kernel_rfl) hHeld (by rfl) (fun _ _ _ x => x) (fun w h => ?y63) ?_; (case y63 => (try dsimp only at h); go_simp; try (with_reducible rfl)); try simp only [Act.put, sa, s0, s1]
          refine tn 3 q00d_34_6_3 (some 18) rfl rfl (by kernel_rfl) hHeld (by rfl) (fun _ _ _ x => x) ?_; try simp only [Act.put, sa, s0, s1]
          refine tn 4 q00d_34_6_4 (some 19) rfl rfl (by kernel_rfl) hHeld (by rfl) (fun _ _ _ x => x) ?_; try simp only [Act.put, sa, s0, s1]
          refine tn 5 q00d_34_6_5 (some 20) rfl rfl (by kernel_rfl) hHeld (by rfl) (fun _ _ _ x => x) ?_; try simp only [Act.put, sa, s0, s1]
          refine tn 6 q00d_34_6_6 (some 21) rfl rfl (by kernel_rfl) hHeld (by rfl) (fun _ _ _ x => x) ?_; try simp only [Act.put, sa, s0, s1]
          refine tn 7 q00d_34_6_7 (some 22) rfl rfl (by kernel_rfl) hHeld (by rfl) (fun _ _ _ x => x) ?_; try simp only [Act.put, sa, s0, s1]
          refine tn 8 q00d_34_6_8 (some 23) rfl rfl (by kernel_rfl) hHeld (by rfl) (fun _ _ _ x => x) ?_; try simp only [Act.put, sa, s0, s1]
          refine tn 9 q00d_34_6_9 (some 24) rfl rfl (by kernel_rfl) hHeld (by rfl) (fun _ _ _ x => x) ?_; try simp only [Act.put, sa, s0, s1]
          refine tn 10 q00d_34_6_10 (some 25) rfl rfl (by kernel_rfl) hHeld (by rfl) (fun _ _ _ x => x) ?_; try simp only [Act.put, sa, s0, s1]
          refine tk 11 q00d_34_6_11 (some 26) (v := ?v72) rfl rfl (by kernel_rfl) hHeld (by rfl) (fun _ _ _ x => x) (fun w h => ?y72) ?_; (case y72 => (try dsimp only at h); go_simp; try (with_reducible rfl)); try simp only [Act.put, sa, s0, s1]
          refine wpAnyH_done (by kernel_rfl) ?_ _
          obtain ⟨wd, hwd⟩ : ∃ W9, W9 = wr.drew := ⟨_, rfl⟩
          rw [← hwd] at hHeld ⊢
          have HRowd := Hid.mk (RowR.keep rEntry_good HRow.out hHeld hbz)
          have hbkd := bthen hbk hHeld
          have HBWd := Hid.mk (HBW.out.under hHeld)
          have HREd := Hid.mk (rEntry_good.below HRE.out (hHeld.mono hbz))
          have hzd := hHeld.size
          have k0d := (hHeld.cell (p := ⟨b1, o1 + k * 2, none⟩) hB1).trans k0
          have k1d := (hHeld.cell (p := ⟨b1, o1 + k * 2 + 1, none⟩) hB1).trans k1
          have c0d := HBWd.out.cell 0 _ rfl
          have c1d := HBWd.out.cell 1 _ rfl
          have hB1d : b1 < wd.heap.size := Nat.lt_of_lt_of_le hB1 hzd
          have hbzd : w.heap.size ≤ wd.heap.size := Nat.le_trans hbz hzd
          have hbz1d : w.heap.size + 1 ≤ wd.heap.size := Nat.le_trans hbz1 hzd
          clear k0 k1 c0' c1' hB1 hbz hbz1 hbk HBW HRE HRow hwd hHeld hp0 hp1 hzd
          have k0 := k0d
          have k1 := k1d
          have c0' := c0d
          have c1' := c1d
          have hB1 := hB1d
          have hbz := hbzd
          have hbz1 := hbz1d
          have hbk := hbkd
          have HBW := HBWd
          have HRE := HREd
          have HRow := HRowd
          clear k0d k1d c0d c1d hB1d hbzd hbz1d hbkd HBWd HREd HRowd
          have hp0 : ∀ W, Below wd.heap.size wd W → W.cell? ⟨b1, o1 + k * 2, none⟩ = some (.string x.fName) := fun W hb => (hb.cell (p := ⟨b1, o1 + k * 2, none⟩) hB1).trans k0
          have hp1 : ∀ W, Below wd.heap.size wd W → W.cell? ⟨w.heap.size, 0, none⟩ = some (.string e.fName) := fun W hb => (HBW.out.under hb).cell 0 _ rfl
          go_wp2_with fail
          refine wp_region_held_drew (S := fun W => Below wd.heap.size wd W) (by kernel_rfl) (Below.drew (Below.refl _ _)) (fun hHeld => ?_)
          refine tk 0 q00d_34_9_0 (some 31) (v := ?v73) rfl rfl (by kernel_rfl) hHeld (by rfl) (fun _ _ _ x => x) (fun w h => ?y73) ?_; (case y73 => (try dsimp only at h); go_simp; try (with_reducible rfl)); try simp only [Act.put, sa, s0, s1]
          refine tk 1 q00d_34_9_1 (some 32) (v := ?v74) rfl rfl (by kernel_rfl) hHeld (by rfl) (fun _ _ _ x => x) (fun w h => ?y74) ?_; (case y74 => (try dsimp only at h); go_simp; try (with_reducible rfl)); try simp only [Act.put, sa, s0, s1]
          refine tk 2 q00d_34_9_2 (some 33) (v := ?v75) rfl rfl (by kernel_rfl) hHeld (by rfl) (fun _ _ _ x => x) (fun w h => ?y75) ?_; (case y75 => (try dsimp only at h); go_simp; try (with_reducible rfl)); try simp only [Act.put, sa, s0, s1]
          refine tk 3 q00d_34_9_3 (some 34) (v := ?v76) rfl rfl (by kernel_rfl) hHeld (by rfl) (fun _ _ _ x => x) (fun w h => ?y76) ?_; (case y76 => (try dsimp only at h); go_simp; try (with_reducible rfl)); try simp only [Act.put, sa, s0, s1]
          refine tk 4 q00d_34_9_4 (some 35) (v := ?v77) rfl rfl (by kernel_rfl) hHeld (by rfl) (fun _ _ _ x => x) (fun w h => ?y77) ?_; (case y77 => (try dsimp only at h); go_simp; try (with_reducible rfl)); try simp only [Act.put, sa, s0, s1]
          refine tk 5 q00d_34_9_5 (some 36) (v := ?v78) rfl rfl (by kernel_rfl) hHeld (by rfl) (fun _ _ _ x => x) (fun w h => ?y78) ?_; (case y78 => (try dsimp only at h); go_simp; try (with_reducible rfl)); try simp only [Act.put, sa, s0, s1]
          refine tk 6 q00d_34_9_6 (some 37) (v := ?v79) rfl rfl (by kernel_rfl) hHeld (by rfl) (fun _ _ _ x => x) (fun w h => ?y79) ?_; (case y79 => (try dsimp only at h); go_simp; try (with_reducible rfl)); try simp only [Act.put, sa, s0, s1]
          refine tk 7 q00d_34_9_7 (some 38) (v := ?v80) rfl rfl (by kernel_rfl) hHeld (by rfl) (fun _ _ _ x => x) (fun w h => ?y80) ?_; (case y80 => (try dsimp only at h); go_simp; try (with_reducible rfl)); try simp only [Act.put, sa, s0, s1]
          refine wpAnyH_done (by kernel_rfl) ?_ _
          obtain ⟨we, hwd⟩ : ∃ W9, W9 = wd.drew := ⟨_, rfl⟩
          rw [← hwd] at hHeld ⊢
          have HRowd := Hid.mk (RowR.keep rEntry_good HRow.out hHeld hbz)
          have hbkd := bthen hbk hHeld
          have HBWd := Hid.mk (HBW.out.under hHeld)
          have HREd := Hid.mk (rEntry_good.below HRE.out (hHeld.mono hbz))
          have hzd := hHeld.size
          have k0d := (hHeld.cell (p := ⟨b1, o1 + k * 2, none⟩) hB1).trans k0
          have k1d := (hHeld.cell (p := ⟨b1, o1 + k * 2 + 1, none⟩) hB1).trans k1
          have c0d := HBWd.out.cell 0 _ rfl
          have c1d := HBWd.out.cell 1 _ rfl
          have hB1d : b1 < we.heap.size := Nat.lt_of_lt_of_le hB1 hzd
          have hbzd : w.heap.size ≤ we.heap.size := Nat.le_trans hbz hzd
          have hbz1d : w.heap.size + 1 ≤ we.heap.size := Nat.le_trans hbz1 hzd
          clear k0 k1 c0' c1' hB1 hbz hbz1 hbk HBW HRE HRow hwd hHeld hp0 hp1 hzd
          have k0 := k0d
          have k1 := k1d
          have c0' := c0d
          have c1' := c1d
          have hB1 := hB1d
          have hbz := hbzd
          have hbz1 := hbz1d
          have hbk := hbkd
          have HBW := HBWd
          have HRE := HREd
          have HRow := HRowd
          clear k0d k1d c0d c1d hB1d hbzd hbz1d hbkd HBWd HREd HRowd
          obtain ⟨css5, r1, r2, r3, r4⟩ := HRow.out
          go_wp2_with (at_builtin; refine wpList_append_own_at _ rfl _ _ 25 rfl (w.heap.size + 1) 61 iE (.agg #[.string ⟨#[]⟩, .int .i64 0]) 2 24 Try.underlying25 hiE hzE0 hzE1 hzE2 rfl (by decide) _ _ _ rfl (own_below r4 ((Below.refl _ _).alloc (Nat.le_refl _) _)) ⟨we.heap.size, 0, none⟩ 1 1 [.string x.fName, .int .i64 x.fId] rfl rfl (bx_news (Bx.new we _ _)) (by intro u hu; simp at hu; rcases hu with rfl | rfl <;> rfl) (by unfold maxLen; omega) (by omega) (by simp; omega) ?_; intro v5 w5 hown5 hgrow5 hnil5 hloc5)
          have hT5 := Turn.after ((Below.refl we.heap.size we).alloc (Nat.le_refl _) _) (turnOwn hgrow5)
          have hge5 : ∀ k, k ∈ (Value.ownBlock _).toList → w.heap.size + 1 ≤ k := fun k hk => (r4.lt k (by simpa using hk)).1
          have hBl5 : Below w.heap.size we w5 := Turn.below hT5 (fun k hk => by have := hge5 k hk; omega) hbz
          have HRowd := Hid.mk (RowR.push rEntry_good r1 r2 r3 hBl5 rfl (rEntry_good.below HRE.out hBl5) hown5)
          have hbkd := hbk.trans hBl5
          have HBWd := Hid.mk (HBW.out.turn hT5 (fun h => by have := hge5 _ h; omega))
          have HREd := Hid.mk (rEntry_good.below HRE.out hBl5)
          have hzd := hT5.size
          have k0d := (hT5.cell (p := ⟨b1, o1 + k * 2, none⟩) hB1 (fun h => by have := hge5 _ h; have := HBL.out; simp at *; omega)).trans k0
          have k1d := (hT5.cell (p := ⟨b1, o1 + k * 2 + 1, none⟩) hB1 (fun h => by have := hge5 _ h; have := HBL.out; simp at *; omega)).trans k1
          have c0d := HBWd.out.cell 0 _ rfl
          have c1d := HBWd.out.cell 1 _ rfl
          have hB1d : b1 < w5.heap.size := Nat.lt_of_lt_of_le hB1 hzd
          have hbzd : w.heap.size ≤ w5.heap.size := Nat.le_trans hbz hzd
          have hbz1d : w.heap.size + 1 ≤ w5.heap.size := Nat.le_trans hbz1 hzd
          clear k0 k1 c0' c1' hB1 hbz hbz1 hbk HBW HRE HRow hzd r1 r2 r3 r4 hT5 hge5 hBl5 hown5 hgrow5 hnil5 hloc5
          have k0 := k0d
          have k1 := k1d
          have c0' := c0d
          have c1' := c1d
          have hB1 := hB1d
          have hbz := hbzd
          have hbz1 := hbz1d
          have hbk := hbkd
          have HBW := HBWd
          have HRE := HREd
          have HRow := HRowd
          clear k0d k1d c0d c1d hB1d hbzd hbz1d hbkd HBWd HREd HRowd
          go_roundw
          case rel => exact ⟨k + 1, o ++ [x], true, by omega, rfl, by go_num, by simp; omega, HEQ.out, HRow.out, hbk, HBW.out⟩
          case measure => simp [intOf]; omega
        · by_cases heq : x.fName = e.fName
          · clear hlt
            have p1 : Op.bytesLess x.fName.toList e.fName.toList = false := by rw [heq]; exact strLt_irrefl _
            have p2 : Op.bytesLess e.fName.toList x.fName.toList = false := by rw [heq]; exact strLt_irrefl _
            have p3 := str_same heq
            have p4 := str_same heq.symm
            have HEQ : Hid (o ++ withL e true (l.drop (k + 1)) = withE l e) := by
              show _ = _
              have h := HE.out
              rw [HD.out] at h
              have hl : strLt x.fName e.fName = false := (show strLt x.fName e.fName = false from by rw [heq]; exact strLt_irrefl _)
              have hn2 : x.fName = e.fName := heq
              simpa [withL, hl, hn2, strLt_irrefl] using h
            clear HE HD heq
            have hkn0 : (0 : Int) ≤ (k : Int) := by omega
            have hkn1 : (k : Int) < (n : Int) := by omega
            have hp0 : ∀ W, Below wr.heap.size wr W → W.cell? ⟨b1, o1 + k * 2, none⟩ = some (.string x.fName) := fun W hb => (hb.cell (p := ⟨b1, o1 + k * 2, none⟩) hB1).trans k0
            have hp1 : ∀ W, Below wr.heap.size wr W → W.cell? ⟨w.heap.size, 0, none⟩ = some (.string e.fName) := fun W hb => (HBW.out.under hb).cell 0 _ rfl
            go_wp2_with fail
            refine wp_region_held_drew (S := fun W => Below wr.heap.size wr W) (by kernel_rfl) (Below.drew (Below.refl _ _)) (fun hHeld => ?_)
            refine tk 0 q00d_34_6_0 (some 15) (v := ?v81) rfl rfl (by kernel_rfl) hHeld (by rfl) (fun _ _ _ x => x) (fun w h => ?y81) ?_; (case y81 => (try dsimp only at h); go_simp; try (with_reducible rfl)); try simp only [Act.put, sa, s0, s1]
            refine tk 1 q00d_34_6_1 (some 16) (v := ?v82) rfl rfl (by kernel_rfl) hHeld (by rfl) (fun _ _ _ x => x) (fun w h => ?y82) ?_; (case y82 => (try dsimp only at h); go_simp; try (with_reducible rfl)); try simp only [Act.put, sa, s0, s1]
            refine tk 2 q00d_34_6_2 (some 17) (v := ?v83) rfl rfl (by kernel_rfl) hHeld (by rfl) (fun _ _ _ x => x) (fun w h => ?y83) ?_; (case y83 => (try dsimp only at h); go_simp; try (with_reducible rfl)); try simp only [Act.put, sa, s0, s1]
            refine tn 3 q00d_34_6_3 (some 18) rfl rfl (by kernel_rfl) hHeld (by rfl) (fun _ _ _ x => x) ?_; try simp only [Act.put, sa, s0, s1]
            refine tn 4 q00d_34_6_4 (some 19) rfl rfl (by kernel_rfl) hHeld (by rfl) (fun _ _ _ x => x) ?_; try simp only [Act.put, sa, s0, s1]
            refine tn 5 q00d_34_6_5 (some 20) rfl rfl (by kernel_rfl) hHeld (by rfl) (fun _ _ _ x => x) ?_; try simp only [Act.put, sa, s0, s1]
            refine tn 6 q00d_34_6_6 (some 21) rfl rfl (by kernel_rfl) hHeld (by rfl) (fun _ _ _ x => x) ?_; try simp only [Act.put, sa, s0, s1]
            refine tn 7 q00d_34_6_7 (some 22) rfl rfl (by kernel_rfl) hHeld (by rfl) (fun _ _ _ x => x) ?_; try simp only [Act.put, sa, s0, s1]
            refine tn 8 q00d_34_6_8 (some 23) rfl rfl (by kernel_rfl) hHeld (by rfl) (fun _ _ _ x => x) ?_; try simp only [Act.put, sa, s0, s1]
            refine tn 9 q00d_34_6_9 (some 24) rfl rfl (by kernel_rfl) hHeld (by rfl) (fun _ _ _ x => x) ?_; try simp only [Act.put, sa, s0, s1]
            refine tn 10 q00d_34_6_10 (some 25) rfl rfl (by kernel_rfl) hHeld (by rfl) (fun _ _ _ x => x) ?_; try simp only [Act.put, sa, s0, s1]
            refine tk 11 q00d_34_6_11 (some 26) (v := ?v92) rfl rfl (by kernel_rfl) hHeld (by rfl) (fun _ _ _ x => x) (fun w h => ?y92) ?_; (case y92 => (try dsimp only at h); go_simp; try (with_reducible rfl)); try simp only [Act.put, sa, s0, s1]
            refine wpAnyH_done (by kernel_rfl) ?_ _
            obtain ⟨wd, hwd⟩ : ∃ W9, W9 = wr.drew := ⟨_, rfl⟩
            rw [← hwd] at hHeld ⊢
            have HRowd := Hid.mk (RowR.keep rEntry_good HRow.out hHeld hbz)
            have hbkd := bthen hbk hHeld
            have HBWd := Hid.mk (HBW.out.under hHeld)
            have HREd := Hid.mk (rEntry_good.below HRE.out (hHeld.mono hbz))
            have hzd := hHeld.size
            have k0d := (hHeld.cell (p := ⟨b1, o1 + k * 2, none⟩) hB1).trans k0
            have k1d := (hHeld.cell (p := ⟨b1, o1 + k * 2 + 1, none⟩) hB1).trans k1
            have c0d := HBWd.out.cell 0 _ rfl
            have c1d := HBWd.out.cell 1 _ rfl
            have hB1d : b1 < wd.heap.size := Nat.lt_of_lt_of_le hB1 hzd
            have hbzd : w.heap.size ≤ wd.heap.size := Nat.le_trans hbz hzd
            have hbz1d : w.heap.size + 1 ≤ wd.heap.size := Nat.le_trans hbz1 hzd
            clear k0 k1 c0' c1' hB1 hbz hbz1 hbk HBW HRE HRow hwd hHeld hp0 hp1 hzd
            have k0 := k0d
            have k1 := k1d
            have c0' := c0d
            have c1' := c1d
            have hB1 := hB1d
            have hbz := hbzd
            have hbz1 := hbz1d
            have hbk := hbkd
            have HBW := HBWd
            have HRE := HREd
            have HRow := HRowd
            clear k0d k1d c0d c1d hB1d hbzd hbz1d hbkd HBWd HREd HRowd
            have hp0 : ∀ W, Below wd.heap.size wd W → W.cell? ⟨b1, o1 + k * 2, none⟩ = some (.string x.fName) := fun W hb => (hb.cell (p := ⟨b1, o1 + k * 2, none⟩) hB1).trans k0
            have hp1 : ∀ W, Below wd.heap.size wd W → W.cell? ⟨w.heap.size, 0, none⟩ = some (.string e.fName) := fun W hb => (HBW.out.under hb).cell 0 _ rfl
            go_wp2_with fail
            refine wp_region_held_drew (S := fun W => Below wd.heap.size wd W) (by kernel_rfl) (Below.drew (Below.refl _ _)) (fun hHeld => ?_)
            refine tk 0 q00d_34_9_0 (some 31) (v := ?v93) rfl rfl (by kernel_rfl) hHeld (by rfl) (fun _ _ _ x => x) (fun w h => ?y93) ?_; (case y93 => (try dsimp only at h); go_simp; try (with_reducible rfl)); try simp only [Act.put, sa, s0, s1]
            refine tk 1 q00d_34_9_1 (some 32) (v := ?v94) rfl rfl (by kernel_rfl) hHeld (by rfl) (fun _ _ _ x => x) (fun w h => ?y94) ?_; (case y94 => (try dsimp only at h); go_simp; try (with_reducible rfl)); try simp only [Act.put, sa, s0, s1]
            refine tk 2 q00d_34_9_2 (some 33) (v := ?v95) rfl rfl (by kernel_rfl) hHeld (by rfl) (fun _ _ _ x => x) (fun w h => ?y95) ?_; (case y95 => (try dsimp only at h); go_simp; try (with_reducible rfl)); try simp only [Act.put, sa, s0, s1]
            refine tk 3 q00d_34_9_3 (some 34) (v := ?v96) rfl rfl (by kernel_rfl) hHeld (by rfl) (fun _ _ _ x => x) (fun w h => ?y96) ?_; (case y96 => (try dsimp only at h); go_simp; try (with_reducible rfl)); try simp only [Act.put, sa, s0, s1]
            refine tk 4 q00d_34_9_4 (some 35) (v := ?v97) rfl rfl (by kernel_rfl) hHeld (by rfl) (fun _ _ _ x => x) (fun w h => ?y97) ?_; (case y97 => (try dsimp only at h); go_simp; try (with_reducible rfl)); try simp only [Act.put, sa, s0, s1]
            refine tk 5 q00d_34_9_5 (some 36) (v := ?v98) rfl rfl (by kernel_rfl) hHeld (by rfl) (fun _ _ _ x => x) (fun w h => ?y98) ?_; (case y98 => (try dsimp only at h); go_simp; try (with_reducible rfl)); try simp only [Act.put, sa, s0, s1]
            refine tk 6 q00d_34_9_6 (some 37) (v := ?v99) rfl rfl (by kernel_rfl) hHeld (by rfl) (fun _ _ _ x => x) (fun w h => ?y99) ?_; (case y99 => (try dsimp only at h); go_simp; try (with_reducible rfl)); try simp only [Act.put, sa, s0, s1]
            refine tk 7 q00d_34_9_7 (some 38) (v := ?v100) rfl rfl (by kernel_rfl) hHeld (by rfl) (fun _ _ _ x => x) (fun w h => ?y100) ?_; (case y100 => (try dsimp only at h); go_simp; try (with_reducible rfl)); try simp only [Act.put, sa, s0, s1]
            refine wpAnyH_done (by kernel_rfl) ?_ _
            obtain ⟨we, hwd⟩ : ∃ W9, W9 = wd.drew := ⟨_, rfl⟩
            rw [← hwd] at hHeld ⊢
            have HRowd := Hid.mk (RowR.keep rEntry_good HRow.out hHeld hbz)
            have hbkd := bthen hbk hHeld
            have HBWd := Hid.mk (HBW.out.under hHeld)
            have HREd := Hid.mk (rEntry_good.below HRE.out (hHeld.mono hbz))
            have hzd := hHeld.size
            have k0d := (hHeld.cell (p := ⟨b1, o1 + k * 2, none⟩) hB1).trans k0
            have k1d := (hHeld.cell (p := ⟨b1, o1 + k * 2 + 1, none⟩) hB1).trans k1
            have c0d := HBWd.out.cell 0 _ rfl
            have c1d := HBWd.out.cell 1 _ rfl
            have hB1d : b1 < we.heap.size := Nat.lt_of_lt_of_le hB1 hzd
            have hbzd : w.heap.size ≤ we.heap.size := Nat.le_trans hbz hzd
            have hbz1d : w.heap.size + 1 ≤ we.heap.size := Nat.le_trans hbz1 hzd
            clear k0 k1 c0' c1' hB1 hbz hbz1 hbk HBW HRE HRow hwd hHeld hp0 hp1 hzd
            have k0 := k0d
            have k1 := k1d
            have c0' := c0d
            have c1' := c1d
            have hB1 := hB1d
            have hbz := hbzd
            have hbz1 := hbz1d
            have hbk := hbkd
            have HBW := HBWd
            have HRE := HREd
            have HRow := HRowd
            clear k0d k1d c0d c1d hB1d hbzd hbz1d hbkd HBWd HREd HRowd
            go_wp2_with fail
            go_roundw
            case rel => exact ⟨k + 1, o, true, by omega, rfl, by go_num, by omega, HEQ.out, HRow.out, hbk, HBW.out⟩
            case measure => simp [intOf]; omega
          · have hgt := strLt_tri (Bool.eq_false_iff.2 hlt) heq
            clear hlt heq
            obtain ⟨p1, p2, p3⟩ := strLt_facts hgt
            have p4 : (x.fName.toList == e.fName.toList) = false := str_ne (fun h => by rw [h, strLt_irrefl] at hgt; cases hgt)
            have HEQ : Hid (o ++ [x] ++ withL e true (l.drop (k + 1)) = withE l e) := by
              show _ = _
              have h := HE.out
              rw [HD.out] at h
              have hl : strLt x.fName e.fName = false := strLt_asymm hgt
              have hn2 : ¬ x.fName = e.fName := (fun h => by rw [h, strLt_irrefl] at hgt; cases hgt)
              simpa [withL, hl, hn2] using h
            clear HE HD hgt
            have hkn0 : (0 : Int) ≤ (k : Int) := by omega
            have hkn1 : (k : Int) < (n : Int) := by omega
            have hp0 : ∀ W, Below wr.heap.size wr W → W.cell? ⟨b1, o1 + k * 2, none⟩ = some (.string x.fName) := fun W hb => (hb.cell (p := ⟨b1, o1 + k * 2, none⟩) hB1).trans k0
            have hp1 : ∀ W, Below wr.heap.size wr W → W.cell? ⟨w.heap.size, 0, none⟩ = some (.string e.fName) := fun W hb => (HBW.out.under hb).cell 0 _ rfl
            go_wp2_with fail
            refine wp_region_held_drew (S := fun W => Below wr.heap.size wr W) (by kernel_rfl) (Below.drew (Below.refl _ _)) (fun hHeld => ?_)
            refine tk 0 q00d_34_6_0 (some 15) (v := ?v101) rfl rfl (by kernel_rfl) hHeld (by rfl) (fun _ _ _ x => x) (fun w h => ?y101) ?_; (case y101 => (try dsimp only at h); go_simp; try (with_reducible rfl)); try simp only [Act.put, sa, s0, s1]
            refine tk 1 q00d_34_6_1 (some 16) (v := ?v102) rfl rfl (by kernel_rfl) hHeld (by rfl) (fun _ _ _ x => x) (fun w h => ?y102) ?_; (case y102 => (try dsimp only at h); go_simp; try (with_reducible rfl)); try simp only [Act.put, sa, s0, s1]
            refine tk 2 q00d_34_6_2 (some 17) (v := ?v103) rfl rfl (by kernel_rfl) hHeld (by rfl) (fun _ _ _ x => x) (fun w h => ?y103) ?_; (case y103 => (try dsimp only at h); go_simp; try (with_reducible rfl)); try simp only [Act.put, sa, s0, s1]
            refine tn 3 q00d_34_6_3 (some 18) rfl rfl (by kernel_rfl) hHeld (by rfl) (fun _ _ _ x => x) ?_; try simp only [Act.put, sa, s0, s1]
            refine tn 4 q00d_34_6_4 (some 19) rfl rfl (by kernel_rfl) hHeld (by rfl) (fun _ _ _ x => x) ?_; try simp only [Act.put, sa, s0, s1]
            refine tn 5 q00d_34_6_5 (some 20) rfl rfl (by kernel_rfl) hHeld (by rfl) (fun _ _ _ x => x) ?_; try simp only [Act.put, sa, s0, s1]
            refine tn 6 q00d_34_6_6 (some 21) rfl rfl (by kernel_rfl) hHeld (by rfl) (fun _ _ _ x => x) ?_; try simp only [Act.put, sa, s0, s1]
            refine tn 7 q00d_34_6_7 (some 22) rfl rfl (by kernel_rfl) hHeld (by rfl) (fun _ _ _ x => x) ?_; try simp only [Act.put, sa, s0, s1]
            refine tn 8 q00d_34_6_8 (some 23) rfl rfl (by kernel_rfl) hHeld (by rfl) (fun _ _ _ x => x) ?_; try simp only [Act.put, sa, s0, s1]
            refine tn 9 q00d_34_6_9 (some 24) rfl rfl (by kernel_rfl) hHeld (by rfl) (fun _ _ _ x => x) ?_; try simp only [Act.put, sa, s0, s1]
            refine tn 10 q00d_34_6_10 (some 25) rfl rfl (by kernel_rfl) hHeld (by rfl) (fun _ _ _ x => x) ?_; try simp only [Act.put, sa, s0, s1]
            refine tk 11 q00d_34_6_11 (some 26) (v := ?v112) rfl rfl (by kernel_rfl) hHeld (by rfl) (fun _ _ _ x => x) (fun w h => ?y112) ?_; (case y112 => (try dsimp only at h); go_simp; try (with_reducible rfl)); try simp only [Act.put, sa, s0, s1]
            refine wpAnyH_done (by kernel_rfl) ?_ _
            obtain ⟨wd, hwd⟩ : ∃ W9, W9 = wr.drew := ⟨_, rfl⟩
            rw [← hwd] at hHeld ⊢
            have HRowd := Hid.mk (RowR.keep rEntry_good HRow.out hHeld hbz)
            have hbkd := bthen hbk hHeld
            have HBWd := Hid.mk (HBW.out.under hHeld)
            have HREd := Hid.mk (rEntry_good.below HRE.out (hHeld.mono hbz))
            have hzd := hHeld.size
            have k0d := (hHeld.cell (p := ⟨b1, o1 + k * 2, none⟩) hB1).trans k0
            have k1d := (hHeld.cell (p := ⟨b1, o1 + k * 2 + 1, none⟩) hB1).trans k1
            have c0d := HBWd.out.cell 0 _ rfl
            have c1d := HBWd.out.cell 1 _ rfl
            have hB1d : b1 < wd.heap.size := Nat.lt_of_lt_of_le hB1 hzd
            have hbzd : w.heap.size ≤ wd.heap.size := Nat.le_trans hbz hzd
            have hbz1d : w.heap.size + 1 ≤ wd.heap.size := Nat.le_trans hbz1 hzd
            clear k0 k1 c0' c1' hB1 hbz hbz1 hbk HBW HRE HRow hwd hHeld hp0 hp1 hzd
            have k0 := k0d
            have k1 := k1d
            have c0' := c0d
            have c1' := c1d
            have hB1 := hB1d
            have hbz := hbzd
            have hbz1 := hbz1d
            have hbk := hbkd
            have HBW := HBWd
            have HRE := HREd
            have HRow := HRowd
            clear k0d k1d c0d c1d hB1d hbzd hbz1d hbkd HBWd HREd HRowd
            have hp0 : ∀ W, Below wd.heap.size wd W → W.cell? ⟨b1, o1 + k * 2, none⟩ = some (.string x.fName) := fun W hb => (hb.cell (p := ⟨b1, o1 + k * 2, none⟩) hB1).trans k0
            have hp1 : ∀ W, Below wd.heap.size wd W → W.cell? ⟨w.heap.size, 0, none⟩ = some (.string e.fName) := fun W hb => (HBW.out.under hb).cell 0 _ rfl
            go_wp2_with fail
            refine wp_region_held_drew (S := fun W => Below wd.heap.size wd W) (by kernel_rfl) (Below.drew (Below.refl _ _)) (fun hHeld => ?_)
            refine tk 0 q00d_34_9_0 (some 31) (v := ?v113) rfl rfl (by kernel_rfl) hHeld (by rfl) (fun _ _ _ x => x) (fun w h => ?y113) ?_; (case y113 => (try dsimp only at h); go_simp; try (with_reducible rfl)); try simp only [Act.put, sa, s0, s1]
            refine tk 1 q00d_34_9_1 (some 32) (v := ?v114) rfl rfl (by kernel_rfl) hHeld (by rfl) (fun _ _ _ x => x) (fun w h => ?y114) ?_; (case y114 => (try dsimp only at h); go_simp; try (with_reducible rfl)); try simp only [Act.put, sa, s0, s1]
            refine tk 2 q00d_34_9_2 (some 33) (v := ?v115) rfl rfl (by kernel_rfl) hHeld (by rfl) (fun _ _ _ x => x) (fun w h => ?y115) ?_; (case y115 => (try dsimp only at h); go_simp; try (with_reducible rfl)); try simp only [Act.put, sa, s0, s1]
            refine tk 3 q00d_34_9_3 (some 34) (v := ?v116) rfl rfl (by kernel_rfl) hHeld (by rfl) (fun _ _ _ x => x) (fun w h => ?y116) ?_; (case y116 => (try dsimp only at h); go_simp; try (with_reducible rfl)); try simp only [Act.put, sa, s0, s1]
            refine tk 4 q00d_34_9_4 (some 35) (v := ?v117) rfl rfl (by kernel_rfl) hHeld (by rfl) (fun _ _ _ x => x) (fun w h => ?y117) ?_; (case y117 => (try dsimp only at h); go_simp; try (with_reducible rfl)); try simp only [Act.put, sa, s0, s1]
            refine tk 5 q00d_34_9_5 (some 36) (v := ?v118) rfl rfl (by kernel_rfl) hHeld (by rfl) (fun _ _ _ x => x) (fun w h => ?y118) ?_; (case y118 => (try dsimp only at h); go_simp; try (with_reducible rfl)); try simp only [Act.put, sa, s0, s1]
            refine tk 6 q00d_34_9_6 (some 37) (v := ?v119) rfl rfl (by kernel_rfl) hHeld (by rfl) (fun _ _ _ x => x) (fun w h => ?y119) ?_; (case y119 => (try dsimp only at h); go_simp; try (with_reducible rfl)); try simp only [Act.put, sa, s0, s1]
            refine tk 7 q00d_34_9_7 (some 38) (v := ?v120) rfl rfl (by kernel_rfl) hHeld (by rfl) (fun _ _ _ x => x) (fun w h => ?y120) ?_; (case y120 => (try dsimp only at h); go_simp; try (with_reducible rfl)); try simp only [Act.put, sa, s0, s1]
            refine wpAnyH_done (by kernel_rfl) ?_ _
            obtain ⟨we, hwd⟩ : ∃ W9, W9 = wd.drew := ⟨_, rfl⟩
            rw [← hwd] at hHeld ⊢
            have HRowd := Hid.mk (RowR.keep rEntry_good HRow.out hHeld hbz)
            have hbkd := bthen hbk hHeld
            have HBWd := Hid.mk (HBW.out.under hHeld)
            have HREd := Hid.mk (rEntry_good.below HRE.out (hHeld.mono hbz))
            have hzd := hHeld.size
            have k0d := (hHeld.cell (p := ⟨b1, o1 + k * 2, none⟩) hB1).trans k0
            have k1d := (hHeld.cell (p := ⟨b1, o1 + k * 2 + 1, none⟩) hB1).trans k1
            have c0d := HBWd.out.cell 0 _ rfl
            have c1d := HBWd.out.cell 1 _ rfl
            have hB1d : b1 < we.heap.size := Nat.lt_of_lt_of_le hB1 hzd
            have hbzd : w.heap.size ≤ we.heap.size := Nat.le_trans hbz hzd
            have hbz1d : w.heap.size + 1 ≤ we.heap.size := Nat.le_trans hbz1 hzd
            clear k0 k1 c0' c1' hB1 hbz hbz1 hbk HBW HRE HRow hwd hHeld hp0 hp1 hzd
            have k0 := k0d
            have k1 := k1d
            have c0' := c0d
            have c1' := c1d
            have hB1 := hB1d
            have hbz := hbzd
            have hbz1 := hbz1d
            have hbk := hbkd
            have HBW := HBWd
            have HRE := HREd
            have HRow := HRowd
            clear k0d k1d c0d c1d hB1d hbzd hbz1d hbkd HBWd HREd HRowd
            obtain ⟨css5, r1, r2, r3, r4⟩ := HRow.out
            go_wp2_with (at_builtin; refine wpList_append_own_at _ rfl _ _ 25 rfl (w.heap.size + 1) 61 iE (.agg #[.string ⟨#[]⟩, .int .i64 0]) 2 24 Try.underlying25 hiE hzE0 hzE1 hzE2 rfl (by decide) _ _ _ rfl (own_below r4 ((Below.refl _ _).alloc (Nat.le_refl _) _)) ⟨we.heap.size, 0, none⟩ 1 1 [.string x.fName, .int .i64 x.fId] rfl rfl (bx_news (Bx.new we _ _)) (by intro u hu; simp at hu; rcases hu with rfl | rfl <;> rfl) (by unfold maxLen; omega) (by omega) (by simp; omega) ?_; intro v5 w5 hown5 hgrow5 hnil5 hloc5)
            have hT5 := Turn.after ((Below.refl we.heap.size we).alloc (Nat.le_refl _) _) (turnOwn hgrow5)
            have hge5 : ∀ k, k ∈ (Value.ownBlock _).toList → w.heap.size + 1 ≤ k := fun k hk => (r4.lt k (by simpa using hk)).1
            have hBl5 : Below w.heap.size we w5 := Turn.below hT5 (fun k hk => by have := hge5 k hk; omega) hbz
            have HRowd := Hid.mk (RowR.push rEntry_good r1 r2 r3 hBl5 rfl (rEntry_good.below HRE.out hBl5) hown5)
            have hbkd := hbk.trans hBl5
            have HBWd := Hid.mk (HBW.out.turn hT5 (fun h => by have := hge5 _ h; omega))
            have HREd := Hid.mk (rEntry_good.below HRE.out hBl5)
            have hzd := hT5.size
            have k0d := (hT5.cell (p := ⟨b1, o1 + k * 2, none⟩) hB1 (fun h => by have := hge5 _ h; have := HBL.out; simp at *; omega)).trans k0
            have k1d := (hT5.cell (p := ⟨b1, o1 + k * 2 + 1, none⟩) hB1 (fun h => by have := hge5 _ h; have := HBL.out; simp at *; omega)).trans k1
            have c0d := HBWd.out.cell 0 _ rfl
            have c1d := HBWd.out.cell 1 _ rfl
            have hB1d : b1 < w5.heap.size := Nat.lt_of_lt_of_le hB1 hzd
            have hbzd : w.heap.size ≤ w5.heap.size := Nat.le_trans hbz hzd
            have hbz1d : w.heap.size + 1 ≤ w5.heap.size := Nat.le_trans hbz1 hzd
            clear k0 k1 c0' c1' hB1 hbz hbz1 hbk HBW HRE HRow hzd r1 r2 r3 r4 hT5 hge5 hBl5 hown5 hgrow5 hnil5 hloc5
            have k0 := k0d
            have k1 := k1d
            have c0' := c0d
            have c1' := c1d
            have hB1 := hB1d
            have hbz := hbzd
            have hbz1 := hbz1d
            have hbk := hbkd
            have HBW := HBWd
            have HRE := HREd
            have HRow := HRowd
            clear k0d k1d c0d c1d hB1d hbzd hbz1d hbkd HBWd HREd HRowd
            go_roundw
            case rel => exact ⟨k + 1, o ++ [x], true, by omega, rfl, by go_num, by simp; omega, HEQ.out, HRow.out, hbk, HBW.out⟩
            case measure => simp [intOf]; omega
    · obtain ⟨css, r1, r2, r3, r4⟩ := HRow.out
      have hkn : k = n := by omega
      have HDN : Hid (l.drop k = []) := by show _ = _; rw [hkn, ← HX.out]; exact List.drop_length
      cases p
      · have HEQ : Hid (o ++ [e] = withE l e) := by show _ = _; have h := HE.out; rw [HDN.out] at h; simpa [withL] using h
        clear HE HDN
        go_wp2_with (at_builtin; refine wpList_append_own_at _ rfl _ _ 25 rfl (w.heap.size + 1) 61 iE (.agg #[.string ⟨#[]⟩, .int .i64 0]) 2 24 Try.underlying25 hiE hzE0 hzE1 hzE2 rfl (by decide) _ _ _ rfl (own_below r4 ((Below.refl _ _).alloc (Nat.le_refl _) _)) ⟨wr.heap.size, 0, none⟩ 1 1 [.string e.fName, .int .i64 e.fId] rfl rfl (bx_news (Bx.new wr _ _)) (by intro u hu; simp at hu; rcases hu with rfl | rfl <;> rfl) (by unfold maxLen; omega) (by omega) (by simp; omega) ?_; intro v1 w3 hown3 hgrow3 hnil3 hloc3)
        have hT3 := Turn.after ((Below.refl wr.heap.size wr).alloc (Nat.le_refl _) _) (turnOwn hgrow3)
        have hge3 : ∀ k, k ∈ (Value.ownBlock _).toList → w.heap.size + 1 ≤ k := fun k hk => (r4.lt k (by simpa using hk)).1
        have hBl3 : Below w.heap.size wr w3 := Turn.below hT3 (fun k hk => by have := hge3 k hk; omega) hbz
        have hr3 := RowR.push rEntry_good r1 r2 r3 hBl3 rfl (rEntry_good.below (HEE.out wr) hBl3) hown3
        rw [HEQ.out] at hr3
        obtain ⟨css3, s1, s2, s3, s4⟩ := hr3
        obtain ⟨a', c', rfl⟩ := own_slice s4
        have ho := ownS_row rfl s1 s2 s3 s4
        go_ret
        exact ⟨a', c', _, rfl, ho, (fun b hb => by have := (s4.lt b (by simpa using hb)).1; omega), hbk.trans hBl3⟩
      · have HEQ : Hid (o = withE l e) := by show _ = _; have h := HE.out; rw [HDN.out] at h; simpa [withL] using h
        rw [HEQ.out] at r1 r3 r4
        clear HE HDN
        obtain ⟨a', c', rfl⟩ := own_slice r4
        have ho := ownS_row rfl r1 r2 r3 r4
        have HO := Hid.mk ho
        have HGE : Hid (∀ b, b ∈ (Value.ownBlock (.slice a' (withE l e).length c')).toList → w.heap.size ≤ b) := fun b hb => by have := (r4.lt b (by simpa using hb)).1; omega
        clear ho r1 r2 r3 r4
        go_wp2_with fail
        go_ret
        exact ⟨a', c', _, rfl, HO.out, HGE.out, hbk⟩

end Go.Proofs.Ytmbobjhplkpfoaa
