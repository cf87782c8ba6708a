/-
  Part 7 of the texts that the proof leans on.
-/
import Derived.Test.YtmbobjhplkpfoaaFfl5
import Derived.Test.YtmbobjhplkpfoaaFfl1
import Derived.Test.YtmbobjhplkpfoaaFfl2
import Derived.OwnWalk
import Derived.Test.YtmbobjhplkpfoaaFfl0
import Derived.Test.YtmbobjhplkpfoaaFfl4
set_option linter.unusedVariables false
set_option linter.unusedSimpArgs false
set_option maxRecDepth 10000

namespace Go.Proofs.Ytmbobjhplkpfoaa
open Go.RowKit Go.Maps

theorem filter_snoc_yes {α : Type} {p : α → Bool} {l : List α} {k : Nat} (h : k < l.length) (hp : p l[k] = true) : (l.take (k + 1)).filter p = (l.take k).filter p ++ [l[k]] := by
  rw [List.take_succ_eq_append_getElem h, List.filter_append]
  simp [hp]
theorem filter_snoc_no {α : Type} {p : α → Bool} {l : List α} {k : Nat} (h : k < l.length) (hp : p l[k] = false) : (l.take (k + 1)).filter p = (l.take k).filter p := by
  rw [List.take_succ_eq_append_getElem h, List.filter_append]
  simp [hp]

theorem idsTo_all {l : List MEntry} : idsTo l l.length = l.map (·.fId) := by unfold idsTo; rw [List.take_length]
theorem idsTo_len {l : List MEntry} {k : Nat} : (idsTo l k).length ≤ l.length := by unfold idsTo; simp; omega

set_option maxHeartbeats 4000000 in
theorem namedInodes_rowB (a0 a1 a2 : Option Addr) (c0 c1 c2 : Nat) (m : MDisk) (w : World) (B : Nat) (hBB : B ≤ w.heap.size) (hI : LeafL 3 rInode B w a0 c0 m.fInodes) (hNm : LeafL 2 rEntry w.heap.size w a1 c1 m.fNames) (hSf : LeafL 2 rEntry w.heap.size w a2 c2 m.fSafe) (hw : wDisk m ≤ 16777216) :
    Calls Try.prog 38 #[.agg #[.slice a0 m.fInodes.length c0, .slice a1 m.fNames.length c1, .slice a2 m.fSafe.length c2, .int .i64 m.fNext]] w fun e w' => ∃ (a : Option Addr) (c : Nat), e = .returned (.slice a (keepI m).length c) ∧ RowR 3 56 rInode B w' w.heap.size (.slice a (keepI m).length c) (keepI m) ∧ LeafL 3 rInode w'.heap.size w' a c (keepI m) ∧ Below w.heap.size w w' := by
  obtain ⟨i0, hi, hz0, hz1, hz2⟩ := info_parts Try.infoOfInode
  have hw2 : m.fInodes.length + sumW wInode m.fInodes + (m.fNames.length + sumW wEntry m.fNames) + (m.fSafe.length + sumW wEntry m.fSafe) ≤ 16777216 := hw
  have HI := Hid.mk hI.2.2
  have HN := Hid.mk hNm.2.2
  have HS := Hid.mk hSf.2.2
  clear hI hNm hSf hw
  have hmm := @run_makeMap Try.prog
  go_enter Try.func38, Try.ntmps38
  go_wp2_with fail
  go_loopw [15] (fun i wr => ∃ (k : Nat) (D : DataW Unit), k ≤ m.fNames.length ∧ i = .int .i64 k ∧ wr.ownsMap Try.prog 3 (plainElem Try.prog 3) (w.heap.size + 1) (k) D ∧ Used D (idsTo m.fNames k) ∧ Below w.heap.size w wr ∧ Bx wr w.heap.size [.slice a0 m.fInodes.length c0, .slice a1 m.fNames.length c1, .slice a2 m.fSafe.length c2, .int .i64 m.fNext]) (fun i _ => m.fNames.length - (intOf i).toNat)
  case atStart => exact ⟨0, .map [], Nat.zero_le _, rfl, by simpa using World.ownsMap_made (H := Unit) (w.alloc _) _ _ _, Used.start, ((Below.refl _ _).alloc (Nat.le_refl _) _).alloc (by simp) _, (Bx.new _ _ _).alloc _⟩
  case round =>
    obtain ⟨k, D, hk, rfl, hown, hU, hbk, hbx⟩ := hrel
    have HU := Hid.mk hU
    clear hU
    have xb0 := hbx.2 0 _ rfl
    have xb1 := hbx.2 1 _ rfl
    have xb2 := hbx.2 2 _ rfl
    have xb3 := hbx.2 3 _ rfl
    by_cases hlt : k < m.fNames.length
    · obtain ⟨b1, o1, rfl, hB, cs, hcl, hcell, rfl, hsz, hwf, _⟩ := (HN.out.below rEntry_good hbk) k hlt
      have k0 := hcell 0 _ rfl
      have k1 := hcell 1 _ rfl
      rw [Nat.add_zero] at k0
      clear hcell hcl
      have HIDS : Hid (idsTo m.fNames (k + 1) = idsTo m.fNames k ++ [m.fNames[k].fId]) := by show _ = _; rw [idsTo_succ hlt]
      have hkey := keyInt hwf
      generalize m.fNames[k].fName = nm at *
      generalize m.fNames[k].fId = id at *
      have hmz := ownsMap_lt hown
      have hown0 := ownsMap_below hown ((Below.refl _ _).alloc (Nat.le_refl _) (.cells #[.string nm, .int .i64 id] 61))
      obtain ⟨c, hrun, hat, hwc⟩ := hown0.lookup_int lawInt Try.underlying84 Try.underlying3 (zeroInt _) hkey
      have hc := HU.out.look hat
      have hc3 : 0 ≤ c ∧ c ≤ 16777216 := by
        have h1 := idsTo_len (l := m.fNames) (k := k)
        have h2 := hc.2.1
        omega
      obtain ⟨hc4, hc5⟩ := hc3
      have HU' := Hid.mk (HU.out.put hat)
      clear hc
      go_wp2_with (at_mapUpdate; refine wpList_mapUpdate_own _ rfl _ _ _ 84 rfl 3 3 lawInt Try.underlying84 _ (w.heap.size + 1) (k) _ rfl hown0 (by unfold maxLen; omega) _ _ _ rfl rfl hkey _ [] (plainElem_int Try.underlying3 (WalkArith.wf_i64 (by omega))) ?_; intro w3 hown3 hgrow3)
      have hT : Turn [w.heap.size + 1] wr w3 := Turn.after ((Below.refl _ _).alloc (Nat.le_refl _) _) (Turn.ofGrown hgrow3 (fun k hk => by cases hk; simp))
      go_roundw
      case rel => exact ⟨k + 1, _, by omega, by go_num, hown3, by rw [HIDS.out]; exact HU'.out, Turn.under hbk hT (fun k hk => by simp at hk; omega), hbx.turn hT (by simp)⟩
      case measure => simp [intOf]; omega
    · have hkn : k = m.fNames.length := by omega
      subst hkn
      go_wp2_with fail
      go_loopw [28] (fun i wr => ∃ (k : Nat) (D : DataW Unit), k ≤ m.fSafe.length ∧ i = .int .i64 k ∧ wr.ownsMap Try.prog 3 (plainElem Try.prog 3) (w.heap.size + 1) (m.fNames.length + k) D ∧ Used D (idsTo m.fNames m.fNames.length ++ idsTo m.fSafe k) ∧ Below w.heap.size w wr ∧ Bx wr w.heap.size [.slice a0 m.fInodes.length c0, .slice a1 m.fNames.length c1, .slice a2 m.fSafe.length c2, .int .i64 m.fNext]) (fun i _ => m.fSafe.length - (intOf i).toNat)
      case atStart => exact ⟨0, D, Nat.zero_le _, rfl, hown, by have h := HU.out; simpa [idsTo] using h, hbk, hbx⟩
      case round =>
        obtain ⟨k, D, hk, rfl, hown, hU, hbk, hbx⟩ := hrel
        have HU := Hid.mk hU
        clear hU
        have xb0 := hbx.2 0 _ rfl
        have xb1 := hbx.2 1 _ rfl
        have xb2 := hbx.2 2 _ rfl
        have xb3 := hbx.2 3 _ rfl
        by_cases hlt : k < m.fSafe.length
        · obtain ⟨b1, o1, rfl, hB, cs, hcl, hcell, rfl, hsz, hwf, _⟩ := (HS.out.below rEntry_good hbk) k hlt
          have k0 := hcell 0 _ rfl
          have k1 := hcell 1 _ rfl
          rw [Nat.add_zero] at k0
          clear hcell hcl
          have HIDS : Hid (idsTo m.fNames m.fNames.length ++ idsTo m.fSafe (k + 1) = idsTo m.fNames m.fNames.length ++ idsTo m.fSafe k ++ [m.fSafe[k].fId]) := by show _ = _; rw [idsTo_succ hlt]; simp
          have hkey := keyInt hwf
          generalize m.fSafe[k].fName = nm at *
          generalize m.fSafe[k].fId = id at *
          have hmz := ownsMap_lt hown
          have hown0 := ownsMap_below hown ((Below.refl _ _).alloc (Nat.le_refl _) (.cells #[.string nm, .int .i64 id] 61))
          obtain ⟨c, hrun, hat, hwc⟩ := hown0.lookup_int lawInt Try.underlying84 Try.underlying3 (zeroInt _) hkey
          have hc := HU.out.look hat
          have hc3 : 0 ≤ c ∧ c ≤ 16777216 := by
            have h1 := idsTo_len (l := m.fSafe) (k := k)
            have h2 := hc.2.1
            have h3 := idsTo_len (l := m.fNames) (k := m.fNames.length)
            simp only [List.length_append, Int.natCast_add] at h2
            omega
          obtain ⟨hc4, hc5⟩ := hc3
          have HU' := Hid.mk (HU.out.put hat)
          clear hc
          go_wp2_with (at_mapUpdate; refine wpList_mapUpdate_own _ rfl _ _ _ 84 rfl 3 3 lawInt Try.underlying84 _ (w.heap.size + 1) (m.fNames.length + k) _ rfl hown0 (by unfold maxLen; omega) _ _ _ rfl rfl hkey _ [] (plainElem_int Try.underlying3 (WalkArith.wf_i64 (by omega))) ?_; intro w3 hown3 hgrow3)
          have hT : Turn [w.heap.size + 1] wr w3 := Turn.after ((Below.refl _ _).alloc (Nat.le_refl _) _) (Turn.ofGrown hgrow3 (fun k hk => by cases hk; simp))
          go_roundw
          case rel => exact ⟨k + 1, _, by omega, by go_num, hown3, by rw [HIDS.out]; exact HU'.out, Turn.under hbk hT (fun k hk => by simp at hk; omega), hbx.turn hT (by simp)⟩
          case measure => simp [intOf]; omega
        · have hkn : k = m.fSafe.length := by omega
          subst hkn
          go_wp2_with fail
          go_loopw [8, 41] (fun v i wr => ∃ k : Nat, k ≤ m.fInodes.length ∧ i = .int .i64 k ∧ wr.ownsMap Try.prog 3 (plainElem Try.prog 3) (w.heap.size + 1) (m.fNames.length + m.fSafe.length) D ∧ RowR 3 56 rInode B wr (w.heap.size + 2) v ((m.fInodes.take k).filter (isNamed m)) ∧ Below w.heap.size w wr) (fun _ i _ => m.fInodes.length - (intOf i).toNat)
          case atStart => exact ⟨0, Nat.zero_le _, rfl, hown, by rw [List.take_zero]; exact RowR.start, hbk⟩
          case round =>
            obtain ⟨k, hk, rfl, hown', hrow, hbk'⟩ := hrel
            have HRow := Hid.mk hrow
            clear hrow hown hbk hbx xb0 xb1 xb2 xb3
            by_cases hlt : k < m.fInodes.length
            · obtain ⟨b1, o1, rfl, hB, cs, hcl, hcell, hrI⟩ := (HI.out.below rInode_good (hbk'.mono hBB)) k hlt
              have HYes := Hid.mk (fun h => filter_snoc_yes (p := isNamed m) hlt h)
              have HNo := Hid.mk (fun h => filter_snoc_no (p := isNamed m) hlt h)
              have HNI : Hid (isNamed m m.fInodes[k] = true ↔ m.fInodes[k].fId ∈ m.fNames.map (·.fId) ++ m.fSafe.map (·.fId)) := isNamed_iff
              have hfl : ((m.fInodes.take k).filter (isNamed m)).length ≤ 16777216 := Nat.le_trans (List.length_filter_le _ _) (by simp; omega)
              generalize m.fInodes[k] = n at *
              have hrI2 := hrI
              obtain ⟨ad, cd, rfl, hid, hda, hsu, _⟩ := hrI
              have k0 := hcell 0 _ rfl
              have k1 := hcell 1 _ rfl
              have k2 := hcell 2 _ rfl
              rw [Nat.add_zero] at k0
              have hkey := keyInt hid
              have hmz := ownsMap_lt hown'
              have hown0 := ownsMap_below hown' ((Below.refl _ _).alloc (Nat.le_refl _) (.cells #[.int .i64 n.fId, .slice ad n.fData.length cd, .int .i64 n.fSure] 56))
              obtain ⟨c, hrun, hat, hwc⟩ := hown0.lookup_int lawInt Try.underlying84 Try.underlying3 (zeroInt _) hkey
              have hc := HU.out.look hat
              rw [idsTo_all, idsTo_all] at hc
              have HC := Hid.mk hc.2.2
              clear hc hcell hcl
              by_cases hcp : 0 < c
              · have HF := Hid.mk (HYes.out (HNI.out.2 (HC.out.1 hcp)))
                clear HYes HNo HNI HC
                generalize (m.fInodes.take k).filter (isNamed m) = fl at *
                obtain ⟨css, r1, r2, r3, r4⟩ := HRow.out
                have hbs := hbk'.size
                go_wp2_with (at_builtin; refine wpList_append_own_at _ rfl _ _ 24 rfl (w.heap.size + 2) 56 i0 (.agg #[.int .i64 0, .slice none 0 0, .int .i64 0]) 3 40 Try.underlying24 hi hz0 hz1 hz2 rfl (by decide) _ _ _ rfl (own_below r4 (((Below.refl _ _).alloc (Nat.le_refl _) _).alloc (by simp) _)) ⟨wr.heap.size + 1, 0, none⟩ 1 1 [.int .i64 n.fId, .slice ad n.fData.length cd, .int .i64 n.fSure] rfl rfl (bx_news (by simpa using Bx.new (wr.alloc _) _ _)) (by intro u hu; simp at hu; rcases hu with rfl | rfl | rfl <;> rfl) (by unfold maxLen; omega) (by omega) (by simp; omega) ?_; intro v' w3 hown3 hgrow3 hnil hloc)
                have hT := Turn.after (((Below.refl wr.heap.size wr).alloc (Nat.le_refl _) _).alloc (by simp) _) (turnOwn hgrow3)
                have hge : ∀ k, k ∈ (Value.ownBlock _).toList → w.heap.size + 2 ≤ k := fun k hk => (r4.lt k (by simpa using hk)).1
                have hBl : Below w.heap.size wr w3 := Turn.below hT (fun k hk => by have := hge k hk; omega) hbs
                go_roundw
                case rel => exact ⟨k + 1, by omega, by go_num, ownsMap_block hown' (hT.block _ hmz (fun hm => by have := hge _ hm; omega)), by rw [HF.out]; exact RowR.push rInode_good r1 r2 r3 (hBl.mono hBB) rfl (rInode_good.below hrI2 (hBl.mono hBB)) hown3, hbk'.trans hBl⟩
                case measure => simp [intOf]; omega
              · have HF := Hid.mk (HNo.out (Bool.eq_false_iff.2 (fun h => hcp (HC.out.2 (HNI.out.1 h)))))
                clear HYes HNo HNI HC
                have hbs := hbk'.size
                have hbq := (Below.refl wr.heap.size wr).alloc (Nat.le_refl _) (.cells #[.int .i64 n.fId, .slice ad n.fData.length cd, .int .i64 n.fSure] 56)
                go_wp2_with fail
                go_roundw
                case rel => exact ⟨k + 1, by omega, by go_num, hown0, by rw [HF.out]; exact RowR.keep rInode_good HRow.out hbq (Nat.le_trans hBB hbs), bthen hbk' hbq⟩
                case measure => simp [intOf]; omega
            · have hkn : k = m.fInodes.length := by omega
              subst hkn
              have hrow := HRow.out
              rw [List.take_length] at hrow
              obtain ⟨ar, cr, hv, hlf⟩ := hrow.leaf rInode_good (Nat.le_trans hBB hbk'.size)
              subst hv
              go_wp2_with fail
              go_ret
              exact ⟨ar, cr, rfl, RowR.base hrow (by omega), hlf, hbk'⟩

theorem namedInodes_row (cs : List Value) (m : MDisk) (w : World) (hr : rDisk w.heap.size w cs m) (hw : wDisk m ≤ 16777216) :
    Calls Try.prog 38 #[.agg cs.toArray] w fun e w' => ∃ (a : Option Addr) (c : Nat), e = .returned (.slice a (keepI m).length c) ∧ RowR 3 56 rInode w.heap.size w' w.heap.size (.slice a (keepI m).length c) (keepI m) ∧ LeafL 3 rInode w'.heap.size w' a c (keepI m) ∧ Below w.heap.size w w' := by
  obtain ⟨a0, c0, a1, c1, a2, c2, rfl, hI, hNm, hSf, hnx, _⟩ := hr
  exact namedInodes_rowB a0 a1 a2 c0 c1 c2 m w w.heap.size (Nat.le_refl _) hI hNm hSf hw

theorem namedInodes_any (cs : List Value) (m : MDisk) (w : World) (hr : rDisk w.heap.size w cs m) (hw : wDisk m ≤ 16777216) :
    Calls Try.prog 38 #[.agg cs.toArray] w fun e w' => ∃ (a : Option Addr) (c : Nat), e = .returned (.slice a (keepI m).length c) ∧ LeafL 3 rInode w'.heap.size w' a c (keepI m) ∧ Below w.heap.size w w' :=
  (namedInodes_row cs m w hr hw).mono fun e w' ⟨a, c, h1, _, h2, h3⟩ => ⟨a, c, h1, h2, h3⟩

abbrev q9a7_59_5_0 : Oper := ⟨some 13, .fieldAddr 27 (.tmp 1) 1, 0, "l02_files.go:118", #[], none⟩
abbrev q9a7_59_5_1 : Oper := ⟨some 14, .load 25 (.tmp 13), 25, "l02_files.go:118", #[⟨0, .data⟩], none⟩
abbrev q9a7_59_5_2 : Oper := ⟨some 15, .fieldAddr 27 (.tmp 1) 0, 0, "l02_files.go:118", #[], none⟩
abbrev q9a7_59_5_3 : Oper := ⟨some 16, .load 24 (.tmp 15), 24, "l02_files.go:118", #[⟨2, .data⟩], none⟩
abbrev q9a7_59_5_4 : Oper := ⟨some 17, .move (.tmp 4), 3, "l02_files.go:118", #[], none⟩
abbrev q9a7_59_5_5 : Oper := ⟨some 18, .indexAddr 24 (.tmp 16) (.tmp 17), 0, "l02_files.go:118", #[⟨3, .data⟩, ⟨4, .data⟩], none⟩
abbrev q9a7_59_5_6 : Oper := ⟨some 19, .fieldAddr 56 (.tmp 18) 0, 0, "l02_files.go:118", #[⟨5, .data⟩], none⟩
abbrev q9a7_59_5_7 : Oper := ⟨some 20, .load 3 (.tmp 19), 3, "l02_files.go:118", #[⟨6, .data⟩], none⟩
abbrev q9a7_59_5_8 : Oper := ⟨some 21, .call { callee := .value (.func 70), args := #[.tmp 14, .tmp 20], argTypes := #[25, 3] }, 4, "l02_files.go:118", #[⟨1, .data⟩, ⟨7, .data⟩], none⟩
abbrev q9a7_59_5_9 : Oper := ⟨some 22, .move (.tmp 21), 4, "l02_files.go:118", #[⟨8, .data⟩, ⟨8, .chain⟩], none⟩
abbrev q9a7_59_5_10 : Oper := ⟨some 23, .fieldAddr 27 (.tmp 1) 2, 0, "l02_files.go:118", #[⟨9, .guard⟩], some (9, false)⟩
abbrev q9a7_59_5_11 : Oper := ⟨some 24, .load 25 (.tmp 23), 25, "l02_files.go:118", #[⟨10, .data⟩, ⟨9, .guard⟩], some (9, false)⟩
abbrev q9a7_59_5_12 : Oper := ⟨some 25, .fieldAddr 27 (.tmp 1) 0, 0, "l02_files.go:118", #[⟨9, .guard⟩], some (9, false)⟩
abbrev q9a7_59_5_13 : Oper := ⟨some 26, .load 24 (.tmp 25), 24, "l02_files.go:118", #[⟨12, .data⟩, ⟨9, .guard⟩], some (9, false)⟩
abbrev q9a7_59_5_14 : Oper := ⟨some 27, .move (.tmp 4), 3, "l02_files.go:118", #[⟨9, .guard⟩], some (9, false)⟩
abbrev q9a7_59_5_15 : Oper := ⟨some 28, .indexAddr 24 (.tmp 26) (.tmp 27), 0, "l02_files.go:118", #[⟨13, .data⟩, ⟨14, .data⟩, ⟨9, .guard⟩], some (9, false)⟩
abbrev q9a7_59_5_16 : Oper := ⟨some 29, .fieldAddr 56 (.tmp 28) 0, 0, "l02_files.go:118", #[⟨15, .data⟩, ⟨9, .guard⟩], some (9, false)⟩
abbrev q9a7_59_5_17 : Oper := ⟨some 30, .load 3 (.tmp 29), 3, "l02_files.go:118", #[⟨16, .data⟩, ⟨9, .guard⟩], some (9, false)⟩
abbrev q9a7_59_5_18 : Oper := ⟨some 31, .call { callee := .value (.func 70), args := #[.tmp 24, .tmp 30], argTypes := #[25, 3] }, 4, "l02_files.go:118", #[⟨11, .data⟩, ⟨17, .data⟩, ⟨9, .chain⟩, ⟨9, .guard⟩], some (9, false)⟩
abbrev q9a7_59_5_19 : Oper := ⟨some 32, .pick (.tmp 22) (.const (.bool true)) (.tmp 31), 4, "l02_files.go:118", #[⟨9, .data⟩, ⟨18, .data⟩], none⟩

/-- An inode that is owned, out of a footprint. -/
def repO (F0 : List Nat) : Rep MInode := fun B w cs m => ∃ Fk, oInode w cs m Fk ∧ ∀ b, b ∈ Fk → b ∈ F0 ∧ b < B
theorem repO_good (F0 : List Nat) : (repO F0).Good :=
  ⟨fun ⟨Fk, h1, h2⟩ hb => ⟨Fk, oInode_good.frame h1 (fun b hbF => hb.block b (h2 b hbF).2), h2⟩, fun ⟨Fk, h1, h2⟩ hB => ⟨Fk, h1, fun b hb => ⟨(h2 b hb).1, Nat.lt_of_lt_of_le (h2 b hb).2 hB⟩⟩⟩
theorem repO_read (F0 : List Nat) : ∀ B w cs m, repO F0 B w cs m → rInode B w cs m := by
  rintro B w cs m ⟨Fk, ⟨v1, F1, rfl, h0, h1, h2, rfl⟩, hF⟩
  obtain ⟨h3, h4, rfl⟩ := h1
  rcases h3.2 with ⟨rfl, h'⟩ | ⟨g, cap, cur, rfl, hb, hg, hnc, hm, _⟩
  · exact ⟨none, 0, by rw [h'], h0, ⟨by omega, by omega, fun j hj => by omega, h4⟩, h2, trivial⟩
  · have hgB := (hF g (by simp [Value.ownBlock])).2
    refine ⟨_, cap, rfl, h0, ⟨hnc, by simpa [maxLen] using hm, fun j hj => ?_, h4⟩, h2, trivial⟩
    obtain ⟨b, off, e, _, hc⟩ := Rd.own rfl h3 j hj
    simp only [Option.some.injEq, Addr.mk.injEq, and_true] at e
    obtain ⟨rfl, rfl⟩ := e
    exact ⟨g, 0, rfl, hgB, hc⟩

theorem ownS.leafO {e : TypeId} {w : World} {a : Option Addr} {c : Nat} {l : List MInode} {F : List Nat} (h : ownS 3 e oInode w (.slice a l.length c) l F) : LeafL 3 (repO F) w.heap.size w a c l := by
  rcases h with ⟨h1, rfl, _⟩ | ⟨g, cap, cur, Fs, h1, h2, h3, h4, h5, h6, h7, rfl⟩
  · simp only [List.length_nil, Value.slice.injEq, true_and] at h1
    obtain ⟨rfl, rfl⟩ := h1
    exact ⟨by simp, by omega, fun j hj => by simp at hj⟩
  · simp only [Value.slice.injEq, true_and] at h1
    obtain ⟨rfl, rfl⟩ := h1
    refine ⟨h3, by simpa [maxLen] using h4, fun j hj => ⟨g, 0, rfl, (Array.getElem?_eq_some_iff.1 h2).1, _, oInode_good.len (h7 j hj), ?_, _, h7 j hj, fun b hb => ⟨List.mem_cons_of_mem _ (mem_flatten_getD (by omega) hb), oInode_good.lt (h7 j hj) b hb⟩⟩⟩
    intro i u hu
    rw [Nat.zero_add, cell_of_row w g _ cur e (0, 0) h2]
    rw [List.getElem?_take] at hu
    split at hu
    · rw [List.getElem?_drop] at hu
      simpa using hu
    · cases hu

theorem pickF {F0 : List Nat} {B : Nat} {w : World} : ∀ {l : List MInode} {css : List (List Value)}, css.length = l.length → (∀ j, (h : j < l.length) → (h2 : j < css.length) → repO F0 B w css[j] l[j]) →
    ∃ Fs : List (List Nat), Fs.length = l.length ∧ (∀ j, (h : j < l.length) → (h2 : j < css.length) → oInode w css[j] l[j] (Fs.getD j [])) ∧ ∀ b, b ∈ Fs.flatten → b ∈ F0 ∧ b < B
  | [], [], _, _ => ⟨[], rfl, fun j h => by simp at h, fun b hb => by simp at hb⟩
  | m :: l, c :: css, hl, h => by
    obtain ⟨Fs, f1, f2, f3⟩ := pickF (l := l) (css := css) (by simpa using hl) (fun j h1 h2 => h (j + 1) (by simpa using h1) (by simpa using h2))
    obtain ⟨Fk, g1, g2⟩ := h 0 (by simp) (by simp)
    refine ⟨Fk :: Fs, by simp [f1], fun j h1 h2 => ?_, fun b hb => ?_⟩
    · cases j with
      | zero => exact g1
      | succ j => exact f2 j (by simpa using h1) (by simpa using h2)
    · rw [List.flatten_cons, List.mem_append] at hb
      rcases hb with hb | hb
      · exact g2 b hb
      · exact f3 b hb
  | [], _ :: _, hl, _ => by simp at hl
  | _ :: _, [], hl, _ => by simp at hl

theorem RowR.own {F0 : List Nat} {B base : Nat} {e : TypeId} {w : World} {v : Value} {l : List MInode} (h : RowR 3 e (repO F0) B w base v l) : ∃ F', ownS 3 e oInode w v l F' ∧ ∀ b, b ∈ F' → b ∈ F0 ∨ base ≤ b := by
  obtain ⟨css, r1, r2, r3, r4⟩ := h
  obtain ⟨Fs, f1, f2, f3⟩ := pickF r1 r3
  rcases r4.2 with ⟨rfl, h0⟩ | ⟨g, cap, cur, rfl, hb, hg, hnc, hm, hs, ht⟩
  · exact ⟨[], .inl ⟨rfl, List.eq_nil_of_length_eq_zero h0, rfl⟩, fun b hb => by cases hb⟩
  · refine ⟨g :: Fs.flatten, .inr ⟨g, cap, cur, Fs, rfl, hg, hnc, hm, hs, f1, fun j hj => ?_, rfl⟩, fun b hbF => ?_⟩
    · have hj2 : j < css.length := by omega
      have hmul : (j + 1) * 3 ≤ l.length * 3 := Nat.mul_le_mul_right _ hj
      have e0 : (cur.toList.drop (j * 3)).take 3 = css[j] := by
        rw [← flat_part r2 hj2, ← ht]
        apply List.ext_getElem?
        intro i
        rw [List.getElem?_take, List.getElem?_take, List.getElem?_drop, List.getElem?_drop, List.getElem?_take]
        by_cases hi : i < 3
        · rw [if_pos hi, if_pos hi, if_pos (by omega)]
        · rw [if_neg hi, if_neg hi]
      rw [e0]
      exact f2 j hj hj2
    · rcases List.mem_cons.1 hbF with rfl | hbF
      · exact .inr hb
      · exact .inl (f3 b hbF).1

theorem RowR.turn {α : Type} {size : Nat} {e : TypeId} {R : Rep α} (hR : R.Good) {F : List Nat} {B : Nat} {w w' : World} {base base' : Nat} {v : Value} {l : List α} (h : RowR size e R B w base v l) (hT : Turn F w w') (hF : ∀ k, k ∈ F → B ≤ k ∧ k < base) (hB : B ≤ w.heap.size) (hb : base' ≤ base) : RowR size e R B w' base' v l := by
  obtain ⟨css, r1, r2, r3, r4⟩ := h
  exact ⟨css, r1, r2, fun j h1 h2 => hR.below (r3 j h1 h2) (hT.below (fun k hk => (hF k hk).1) hB), own_base (own_of_block r4 (fun k hk => hT.block k (r4.lt k hk).2 (fun hm => by have := (r4.lt k hk).1; have := (hF k hm).2; omega))) hb⟩

set_option maxHeartbeats 4000000 in
theorem l2Keep_any (R : Rep MInode) (hR : R.Good) (hRI : ∀ B w cs m, R B w cs m → rInode B w cs m) (a0 a1 a2 : Option Addr) (c0 c1 c2 : Nat) (m : MDisk) (w : World) (B : Nat) (hBB : B ≤ w.heap.size) (hI : LeafL 3 R B w a0 c0 m.fInodes) (hNm : LeafL 2 rEntry w.heap.size w a1 c1 m.fNames) (hSf : LeafL 2 rEntry w.heap.size w a2 c2 m.fSafe) (hw : m.fInodes.length ≤ 1048576 ∧ m.fNames.length ≤ 1048576 ∧ m.fSafe.length ≤ 1048576) :
    Calls Try.prog 59 #[.agg #[.slice a0 m.fInodes.length c0, .slice a1 m.fNames.length c1, .slice a2 m.fSafe.length c2, .int .i64 m.fNext]] w fun e w' => ∃ (a : Option Addr) (c : Nat), e = .returned (.agg #[.slice a (keepI m).length c, .slice a1 m.fNames.length c1, .slice a2 m.fSafe.length c2, .int .i64 m.fNext]) ∧ RowR 3 56 R B w' w.heap.size (.slice a (keepI m).length c) (keepI m) ∧ Below w.heap.size w w' := by
  obtain ⟨hw0, hw1, hw2⟩ := hw
  obtain ⟨i0, hi, hz0, hz1, hz2⟩ := info_parts Try.infoOfInode
  have HI := Hid.mk hI.2.2
  have HN := Hid.mk hNm.2.2
  have HS := Hid.mk hSf.2.2
  clear hI hNm hSf
  go_enter Try.func59, Try.ntmps59
  go_wp2_with fail
  go_loopw [3, 4] (fun v i wr => ∃ k : Nat, k ≤ m.fInodes.length ∧ i = .int .i64 k ∧ RowR 3 56 R B wr (w.heap.size + 2) v ((m.fInodes.take k).filter (isNamed m)) ∧ Below w.heap.size w wr ∧ Bw wr w.heap.size 27 [.slice a0 m.fInodes.length c0, .slice a1 m.fNames.length c1, .slice a2 m.fSafe.length c2, .int .i64 m.fNext] ∧ Bw wr (w.heap.size + 1) 27 [.slice none 0 0, .slice none 0 0, .slice none 0 0, .int .i64 0]) (fun _ i _ => m.fInodes.length - (intOf i).toNat)
  case atStart =>
    refine ⟨0, Nat.zero_le _, rfl, ⟨[], rfl, (fun _ h => by cases h), (fun _ h => by simp at h), ?_⟩, Below.alloc (Below.alloc (Below.alloc (Below.refl _ _) (Nat.le_refl _) _) (by simp) _) (by simp; omega) _, Bw.alloc (Bw.alloc (Bw.new _ _ _) _) _, Bw.alloc (Bw.new' _ _ _ (by simp)) _⟩
    have h := own_lit0 ((w.alloc (.cells #[.slice a0 m.fInodes.length c0, .slice a1 m.fNames.length c1, .slice a2 m.fSafe.length c2, .int .i64 m.fNext] 27)).alloc (.cells #[.slice none 0 0, .slice none 0 0, .slice none 0 0, .int .i64 0] 27)) (w.heap.size + 2) 56 3 (by simp)
    simpa using h
  case round =>
    obtain ⟨k, hk, rfl, hrow, hbk, hbd, hbr⟩ := hrel
    have HRow := Hid.mk hrow
    have x0 := hbd.cell 0 _ rfl
    have hlx := hbd.lt
    have hly := hbr.lt
    have HBD := Hid.mk hbd
    have HBR := Hid.mk hbr
    clear hrow hbd hbr
    by_cases hlt : k < m.fInodes.length
    · obtain ⟨b1, o1, rfl, hB, cs, hcl, hcell, hrI⟩ := (HI.out.below hR (hbk.mono hBB)) k hlt
      have HYes := Hid.mk (fun h => filter_snoc_yes (p := isNamed m) hlt h)
      have HNo := Hid.mk (fun h => filter_snoc_no (p := isNamed m) hlt h)
      have HNI : Hid (isNamed m m.fInodes[k] = (named m.fNames m.fInodes[k].fId || named m.fSafe m.fInodes[k].fId)) := rfl
      have hfl : ((m.fInodes.take k).filter (isNamed m)).length ≤ 1048576 := Nat.le_trans (List.length_filter_le _ _) (by simp; omega)
      obtain ⟨n, hn⟩ : ∃ n, m.fInodes[k] = n := ⟨_, rfl⟩
      rw [hn] at HYes HNo HNI hrI
      clear hn
      have hrI2 := hrI
      obtain ⟨ad, cd, rfl, hid, hda, hsu, _⟩ := hRI _ _ _ _ hrI
      have k0 := hcell 0 _ rfl
      have k1 := hcell 1 _ rfl
      have k2 := hcell 2 _ rfl
      rw [Nat.add_zero] at k0
      have HRI := Hid.mk hrI2
      have p0 : ∀ W, Below wr.heap.size wr W → W.cell? ⟨w.heap.size, 0, none⟩ = some (.slice (some ⟨b1, o1, none⟩) m.fInodes.length c0) := fun W hb => (HBD.out.under hb).cell 0 _ rfl
      have p1 : ∀ W, Below wr.heap.size wr W → W.cell? ⟨w.heap.size, 1, none⟩ = some (.slice a1 m.fNames.length c1) := fun W hb => (HBD.out.under hb).cell 1 _ rfl
      have p2 : ∀ W, Below wr.heap.size wr W → W.cell? ⟨w.heap.size, 2, none⟩ = some (.slice a2 m.fSafe.length c2) := fun W hb => (HBD.out.under hb).cell 2 _ rfl
      have hbz0 := hbk.size
      have hbz := Nat.le_trans hBB hbz0
      have q0 : ∀ W, Below wr.heap.size wr W → W.cell? ⟨b1, o1 + k * 3, none⟩ = some (.int .i64 n.fId) := fun W hb => (hb.cell (p := ⟨b1, o1 + k * 3, none⟩) (Nat.lt_of_lt_of_le hB hbz)).trans k0
      have hC1 := fun W (hb : Below wr.heap.size wr W) => l2Named_any a1 _ c1 m.fNames n.fId W w.heap.size rfl (by omega) (HN.out.below rEntry_good (bthen hbk hb))
      have hC2 := fun W (hb : Below wr.heap.size wr W) => l2Named_any a2 _ c2 m.fSafe n.fId W w.heap.size rfl (by omega) (HS.out.below rEntry_good (bthen hbk hb))
      clear hcell hcl hrI2
      by_cases hY : isNamed m n = true
      · have HF := Hid.mk (HYes.out hY)
        have HY := Hid.mk hY
        clear HYes HNo hY
        by_cases hA : named m.fNames n.fId = true
        · rw [hA] at hC1
          go_wp2_with fail
          refine wp_region_held_drew (S := fun W => Below wr.heap.size wr W) (by kernel_rfl) (Below.drew (Below.refl _ _)) (fun hHeld => ?_)
          refine tk 0 q9a7_59_5_0 (some 13) (v := ?v1) rfl rfl (by kernel_rfl) hHeld (by rfl) (fun _ _ _ x => x) (fun w h => ?y1) ?_; (case y1 => (try dsimp only at h); go_simp; try (with_reducible rfl)); try simp only [Act.put, sa, s0, s1]
          refine tk 1 q9a7_59_5_1 (some 14) (v := ?v2) rfl rfl (by kernel_rfl) hHeld (by rfl) (fun _ _ _ x => x) (fun w h => ?y2) ?_; (case y2 => (try dsimp only at h); go_simp; try (with_reducible rfl)); try simp only [Act.put, sa, s0, s1]
          refine tk 2 q9a7_59_5_2 (some 15) (v := ?v3) rfl rfl (by kernel_rfl) hHeld (by rfl) (fun _ _ _ x => x) (fun w h => ?y3) ?_; (case y3 => (try dsimp only at h); go_simp; try (with_reducible rfl)); try simp only [Act.put, sa, s0, s1]
          refine tk 3 q9a7_59_5_3 (some 16) (v := ?v4) rfl rfl (by kernel_rfl) hHeld (by rfl) (fun _ _ _ x => x) (fun w h => ?y4) ?_; (case y4 => (try dsimp only at h); go_simp; try (with_reducible rfl)); try simp only [Act.put, sa, s0, s1]
          refine tk 4 q9a7_59_5_4 (some 17) (v := ?v5) rfl rfl (by kernel_rfl) hHeld (by rfl) (fun _ _ _ x => x) (fun w h => ?y5) ?_; (case y5 => (try dsimp only at h); go_simp; try (with_reducible rfl)); try simp only [Act.put, sa, s0, s1]
          refine tk 5 q9a7_59_5_5 (some 18) (v := ?v6) rfl rfl (by kernel_rfl) hHeld (by rfl) (fun _ _ _ x => x) (fun w h => ?y6) ?_; (case y6 => (try dsimp only at h); go_simp; try (with_reducible rfl)); try simp only [Act.put, sa, s0, s1]
          refine tk 6 q9a7_59_5_6 (some 19) (v := ?v7) rfl rfl (by kernel_rfl) hHeld (by rfl) (fun _ _ _ x => x) (fun w h => ?y7) ?_; (case y7 => (try dsimp only at h); go_simp; try (with_reducible rfl)); try simp only [Act.put, sa, s0, s1]
          refine tk 7 q9a7_59_5_7 (some 20) (v := ?v8) rfl rfl (by kernel_rfl) hHeld (by rfl) (fun _ _ _ x => x) (fun w h => ?y8) ?_; (case y8 => (try dsimp only at h); go_simp; try (with_reducible rfl)); try simp only [Act.put, sa, s0, s1]
          refine wpAnyH_ready (rs := [8]) (by kernel_rfl) (by simp) ?_
          refine AllReadyH.cons (o := q9a7_59_5_8) rfl (fun K hK => ?_) AllReadyH.nil
          go_simp
          refine Calls.mono (hC1 _ hHeld) ?_
          rintro e wy1 ⟨rfl, hw1⟩
          have hy1 := below_same hw1
          clear hw1
          go_wp2_with fail
          refine hK.out _ _ (bthen hHeld hy1) (fun hHeld => ?_)
          clear hK K
          try simp only [Act.put, sa, s0, s1]
          refine tk 9 q9a7_59_5_9 (some 22) (v := ?v9) rfl rfl (by kernel_rfl) hHeld (by rfl) (fun _ _ _ x => x) (fun w h => ?y9) ?_; (case y9 => (try dsimp only at h); go_simp; try (with_reducible rfl)); try simp only [Act.put, sa, s0, s1]
          refine tn 10 q9a7_59_5_10 (some 23) rfl rfl (by kernel_rfl) hHeld (by rfl) (fun _ _ _ x => x) ?_; try simp only [Act.put, sa, s0, s1]
          refine tn 11 q9a7_59_5_11 (some 24) rfl rfl (by kernel_rfl) hHeld (by rfl) (fun _ _ _ x => x) ?_; try simp only [Act.put, sa, s0, s1]
          refine tn 12 q9a7_59_5_12 (some 25) rfl rfl (by kernel_rfl) hHeld (by rfl) (fun _ _ _ x => x) ?_; try simp only [Act.put, sa, s0, s1]
          refine tn 13 q9a7_59_5_13 (some 26) rfl rfl (by kernel_rfl) hHeld (by rfl) (fun _ _ _ x => x) ?_; try simp only [Act.put, sa, s0, s1]
          refine tn 14 q9a7_59_5_14 (some 27) rfl rfl (by kernel_rfl) hHeld (by rfl) (fun _ _ _ x => x) ?_; try simp only [Act.put, sa, s0, s1]
          refine tn 15 q9a7_59_5_15 (some 28) rfl rfl (by kernel_rfl) hHeld (by rfl) (fun _ _ _ x => x) ?_; try simp only [Act.put, sa, s0, s1]
          refine tn 16 q9a7_59_5_16 (some 29) rfl rfl (by kernel_rfl) hHeld (by rfl) (fun _ _ _ x => x) ?_; try simp only [Act.put, sa, s0, s1]
          refine tn 17 q9a7_59_5_17 (some 30) rfl rfl (by kernel_rfl) hHeld (by rfl) (fun _ _ _ x => x) ?_; try simp only [Act.put, sa, s0, s1]
          refine tn 18 q9a7_59_5_18 (some 31) rfl rfl (by kernel_rfl) hHeld (by rfl) (fun _ _ _ x => x) ?_; try simp only [Act.put, sa, s0, s1]
          refine tk 19 q9a7_59_5_19 (some 32) (v := ?v19) rfl rfl (by kernel_rfl) hHeld (by rfl) (fun _ _ _ x => x) (fun w h => ?y19) ?_; (case y19 => (try dsimp only at h); go_simp; try (with_reducible rfl)); try simp only [Act.put, sa, s0, s1]
          refine wpAnyH_done (by kernel_rfl) ?_ _
          obtain ⟨wa, hwa⟩ : ∃ wa, wa = wy1 := ⟨_, rfl⟩
          rw [← hwa] at hHeld ⊢
          have hbA := bthen hbk hHeld
          have x0a := (HBD.out.under hHeld).cell 0 _ rfl
          have hza := hHeld.size
          have k0a := (hHeld.cell (p := ⟨b1, o1 + k * 3, none⟩) (Nat.lt_of_lt_of_le hB hbz)).trans k0
          have k1a := (hHeld.cell (p := ⟨b1, o1 + k * 3 + 1, none⟩) (Nat.lt_of_lt_of_le hB hbz)).trans k1
          have k2a := (hHeld.cell (p := ⟨b1, o1 + k * 3 + 2, none⟩) (Nat.lt_of_lt_of_le hB hbz)).trans k2
          have hra := RowR.keep hR HRow.out hHeld hbz
          have HRIa := Hid.mk (hR.below HRI.out (hHeld.mono hbz))
          have HBDa := Hid.mk (HBD.out.under hHeld)
          have HBRa := Hid.mk (HBR.out.under hHeld)
          have HBA := Hid.mk hbA
          have HHa := Hid.mk hHeld
          have hbsa := hbA.size
          have hB1a : b1 < wa.heap.size := by omega
          have hlxa := HBDa.out.lt
          have hlya := HBRa.out.lt
          obtain ⟨fl, hflq⟩ : ∃ fl, fl = (m.fInodes.take k).filter (isNamed m) := ⟨_, rfl⟩
          rw [← hflq] at hra HF hfl
          obtain ⟨css, r1, r2, r3, r4⟩ := hra
          clear hwa p0 p1 p2 q0 hC1 hC2 k0 k1 k2 hHeld HNI hflq HRow
          go_wp2_with (at_builtin; refine wpList_append_own_at _ rfl _ _ 24 rfl (w.heap.size + 2) 56 i0 (.agg #[.int .i64 0, .slice none 0 0, .int .i64 0]) 3 40 Try.underlying24 hi hz0 hz1 hz2 rfl (by decide) _ _ _ rfl (own_below r4 ((Below.refl _ _).alloc (Nat.le_refl _) _)) ⟨wa.heap.size, 0, none⟩ 1 1 [.int .i64 n.fId, .slice ad n.fData.length cd, .int .i64 n.fSure] rfl rfl (bx_news (Bx.new wa _ _)) (by intro u hu; simp at hu; rcases hu with rfl | rfl | rfl <;> rfl) (by unfold maxLen; omega) (by omega) (by simp; omega) ?_; intro v' w3 hown3 hgrow3 hnil hloc)
          have hT := Turn.after ((Below.refl wa.heap.size wa).alloc (Nat.le_refl _) _) (turnOwn hgrow3)
          have hge : ∀ k, k ∈ (Value.ownBlock _).toList → w.heap.size + 2 ≤ k := fun k hk => (r4.lt k (by simpa using hk)).1
          have hBl : Below w.heap.size wa w3 := Turn.below hT (fun k hk => by have := hge k hk; omega) hbsa
          go_roundw
          case rel => exact ⟨k + 1, by omega, by go_num, by rw [HF.out]; exact RowR.push hR r1 r2 r3 (hBl.mono hBB) rfl (hR.below HRIa.out (hBl.mono hBB)) hown3, hbA.trans hBl, HBDa.out.turn hT (fun h => by have := hge _ h; omega), HBRa.out.turn hT (fun h => by have := hge _ h; omega)⟩
          case measure => simp [intOf]; omega
        · have hA2 : named m.fNames n.fId = false := Bool.eq_false_iff.2 hA
          have hS2 : named m.fSafe n.fId = true := by have h := HNI.out; rw [HY.out, hA2, Bool.false_or] at h; exact h.symm
          rw [hA2] at hC1
          rw [hS2] at hC2
          go_wp2_with fail
          refine wp_region_held_drew (S := fun W => Below wr.heap.size wr W) (by kernel_rfl) (Below.drew (Below.refl _ _)) (fun hHeld => ?_)
          refine tk 0 q9a7_59_5_0 (some 13) (v := ?v20) rfl rfl (by kernel_rfl) hHeld (by rfl) (fun _ _ _ x => x) (fun w h => ?y20) ?_; (case y20 => (try dsimp only at h); go_simp; try (with_reducible rfl)); try simp only [Act.put, sa, s0, s1]
          refine tk 1 q9a7_59_5_1 (some 14) (v := ?v21) rfl rfl (by kernel_rfl) hHeld (by rfl) (fun _ _ _ x => x) (fun w h => ?y21) ?_; (case y21 => (try dsimp only at h); go_simp; try (with_reducible rfl)); try simp only [Act.put, sa, s0, s1]
          refine tk 2 q9a7_59_5_2 (some 15) (v := ?v22) rfl rfl (by kernel_rfl) hHeld (by rfl) (fun _ _ _ x => x) (fun w h => ?y22) ?_; (case y22 => (try dsimp only at h); go_simp; try (with_reducible rfl)); try simp only [Act.put, sa, s0, s1]
          refine tk 3 q9a7_59_5_3 (some 16) (v := ?v23) rfl rfl (by kernel_rfl) hHeld (by rfl) (fun _ _ _ x => x) (fun w h => ?y23) ?_; (case y23 => (try dsimp only at h); go_simp; try (with_reducible rfl)); try simp only [Act.put, sa, s0, s1]
          refine tk 4 q9a7_59_5_4 (some 17) (v := ?v24) rfl rfl (by kernel_rfl) hHeld (by rfl) (fun _ _ _ x => x) (fun w h => ?y24) ?_; (case y24 => (try dsimp only at h); go_simp; try (with_reducible rfl)); try simp only [Act.put, sa, s0, s1]
          refine tk 5 q9a7_59_5_5 (some 18) (v := ?v25) rfl rfl (by kernel_rfl) hHeld (by rfl) (fun _ _ _ x => x) (fun w h => ?y25) ?_; (case y25 => (try dsimp only at h); go_simp; try (with_reducible rfl)); try simp only [Act.put, sa, s0, s1]
          refine tk 6 q9a7_59_5_6 (some 19) (v := ?v26) rfl rfl (by kernel_rfl) hHeld (by rfl) (fun _ _ _ x => x) (fun w h => ?y26) ?_; (case y26 => (try dsimp only at h); go_simp; try (with_reducible rfl)); try simp only [Act.put, sa, s0, s1]
          refine tk 7 q9a7_59_5_7 (some 20) (v := ?v27) rfl rfl (by kernel_rfl) hHeld (by rfl) (fun _ _ _ x => x) (fun w h => ?y27) ?_; (case y27 => (try dsimp only at h); go_simp; try (with_reducible rfl)); try simp only [Act.put, sa, s0, s1]
          refine wpAnyH_ready (rs := [8]) (by kernel_rfl) (by simp) ?_
          refine AllReadyH.cons (o := q9a7_59_5_8) rfl (fun K hK => ?_) AllReadyH.nil
          go_simp
          refine Calls.mono (hC1 _ hHeld) ?_
          rintro e wy1 ⟨rfl, hw1⟩
          have hy1 := below_same hw1
          clear hw1
          go_wp2_with fail
          refine hK.out _ _ (bthen hHeld hy1) (fun hHeld => ?_)
          clear hK K
          try simp only [Act.put, sa, s0, s1]
          refine tk 9 q9a7_59_5_9 (some 22) (v := ?v28) rfl rfl (by kernel_rfl) hHeld (by rfl) (fun _ _ _ x => x) (fun w h => ?y28) ?_; (case y28 => (try dsimp only at h); go_simp; try (with_reducible rfl)); try simp only [Act.put, sa, s0, s1]
          refine tk 10 q9a7_59_5_10 (some 23) (v := ?v29) rfl rfl (by kernel_rfl) hHeld (by rfl) (fun _ _ _ x => x) (fun w h => ?y29) ?_; (case y29 => (try dsimp only at h); go_simp; try (with_reducible rfl)); try simp only [Act.put, sa, s0, s1]
          refine tk 11 q9a7_59_5_11 (some 24) (v := ?v30) rfl rfl (by kernel_rfl) hHeld (by rfl) (fun _ _ _ x => x) (fun w h => ?y30) ?_; (case y30 => (try dsimp only at h); go_simp; try (with_reducible rfl)); try simp only [Act.put, sa, s0, s1]
          refine tk 12 q9a7_59_5_12 (some 25) (v := ?v31) rfl rfl (by kernel_rfl) hHeld (by rfl) (fun _ _ _ x => x) (fun w h => ?y31) ?_; (case y31 => (try dsimp only at h); go_simp; try (with_reducible rfl)); try simp only [Act.put, sa, s0, s1]
          refine tk 13 q9a7_59_5_13 (some 26) (v := ?v32) rfl rfl (by kernel_rfl) hHeld (by rfl) (fun _ _ _ x => x) (fun w h => ?y32) ?_; (case y32 => (try dsimp only at h); go_simp; try (with_reducible rfl)); try simp only [Act.put, sa, s0, s1]
          refine tk 14 q9a7_59_5_14 (some 27) (v := ?v33) rfl rfl (by kernel_rfl) hHeld (by rfl) (fun _ _ _ x => x) (fun w h => ?y33) ?_; (case y33 => (try dsimp only at h); go_simp; try (with_reducible rfl)); try simp only [Act.put, sa, s0, s1]
          refine tk 15 q9a7_59_5_15 (some 28) (v := ?v34) rfl rfl (by kernel_rfl) hHeld (by rfl) (fun _ _ _ x => x) (fun w h => ?y34) ?_; (case y34 => (try dsimp only at h); go_simp; try (with_reducible rfl)); try simp only [Act.put, sa, s0, s1]
          refine tk 16 q9a7_59_5_16 (some 29) (v := ?v35) rfl rfl (by kernel_rfl) hHeld (by rfl) (fun _ _ _ x => x) (fun w h => ?y35) ?_; (case y35 => (try dsimp only at h); go_simp; try (with_reducible rfl)); try simp only [Act.put, sa, s0, s1]
          refine tk 17 q9a7_59_5_17 (some 30) (v := ?v36) rfl rfl (by kernel_rfl) hHeld (by rfl) (fun _ _ _ x => x) (fun w h => ?y36) ?_; (case y36 => (try dsimp only at h); go_simp; try (with_reducible rfl)); try simp only [Act.put, sa, s0, s1]
          refine wpAnyH_ready (rs := [18]) (by kernel_rfl) (by simp) ?_
          refine AllReadyH.cons (o := q9a7_59_5_18) rfl (fun K hK => ?_) AllReadyH.nil
          go_simp
          refine Calls.mono (hC2 _ hHeld) ?_
          rintro e wy2 ⟨rfl, hw2⟩
          have hy2 := below_same hw2
          clear hw2
          go_wp2_with fail
          refine hK.out _ _ (bthen hHeld hy2) (fun hHeld => ?_)
          clear hK K
          try simp only [Act.put, sa, s0, s1]
          refine tk 19 q9a7_59_5_19 (some 32) (v := ?v37) rfl rfl (by kernel_rfl) hHeld (by rfl) (fun _ _ _ x => x) (fun w h => ?y37) ?_; (case y37 => (try dsimp only at h); go_simp; try (with_reducible rfl)); try simp only [Act.put, sa, s0, s1]
          refine wpAnyH_done (by kernel_rfl) ?_ _
          obtain ⟨wa, hwa⟩ : ∃ wa, wa = wy2 := ⟨_, rfl⟩
          rw [← hwa] at hHeld ⊢
          have hbA := bthen hbk hHeld
          have x0a := (HBD.out.under hHeld).cell 0 _ rfl
          have hza := hHeld.size
          have k0a := (hHeld.cell (p := ⟨b1, o1 + k * 3, none⟩) (Nat.lt_of_lt_of_le hB hbz)).trans k0
          have k1a := (hHeld.cell (p := ⟨b1, o1 + k * 3 + 1, none⟩) (Nat.lt_of_lt_of_le hB hbz)).trans k1
          have k2a := (hHeld.cell (p := ⟨b1, o1 + k * 3 + 2, none⟩) (Nat.lt_of_lt_of_le hB hbz)).trans k2
          have hra := RowR.keep hR HRow.out hHeld hbz
          have HRIa := Hid.mk (hR.below HRI.out (hHeld.mono hbz))
          have HBDa := Hid.mk (HBD.out.under hHeld)
          have HBRa := Hid.mk (HBR.out.under hHeld)
          have HBA := Hid.mk hbA
          have HHa := Hid.mk hHeld
          have hbsa := hbA.size
          have hB1a : b1 < wa.heap.size := by omega
          have hlxa := HBDa.out.lt
          have hlya := HBRa.out.lt
          obtain ⟨fl, hflq⟩ : ∃ fl, fl = (m.fInodes.take k).filter (isNamed m) := ⟨_, rfl⟩
          rw [← hflq] at hra HF hfl
          obtain ⟨css, r1, r2, r3, r4⟩ := hra
          clear hwa p0 p1 p2 q0 hC1 hC2 k0 k1 k2 hHeld HNI hflq HRow
          go_wp2_with (at_builtin; refine wpList_append_own_at _ rfl _ _ 24 rfl (w.heap.size + 2) 56 i0 (.agg #[.int .i64 0, .slice none 0 0, .int .i64 0]) 3 40 Try.underlying24 hi hz0 hz1 hz2 rfl (by decide) _ _ _ rfl (own_below r4 ((Below.refl _ _).alloc (Nat.le_refl _) _)) ⟨wa.heap.size, 0, none⟩ 1 1 [.int .i64 n.fId, .slice ad n.fData.length cd, .int .i64 n.fSure] rfl rfl (bx_news (Bx.new wa _ _)) (by intro u hu; simp at hu; rcases hu with rfl | rfl | rfl <;> rfl) (by unfold maxLen; omega) (by omega) (by simp; omega) ?_; intro v' w3 hown3 hgrow3 hnil hloc)
          have hT := Turn.after ((Below.refl wa.heap.size wa).alloc (Nat.le_refl _) _) (turnOwn hgrow3)
          have hge : ∀ k, k ∈ (Value.ownBlock _).toList → w.heap.size + 2 ≤ k := fun k hk => (r4.lt k (by simpa using hk)).1
          have hBl : Below w.heap.size wa w3 := Turn.below hT (fun k hk => by have := hge k hk; omega) hbsa
          go_roundw
          case rel => exact ⟨k + 1, by omega, by go_num, by rw [HF.out]; exact RowR.push hR r1 r2 r3 (hBl.mono hBB) rfl (hR.below HRIa.out (hBl.mono hBB)) hown3, hbA.trans hBl, HBDa.out.turn hT (fun h => by have := hge _ h; omega), HBRa.out.turn hT (fun h => by have := hge _ h; omega)⟩
          case measure => simp [intOf]; omega
      · have hY2 : isNamed m n = false := Bool.eq_false_iff.2 hY
        have HF := Hid.mk (HNo.out hY2)
        have hb3 := HNI.out
        rw [hY2] at hb3
        have hA2 : named m.fNames n.fId = false := (Bool.or_eq_false_iff.1 hb3.symm).1
        have hS2 : named m.fSafe n.fId = false := (Bool.or_eq_false_iff.1 hb3.symm).2
        rw [hA2] at hC1
        rw [hS2] at hC2
        clear HYes HNo hY hY2 hb3 HNI
        go_wp2_with fail
        refine wp_region_held_drew (S := fun W => Below wr.heap.size wr W) (by kernel_rfl) (Below.drew (Below.refl _ _)) (fun hHeld => ?_)
        refine tk 0 q9a7_59_5_0 (some 13) (v := ?v38) rfl rfl (by kernel_rfl) hHeld (by rfl) (fun _ _ _ x => x) (fun w h => ?y38) ?_; (case y38 => (try dsimp only at h); go_simp; try (with_reducible rfl)); try simp only [Act.put, sa, s0, s1]
        refine tk 1 q9a7_59_5_1 (some 14) (v := ?v39) rfl rfl (by kernel_rfl) hHeld (by rfl) (fun _ _ _ x => x) (fun w h => ?y39) ?_; (case y39 => (try dsimp only at h); go_simp; try (with_reducible rfl)); try simp only [Act.put, sa, s0, s1]
        refine tk 2 q9a7_59_5_2 (some 15) (v := ?v40) rfl rfl (by kernel_rfl) hHeld (by rfl) (fun _ _ _ x => x) (fun w h => ?y40) ?_; (case y40 => (try dsimp only at h); go_simp; try (with_reducible rfl)); try simp only [Act.put, sa, s0, s1]
        refine tk 3 q9a7_59_5_3 (some 16) (v := ?v41) rfl rfl (by kernel_rfl) hHeld (by rfl) (fun _ _ _ x => x) (fun w h => ?y41) ?_; (case y41 => (try dsimp only at h); go_simp; try (with_reducible rfl)); try simp only [Act.put, sa, s0, s1]
        refine tk 4 q9a7_59_5_4 (some 17) (v := ?v42) rfl rfl (by kernel_rfl) hHeld (by rfl) (fun _ _ _ x => x) (fun w h => ?y42) ?_; (case y42 => (try dsimp only at h); go_simp; try (with_reducible rfl)); try simp only [Act.put, sa, s0, s1]
        refine tk 5 q9a7_59_5_5 (some 18) (v := ?v43) rfl rfl (by kernel_rfl) hHeld (by rfl) (fun _ _ _ x => x) (fun w h => ?y43) ?_; (case y43 => (try dsimp only at h); go_simp; try (with_reducible rfl)); try simp only [Act.put, sa, s0, s1]
        refine tk 6 q9a7_59_5_6 (some 19) (v := ?v44) rfl rfl (by kernel_rfl) hHeld (by rfl) (fun _ _ _ x => x) (fun w h => ?y44) ?_; (case y44 => (try dsimp only at h); go_simp; try (with_reducible rfl)); try simp only [Act.put, sa, s0, s1]
        refine tk 7 q9a7_59_5_7 (some 20) (v := ?v45) rfl rfl (by kernel_rfl) hHeld (by rfl) (fun _ _ _ x => x) (fun w h => ?y45) ?_; (case y45 => (try dsimp only at h); go_simp; try (with_reducible rfl)); try simp only [Act.put, sa, s0, s1]
        refine wpAnyH_ready (rs := [8]) (by kernel_rfl) (by simp) ?_
        refine AllReadyH.cons (o := q9a7_59_5_8) rfl (fun K hK => ?_) AllReadyH.nil
        go_simp
        refine Calls.mono (hC1 _ hHeld) ?_
        rintro e wy1 ⟨rfl, hw1⟩
        have hy1 := below_same hw1
        clear hw1
        go_wp2_with fail
        refine hK.out _ _ (bthen hHeld hy1) (fun hHeld => ?_)
        clear hK K
        try simp only [Act.put, sa, s0, s1]
        refine tk 9 q9a7_59_5_9 (some 22) (v := ?v46) rfl rfl (by kernel_rfl) hHeld (by rfl) (fun _ _ _ x => x) (fun w h => ?y46) ?_; (case y46 => (try dsimp only at h); go_simp; try (with_reducible rfl)); try simp only [Act.put, sa, s0, s1]
        refine tk 10 q9a7_59_5_10 (some 23) (v := ?v47) rfl rfl (by kernel_rfl) hHeld (by rfl) (fun _ _ _ x => x) (fun w h => ?y47) ?_; (case y47 => (try dsimp only at h); go_simp; try (with_reducible rfl)); try simp only [Act.put, sa, s0, s1]
        refine tk 11 q9a7_59_5_11 (some 24) (v := ?v48) rfl rfl (by kernel_rfl) hHeld (by rfl) (fun _ _ _ x => x) (fun w h => ?y48) ?_; (case y48 => (try dsimp only at h); go_simp; try (with_reducible rfl)); try simp only [Act.put, sa, s0, s1]
        refine tk 12 q9a7_59_5_12 (some 25) (v := ?v49) rfl rfl (by kernel_rfl) hHeld (by rfl) (fun _ _ _ x => x) (fun w h => ?y49) ?_; (case y49 => (try dsimp only at h); go_simp; try (with_reducible rfl)); try simp only [Act.put, sa, s0, s1]
        refine tk 13 q9a7_59_5_13 (some 26) (v := ?v50) rfl rfl (by kernel_rfl) hHeld (by rfl) (fun _ _ _ x => x) (fun w h => ?y50) ?_; (case y50 => (try dsimp only at h); go_simp; try (with_reducible rfl)); try simp only [Act.put, sa, s0, s1]
        refine tk 14 q9a7_59_5_14 (some 27) (v := ?v51) rfl rfl (by kernel_rfl) hHeld (by rfl) (fun _ _ _ x => x) (fun w h => ?y51) ?_; (case y51 => (try dsimp only at h); go_simp; try (with_reducible rfl)); try simp only [Act.put, sa, s0, s1]
        refine tk 15 q9a7_59_5_15 (some 28) (v := ?v52) rfl rfl (by kernel_rfl) hHeld (by rfl) (fun _ _ _ x => x) (fun w h => ?y52) ?_; (case y52 => (try dsimp only at h); go_simp; try (with_reducible rfl)); try simp only [Act.put, sa, s0, s1]
        refine tk 16 q9a7_59_5_16 (some 29) (v := ?v53) rfl rfl (by kernel_rfl) hHeld (by rfl) (fun _ _ _ x => x) (fun w h => ?y53) ?_; (case y53 => (try dsimp only at h); go_simp; try (with_reducible rfl)); try simp only [Act.put, sa, s0, s1]
        refine tk 17 q9a7_59_5_17 (some 30) (v := ?v54) rfl rfl (by kernel_rfl) hHeld (by rfl) (fun _ _ _ x => x) (fun w h => ?y54) ?_; (case y54 => (try dsimp only at h); go_simp; try (with_reducible rfl)); try simp only [Act.put, sa, s0, s1]
        refine wpAnyH_ready (rs := [18]) (by kernel_rfl) (by simp) ?_
        refine AllReadyH.cons (o := q9a7_59_5_18) rfl (fun K hK => ?_) AllReadyH.nil
        go_simp
        refine Calls.mono (hC2 _ hHeld) ?_
        rintro e wy2 ⟨rfl, hw2⟩
        have hy2 := below_same hw2
        clear hw2
        go_wp2_with fail
        refine hK.out _ _ (bthen hHeld hy2) (fun hHeld => ?_)
        clear hK K
        try simp only [Act.put, sa, s0, s1]
        refine tk 19 q9a7_59_5_19 (some 32) (v := ?v55) rfl rfl (by kernel_rfl) hHeld (by rfl) (fun _ _ _ x => x) (fun w h => ?y55) ?_; (case y55 => (try dsimp only at h); go_simp; try (with_reducible rfl)); try simp only [Act.put, sa, s0, s1]
        refine wpAnyH_done (by kernel_rfl) ?_ _
        obtain ⟨wa, hwa⟩ : ∃ wa, wa = wy2 := ⟨_, rfl⟩
        rw [← hwa] at hHeld ⊢
        have hbA := bthen hbk hHeld
        clear hwa p0 p1 p2 q0 hC1 hC2 k0 k1 k2
        go_wp2_with fail
        go_roundw
        case rel => exact ⟨k + 1, by omega, by go_num, by rw [HF.out]; exact RowR.keep hR HRow.out hHeld hbz, hbA, HBD.out.under hHeld, HBR.out.under hHeld⟩
        case measure => simp [intOf]; omega
    · have hkn : k = m.fInodes.length := by omega
      subst hkn
      have hrow := HRow.out
      rw [List.take_length] at hrow
      obtain ⟨ar, cr, hv, hlf⟩ := hrow.leaf hR (Nat.le_trans hBB hbk.size)
      subst hv
      have x1 := HBD.out.cell 1 _ rfl
      have x2 := HBD.out.cell 2 _ rfl
      have x3 := HBD.out.cell 3 _ rfl
      have f0 := HBD.out.free 0
      have ze0 := HBR.out.cell 0 _ rfl
      have zf0 := HBR.out.free 0
      have ze1 := HBR.out.cell 1 _ rfl
      have zf1 := HBR.out.free 1
      have ze2 := HBR.out.cell 2 _ rfl
      have zf2 := HBR.out.free 2
      have ze3 := HBR.out.cell 3 _ rfl
      have zf3 := HBR.out.free 3
      have HRW : Hid (RowR 3 56 R B wr (w.heap.size + 2) (.slice ar (keepI m).length cr) (keepI m)) := hrow
      have hkl : ((m.fInodes.filter (isNamed m)).length : Int) = ((keepI m).length : Int) := rfl
      have HKL : Hid ((m.fInodes.filter (isNamed m)).length = (keepI m).length) := rfl
      clear hrow hlf hkl
      go_wp2_with fail
      rw [HKL.out]
      refine bodyPost_ret (v := .agg #[.slice ar (keepI m).length cr, .slice a1 m.fNames.length c1, .slice a2 m.fSafe.length c2, .int .i64 m.fNext]) (by rw [← HKL.out]; simp [results, Try.results59, go_sem, *]) rfl ⟨ar, cr, rfl, ?_, ?_⟩
      · refine RowR.turn hR (F := [w.heap.size, w.heap.size + 1]) HRW.out ?_ (fun k hk => by simp at hk; omega) (Nat.le_trans hBB hbk.size) (by omega)
        repeat (first | with_reducible exact Turn.refl _ _ | with_reducible refine Turn.setCell ?_ (by simp) _)
      · refine hbk.trans (Turn.below (F := [w.heap.size, w.heap.size + 1]) ?_ (fun k hk => by simp at hk; omega) hbk.size)
        repeat (first | with_reducible exact Turn.refl _ _ | with_reducible refine Turn.setCell ?_ (by simp) _)

end Go.Proofs.Ytmbobjhplkpfoaa
