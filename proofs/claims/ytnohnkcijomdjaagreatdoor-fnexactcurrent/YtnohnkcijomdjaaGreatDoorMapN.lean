/-
  The program's inodes that a list of names names.
-/
import Derived.Test.YtnohnkcijomdjaaGreatDoorMapK
import Derived.Test.YtnohnkcijomdjaaGreatDoorDskV
import Derived.Test.YtnohnkcijomdjaaGreatDoorDatR
import Derived.Test.YtnohnkcijomdjaaGreatDoorDatI
import Derived.OwnWalk
namespace Go.Proofs.YtnohnkcijomdjaaGreatDoor
open Go.RowKit Go.Maps
set_option linter.unusedVariables false
set_option linter.unusedSimpArgs false
set_option maxRecDepth 10000

theorem filter_snoc_yes {α : Type} {p : α → Bool} {l : List α} {k : Nat} (h : k < l.length) (hp : p l[k] = true) : (l.take (k + 1)).filter p = (l.take k).filter p ++ [l[k]] := by
  rw [List.take_succ_eq_append_getElem h, List.filter_append]
  simp [hp]
theorem filter_snoc_no {α : Type} {p : α → Bool} {l : List α} {k : Nat} (h : k < l.length) (hp : p l[k] = false) : (l.take (k + 1)).filter p = (l.take k).filter p := by
  rw [List.take_succ_eq_append_getElem h, List.filter_append]
  simp [hp]

theorem idsTo_all {l : List MEntry} : idsTo l l.length = l.map (·.fId) := by unfold idsTo; rw [List.take_length]
theorem idsTo_len {l : List MEntry} {k : Nat} : (idsTo l k).length ≤ l.length := by unfold idsTo; simp; omega

set_option maxHeartbeats 4000000 in
theorem namedInodes_rowB (a0 a1 a2 : Option Addr) (c0 c1 c2 : Nat) (m : MDisk) (w : World) (B : Nat) (hBB : B ≤ w.heap.size) (hI : LeafL 3 rInode B w a0 c0 m.fInodes) (hNm : LeafL 2 rEntry w.heap.size w a1 c1 m.fNames) (hSf : LeafL 2 rEntry w.heap.size w a2 c2 m.fSafe) (hw : wDisk m ≤ 16777216) :
    Calls Tryz.prog 119 #[.agg #[.slice a0 m.fInodes.length c0, .slice a1 m.fNames.length c1, .slice a2 m.fSafe.length c2, .int .i64 m.fNext]] w fun e w' => ∃ (a : Option Addr) (c : Nat), e = .returned (.slice a (keepI m).length c) ∧ RowR 3 92 rInode B w' w.heap.size (.slice a (keepI m).length c) (keepI m) ∧ LeafL 3 rInode w'.heap.size w' a c (keepI m) ∧ Below w.heap.size w w' := by
  obtain ⟨i0, hi, hz0, hz1, hz2⟩ := info_parts Tryz.infoOfInode
  have hw2 : m.fInodes.length + sumW wInode m.fInodes + (m.fNames.length + sumW wEntry m.fNames) + (m.fSafe.length + sumW wEntry m.fSafe) ≤ 16777216 := hw
  have HI := Hid.mk hI.2.2
  have HN := Hid.mk hNm.2.2
  have HS := Hid.mk hSf.2.2
  clear hI hNm hSf hw
  have hmm := @run_makeMap Tryz.prog
  go_enter Tryz.func119, Tryz.ntmps119
  go_wp2_with fail
  go_loopw [15] (fun i wr => ∃ (k : Nat) (D : DataW Unit), k ≤ m.fNames.length ∧ i = .int .i64 k ∧ wr.ownsMap Tryz.prog 3 (plainElem Tryz.prog 3) (w.heap.size + 1) (k) D ∧ Used D (idsTo m.fNames k) ∧ Below w.heap.size w wr ∧ Bx wr w.heap.size [.slice a0 m.fInodes.length c0, .slice a1 m.fNames.length c1, .slice a2 m.fSafe.length c2, .int .i64 m.fNext]) (fun i _ => m.fNames.length - (intOf i).toNat)
  case atStart => exact ⟨0, .map [], Nat.zero_le _, rfl, by simpa using World.ownsMap_made (H := Unit) (w.alloc _) _ _ _, Used.start, ((Below.refl _ _).alloc (Nat.le_refl _) _).alloc (by simp) _, (Bx.new _ _ _).alloc _⟩
  case round =>
    obtain ⟨k, D, hk, rfl, hown, hU, hbk, hbx⟩ := hrel
    have HU := Hid.mk hU
    clear hU
    have xb0 := hbx.2 0 _ rfl
    have xb1 := hbx.2 1 _ rfl
    have xb2 := hbx.2 2 _ rfl
    have xb3 := hbx.2 3 _ rfl
    by_cases hlt : k < m.fNames.length
    · obtain ⟨b1, o1, rfl, hB, cs, hcl, hcell, rfl, hsz, hwf, _⟩ := (HN.out.below rEntry_good hbk) k hlt
      have k0 := hcell 0 _ rfl
      have k1 := hcell 1 _ rfl
      rw [Nat.add_zero] at k0
      clear hcell hcl
      have HIDS : Hid (idsTo m.fNames (k + 1) = idsTo m.fNames k ++ [m.fNames[k].fId]) := by show _ = _; rw [idsTo_succ hlt]
      have hkey := keyInt hwf
      generalize m.fNames[k].fName = nm at *
      generalize m.fNames[k].fId = id at *
      have hmz := ownsMap_lt hown
      have hown0 := ownsMap_below hown ((Below.refl _ _).alloc (Nat.le_refl _) (.cells #[.string nm, .int .i64 id] 90))
      obtain ⟨c, hrun, hat, hwc⟩ := hown0.lookup_int lawInt Tryz.underlying192 Tryz.underlying3 (zeroInt _) hkey
      have hc := HU.out.look hat
      have hc3 : 0 ≤ c ∧ c ≤ 16777216 := by
        have h1 := idsTo_len (l := m.fNames) (k := k)
        have h2 := hc.2.1
        omega
      obtain ⟨hc4, hc5⟩ := hc3
      have HU' := Hid.mk (HU.out.put hat)
      clear hc
      go_wp2_with (at_mapUpdate; refine wpList_mapUpdate_own _ rfl _ _ _ 192 rfl 3 3 lawInt Tryz.underlying192 _ (w.heap.size + 1) (k) _ rfl hown0 (by unfold maxLen; omega) _ _ _ rfl rfl hkey _ [] (plainElem_int Tryz.underlying3 (WalkArith.wf_i64 (by omega))) ?_; intro w3 hown3 hgrow3)
      have hT : Turn [w.heap.size + 1] wr w3 := Turn.after ((Below.refl _ _).alloc (Nat.le_refl _) _) (Turn.ofGrown hgrow3 (fun k hk => by cases hk; simp))
      go_roundw
      case rel => exact ⟨k + 1, _, by omega, by go_num, hown3, by rw [HIDS.out]; exact HU'.out, Turn.under hbk hT (fun k hk => by simp at hk; omega), hbx.turn hT (by simp)⟩
      case measure => simp [intOf]; omega
    · have hkn : k = m.fNames.length := by omega
      subst hkn
      go_wp2_with fail
      go_loopw [28] (fun i wr => ∃ (k : Nat) (D : DataW Unit), k ≤ m.fSafe.length ∧ i = .int .i64 k ∧ wr.ownsMap Tryz.prog 3 (plainElem Tryz.prog 3) (w.heap.size + 1) (m.fNames.length + k) D ∧ Used D (idsTo m.fNames m.fNames.length ++ idsTo m.fSafe k) ∧ Below w.heap.size w wr ∧ Bx wr w.heap.size [.slice a0 m.fInodes.length c0, .slice a1 m.fNames.length c1, .slice a2 m.fSafe.length c2, .int .i64 m.fNext]) (fun i _ => m.fSafe.length - (intOf i).toNat)
      case atStart => exact ⟨0, D, Nat.zero_le _, rfl, hown, by have h := HU.out; simpa [idsTo] using h, hbk, hbx⟩
      case round =>
        obtain ⟨k, D, hk, rfl, hown, hU, hbk, hbx⟩ := hrel
        have HU := Hid.mk hU
        clear hU
        have xb0 := hbx.2 0 _ rfl
        have xb1 := hbx.2 1 _ rfl
        have xb2 := hbx.2 2 _ rfl
        have xb3 := hbx.2 3 _ rfl
        by_cases hlt : k < m.fSafe.length
        · obtain ⟨b1, o1, rfl, hB, cs, hcl, hcell, rfl, hsz, hwf, _⟩ := (HS.out.below rEntry_good hbk) k hlt
          have k0 := hcell 0 _ rfl
          have k1 := hcell 1 _ rfl
          rw [Nat.add_zero] at k0
          clear hcell hcl
          have HIDS : Hid (idsTo m.fNames m.fNames.length ++ idsTo m.fSafe (k + 1) = idsTo m.fNames m.fNames.length ++ idsTo m.fSafe k ++ [m.fSafe[k].fId]) := by show _ = _; rw [idsTo_succ hlt]; simp
          have hkey := keyInt hwf
          generalize m.fSafe[k].fName = nm at *
          generalize m.fSafe[k].fId = id at *
          have hmz := ownsMap_lt hown
          have hown0 := ownsMap_below hown ((Below.refl _ _).alloc (Nat.le_refl _) (.cells #[.string nm, .int .i64 id] 90))
          obtain ⟨c, hrun, hat, hwc⟩ := hown0.lookup_int lawInt Tryz.underlying192 Tryz.underlying3 (zeroInt _) hkey
          have hc := HU.out.look hat
          have hc3 : 0 ≤ c ∧ c ≤ 16777216 := by
            have h1 := idsTo_len (l := m.fSafe) (k := k)
            have h2 := hc.2.1
            have h3 := idsTo_len (l := m.fNames) (k := m.fNames.length)
            simp only [List.length_append, Int.natCast_add] at h2
            omega
          obtain ⟨hc4, hc5⟩ := hc3
          have HU' := Hid.mk (HU.out.put hat)
          clear hc
          go_wp2_with (at_mapUpdate; refine wpList_mapUpdate_own _ rfl _ _ _ 192 rfl 3 3 lawInt Tryz.underlying192 _ (w.heap.size + 1) (m.fNames.length + k) _ rfl hown0 (by unfold maxLen; omega) _ _ _ rfl rfl hkey _ [] (plainElem_int Tryz.underlying3 (WalkArith.wf_i64 (by omega))) ?_; intro w3 hown3 hgrow3)
          have hT : Turn [w.heap.size + 1] wr w3 := Turn.after ((Below.refl _ _).alloc (Nat.le_refl _) _) (Turn.ofGrown hgrow3 (fun k hk => by cases hk; simp))
          go_roundw
          case rel => exact ⟨k + 1, _, by omega, by go_num, hown3, by rw [HIDS.out]; exact HU'.out, Turn.under hbk hT (fun k hk => by simp at hk; omega), hbx.turn hT (by simp)⟩
          case measure => simp [intOf]; omega
        · have hkn : k = m.fSafe.length := by omega
          subst hkn
          go_wp2_with fail
          go_loopw [8, 41] (fun v i wr => ∃ k : Nat, k ≤ m.fInodes.length ∧ i = .int .i64 k ∧ wr.ownsMap Tryz.prog 3 (plainElem Tryz.prog 3) (w.heap.size + 1) (m.fNames.length + m.fSafe.length) D ∧ RowR 3 92 rInode B wr (w.heap.size + 2) v ((m.fInodes.take k).filter (isNamed m)) ∧ Below w.heap.size w wr) (fun _ i _ => m.fInodes.length - (intOf i).toNat)
          case atStart => exact ⟨0, Nat.zero_le _, rfl, hown, by rw [List.take_zero]; exact RowR.start, hbk⟩
          case round =>
            obtain ⟨k, hk, rfl, hown', hrow, hbk'⟩ := hrel
            have HRow := Hid.mk hrow
            clear hrow hown hbk hbx xb0 xb1 xb2 xb3
            by_cases hlt : k < m.fInodes.length
            · obtain ⟨b1, o1, rfl, hB, cs, hcl, hcell, hrI⟩ := (HI.out.below rInode_good (hbk'.mono hBB)) k hlt
              have HYes := Hid.mk (fun h => filter_snoc_yes (p := isNamed m) hlt h)
              have HNo := Hid.mk (fun h => filter_snoc_no (p := isNamed m) hlt h)
              have HNI : Hid (isNamed m m.fInodes[k] = true ↔ m.fInodes[k].fId ∈ m.fNames.map (·.fId) ++ m.fSafe.map (·.fId)) := isNamed_iff
              have hfl : ((m.fInodes.take k).filter (isNamed m)).length ≤ 16777216 := Nat.le_trans (List.length_filter_le _ _) (by simp; omega)
              generalize m.fInodes[k] = n at *
              have hrI2 := hrI
              obtain ⟨ad, cd, rfl, hid, hda, hsu, _⟩ := hrI
              have k0 := hcell 0 _ rfl
              have k1 := hcell 1 _ rfl
              have k2 := hcell 2 _ rfl
              rw [Nat.add_zero] at k0
              have hkey := keyInt hid
              have hmz := ownsMap_lt hown'
              have hown0 := ownsMap_below hown' ((Below.refl _ _).alloc (Nat.le_refl _) (.cells #[.int .i64 n.fId, .slice ad n.fData.length cd, .int .i64 n.fSure] 92))
              obtain ⟨c, hrun, hat, hwc⟩ := hown0.lookup_int lawInt Tryz.underlying192 Tryz.underlying3 (zeroInt _) hkey
              have hc := HU.out.look hat
              rw [idsTo_all, idsTo_all] at hc
              have HC := Hid.mk hc.2.2
              clear hc hcell hcl
              by_cases hcp : 0 < c
              · have HF := Hid.mk (HYes.out (HNI.out.2 (HC.out.1 hcp)))
                clear HYes HNo HNI HC
                generalize (m.fInodes.take k).filter (isNamed m) = fl at *
                obtain ⟨css, r1, r2, r3, r4⟩ := HRow.out
                have hbs := hbk'.size
                go_wp2_with (at_builtin; refine wpList_append_own_at _ rfl _ _ 36 rfl (w.heap.size + 2) 92 i0 (.agg #[.int .i64 0, .slice none 0 0, .int .i64 0]) 3 40 Tryz.underlying36 hi hz0 hz1 hz2 rfl (by decide) _ _ _ rfl (own_below r4 (((Below.refl _ _).alloc (Nat.le_refl _) _).alloc (by simp) _)) ⟨wr.heap.size + 1, 0, none⟩ 1 1 [.int .i64 n.fId, .slice ad n.fData.length cd, .int .i64 n.fSure] rfl rfl (bx_news (by simpa using Bx.new (wr.alloc _) _ _)) (by intro u hu; simp at hu; rcases hu with rfl | rfl | rfl <;> rfl) (by unfold maxLen; omega) (by omega) (by simp; omega) ?_; intro v' w3 hown3 hgrow3 hnil hloc)
                have hT := Turn.after (((Below.refl wr.heap.size wr).alloc (Nat.le_refl _) _).alloc (by simp) _) (turnOwn hgrow3)
                have hge : ∀ k, k ∈ (Value.ownBlock _).toList → w.heap.size + 2 ≤ k := fun k hk => (r4.lt k (by simpa using hk)).1
                have hBl : Below w.heap.size wr w3 := Turn.below hT (fun k hk => by have := hge k hk; omega) hbs
                go_roundw
                case rel => exact ⟨k + 1, by omega, by go_num, ownsMap_block hown' (hT.block _ hmz (fun hm => by have := hge _ hm; omega)), by rw [HF.out]; exact RowR.push rInode_good r1 r2 r3 (hBl.mono hBB) rfl (rInode_good.below hrI2 (hBl.mono hBB)) hown3, hbk'.trans hBl⟩
                case measure => simp [intOf]; omega
              · have HF := Hid.mk (HNo.out (Bool.eq_false_iff.2 (fun h => hcp (HC.out.2 (HNI.out.1 h)))))
                clear HYes HNo HNI HC
                have hbs := hbk'.size
                have hbq := (Below.refl wr.heap.size wr).alloc (Nat.le_refl _) (.cells #[.int .i64 n.fId, .slice ad n.fData.length cd, .int .i64 n.fSure] 92)
                go_wp2_with fail
                go_roundw
                case rel => exact ⟨k + 1, by omega, by go_num, hown0, by rw [HF.out]; exact RowR.keep rInode_good HRow.out hbq (Nat.le_trans hBB hbs), bthen hbk' hbq⟩
                case measure => simp [intOf]; omega
            · have hkn : k = m.fInodes.length := by omega
              subst hkn
              have hrow := HRow.out
              rw [List.take_length] at hrow
              obtain ⟨ar, cr, hv, hlf⟩ := hrow.leaf rInode_good (Nat.le_trans hBB hbk'.size)
              subst hv
              go_wp2_with fail
              go_ret
              exact ⟨ar, cr, rfl, RowR.base hrow (by omega), hlf, hbk'⟩

theorem namedInodes_row (cs : List Value) (m : MDisk) (w : World) (hr : rDisk w.heap.size w cs m) (hw : wDisk m ≤ 16777216) :
    Calls Tryz.prog 119 #[.agg cs.toArray] w fun e w' => ∃ (a : Option Addr) (c : Nat), e = .returned (.slice a (keepI m).length c) ∧ RowR 3 92 rInode w.heap.size w' w.heap.size (.slice a (keepI m).length c) (keepI m) ∧ LeafL 3 rInode w'.heap.size w' a c (keepI m) ∧ Below w.heap.size w w' := by
  obtain ⟨a0, c0, a1, c1, a2, c2, rfl, hI, hNm, hSf, hnx, _⟩ := hr
  exact namedInodes_rowB a0 a1 a2 c0 c1 c2 m w w.heap.size (Nat.le_refl _) hI hNm hSf hw

theorem namedInodes_any (cs : List Value) (m : MDisk) (w : World) (hr : rDisk w.heap.size w cs m) (hw : wDisk m ≤ 16777216) :
    Calls Tryz.prog 119 #[.agg cs.toArray] w fun e w' => ∃ (a : Option Addr) (c : Nat), e = .returned (.slice a (keepI m).length c) ∧ LeafL 3 rInode w'.heap.size w' a c (keepI m) ∧ Below w.heap.size w w' :=
  (namedInodes_row cs m w hr hw).mono fun e w' ⟨a, c, h1, _, h2, h3⟩ => ⟨a, c, h1, h2, h3⟩

end Go.Proofs.YtnohnkcijomdjaaGreatDoor
