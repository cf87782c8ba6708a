/-
  The specification's names without one.
-/
import Derived.Test.YtcbhmbgmeodjdaaDatY
import Derived.Test.YtcbhmbgmeodjdaaDskT
import Derived.Test.YtcbhmbgmeodjdaaMapN
import Derived.Test.YtcbhmbgmeodjdaaCopyL
namespace Go.Proofs.Ytcbhmbgmeodjdaa
open Go.RowKit Go.Maps
set_option linter.unusedVariables false
set_option linter.unusedSimpArgs false
set_option maxRecDepth 10000

set_option maxHeartbeats 2000000 in
theorem l2Without_any (a : Option Addr) (n c : Nat) (l : List MEntry) (s : ByteArray) (w : World) (hx : l.length = n) (hn : n ≤ 1048576) (hl : LeafL 2 rEntry w.heap.size w a c l) :
    Calls Try.prog 64 #[.slice a n c, .string s] w fun e w' => ∃ (a' : Option Addr) (c' : Nat) (F : List Nat), e = .returned (.slice a' (without l s).length c') ∧ ownS 2 91 oEntry w' (.slice a' (without l s).length c') (without l s) F ∧ (∀ b, b ∈ F → w.heap.size ≤ b) ∧ Below w.heap.size w w' := by
  obtain ⟨iE, hiE, hzE0, hzE1, hzE2⟩ := info_parts Try.infoOfEntry
  have HX := Hid.mk hx
  have HRS := Hid.mk hl.2.2
  clear hx hl
  go_enter Try.func64, Try.ntmps64
  go_wp2_with fail
  go_loopw [5, 6] (fun v i wr => ∃ k : Nat, k ≤ n ∧ i = .int .i64 k ∧ RowR 2 91 rEntry w.heap.size wr w.heap.size v (without (l.take k) s) ∧ Below w.heap.size w wr) (fun _ i _ => n - (intOf i).toNat)
  case atStart =>
    refine ⟨0, Nat.zero_le _, rfl, ⟨[], rfl, (fun _ h => by cases h), (fun _ h => by simp [without] at h), ?_⟩, Below.alloc (Below.refl _ _) (Nat.le_refl _) _⟩
    have h := own_lit0 w w.heap.size 91 2 (Nat.le_refl _)
    simpa [without] using h
  case round =>
    obtain ⟨k, hk, rfl, hrow, hbk⟩ := hrel
    have hbz := hbk.size
    by_cases hlt : k < n
    · have hkl : k < l.length := by rw [HX.out]; exact hlt
      obtain ⟨b1, o1, rfl, hB, cs, hcl, hcell, hrE⟩ := (HRS.out.below rEntry_good hbk) k hkl
      have HRE := Hid.mk hrE
      obtain ⟨rfl, hsz, hwf, _⟩ := hrE
      have k0 := hcell 0 _ rfl
      have k1 := hcell 1 _ rfl
      rw [Nat.add_zero] at k0
      have hfl : (without (l.take k) s).length ≤ 1048576 := Nat.le_trans (List.length_filter_le _ _) (by simp; omega)
      have HYes := Hid.mk (fun h => filter_snoc_yes (p := fun e : MEntry => decide (e.fName ≠ s)) hkl h)
      have HNo := Hid.mk (fun h => filter_snoc_no (p := fun e : MEntry => decide (e.fName ≠ s)) hkl h)
      have HB1 : Hid (b1 < wr.heap.size) := by show _ < _; omega
      clear hcell hcl
      obtain ⟨x, hx⟩ : ∃ x, l[k] = x := ⟨_, rfl⟩
      rw [hx] at HYes HNo HRE k0 k1
      clear hx hsz hwf
      obtain ⟨fl, hflq⟩ : ∃ fl, fl = without (l.take k) s := ⟨_, rfl⟩
      have HFQ : Hid (fl = (l.take k).filter fun e : MEntry => decide (e.fName ≠ s)) := hflq
      rw [← hflq] at hrow hfl
      clear hflq
      by_cases he : x.fName = s
      · have HF : Hid (without (l.take (k + 1)) s = fl) := by show _ = _; rw [HFQ.out]; exact HNo.out (by simp [he])
        have heb := str_same he
        have HRW := Hid.mk hrow
        clear hrow HYes HNo he
        go_wp2_with fail
        go_roundw
        case rel => exact ⟨k + 1, by omega, by go_num, by rw [HF.out]; exact HRW.out, hbk⟩
        case measure => simp [intOf]; omega
      · have HF : Hid (without (l.take (k + 1)) s = fl ++ [x]) := by show _ = _; rw [HFQ.out]; exact HYes.out (by simp [he])
        have heb := str_ne he
        obtain ⟨css, r1, r2, r3, r4⟩ := hrow
        have hB1 := HB1.out
        clear HYes HNo he
        go_wp2_with (at_builtin; refine wpList_append_own_at _ rfl _ _ 25 rfl w.heap.size 91 iE (.agg #[.string ⟨#[]⟩, .int .i64 0]) 2 24 Try.underlying25 hiE hzE0 hzE1 hzE2 rfl (by decide) _ _ _ rfl (own_below r4 ((Below.refl _ _).alloc (Nat.le_refl _) _)) ⟨wr.heap.size, 0, none⟩ 1 1 [.string x.fName, .int .i64 x.fId] rfl rfl (bx_news (Bx.new wr _ _)) (by intro u hu; simp at hu; rcases hu with rfl | rfl <;> rfl) (by unfold maxLen; omega) (by omega) (by simp; omega) ?_; intro v' w3 hown3 hgrow3 hnil hloc)
        have hT := Turn.after ((Below.refl wr.heap.size wr).alloc (Nat.le_refl _) _) (turnOwn hgrow3)
        have hge : ∀ k, k ∈ (Value.ownBlock _).toList → w.heap.size ≤ k := fun k hk => (r4.lt k (by simpa using hk)).1
        have hBl : Below w.heap.size wr w3 := Turn.below hT (fun k hk => hge k hk) hbz
        go_roundw
        case rel => exact ⟨k + 1, by omega, by go_num, by rw [HF.out]; exact RowR.push rEntry_good r1 r2 r3 hBl rfl (rEntry_good.below HRE.out hBl) hown3, hbk.trans hBl⟩
        case measure => simp [intOf]; omega
    · have hkn : k = n := by omega
      have HT : Hid (l.take k = l) := by show _ = _; rw [hkn, ← HX.out]; exact List.take_length
      rw [HT.out] at hrow
      obtain ⟨css, r1, r2, r3, r4⟩ := hrow
      obtain ⟨a', c', rfl⟩ := own_slice r4
      have ho := ownS_row rfl r1 r2 r3 r4
      have HO := Hid.mk ho
      have HGE : Hid (∀ b, b ∈ (Value.ownBlock (.slice a' (without l s).length c')).toList → w.heap.size ≤ b) := fun b hb => (r4.lt b (by simpa using hb)).1
      clear ho r1 r2 r3 r4
      go_wp2_with fail
      go_ret
      exact ⟨a', c', _, rfl, HO.out, HGE.out, hbk⟩

end Go.Proofs.Ytcbhmbgmeodjdaa
