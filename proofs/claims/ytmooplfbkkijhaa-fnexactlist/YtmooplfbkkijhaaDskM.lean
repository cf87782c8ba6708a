/-
  The specification's List: the names, of a disk that is right.
-/
import Derived.Test.YtmooplfbkkijhaaDskO
import Derived.Test.YtmooplfbkkijhaaDskL
namespace Go.Proofs.Ytmooplfbkkijhaa
open Go.RowKit
set_option linter.unusedVariables false
set_option linter.unusedSimpArgs false
set_option maxRecDepth 10000

set_option maxHeartbeats 1000000 in
theorem specList_c (cs : List Value) (m : MDisk) (w : World) (hr : rDisk w.heap.size w cs m) (hw : wDisk m ≤ 1048576) :
    Calls Try.prog 52 #[.agg cs.toArray] w fun e w' => ∃ v : Value, e = .returned v ∧ rdT w'.heap.size w' v (listP m) ∧ Below w.heap.size w w' := by
  obtain ⟨i0, hi, hz0, hz1, hz2⟩ := info_parts Try.infoOfString
  have hq := hr
  obtain ⟨a0, c0, a1, c1, a2, c2, rfl, hI, hNm, hSf, hnx, _⟩ := hq
  have hw2 : m.fInodes.length + sumW wInode m.fInodes + (m.fNames.length + sumW wEntry m.fNames) + (m.fSafe.length + sumW wEntry m.fSafe) ≤ 1048576 := hw
  have HW := Hid.mk hw
  have HR := Hid.mk hr
  have HNL := Hid.mk hNm
  clear hr hI hNm hSf hw
  have hCd := fun W (hb : Below w.heap.size w W) => specDiskOk_c _ m W (rDisk_good.mono (rDisk_good.below HR.out hb) hb.size) HW.out
  by_cases hok : diskOk m = true
  · have HL : Hid (listP m = m.fNames.map (·.fName)) := by show listP m = _; unfold listP; rw [if_pos hok]
    simp only [hok] at hCd
    clear hok
    go_enter Try.func52, Try.ntmps52
    go_wp2_with fail
    go_loopw [3, 4] (fun v i wr => ∃ k : Nat, k ≤ m.fNames.length ∧ i = .int .i64 k ∧ wr.ownsRow w.heap.size 9 1 v k (((m.fNames.take k).map (·.fName)).map Value.string) ∧ Below w.heap.size w wr ∧ Bx wr w.heap.size [.slice a0 m.fInodes.length c0, .slice a1 m.fNames.length c1, .slice a2 m.fSafe.length c2, .int .i64 m.fNext] ∧ ∀ b, v.ownBlock = some b → w.heap.size < b) (fun _ i _ => m.fNames.length - (intOf i).toNat)
    case atStart => exact ⟨0, Nat.zero_le _, rfl, by simpa using own_empty (w.alloc _) 9 w.heap.size 1 (by simp), ((Below.refl _ _).alloc (Nat.le_refl _) _).alloc (by simp) _, (Bx.new _ _ _).alloc _, fun b hb => by simp [Value.ownBlock] at hb; omega⟩
    case round =>
      obtain ⟨k, hk, rfl, hown, hbk, hbx, hvb⟩ := hrel
      have xb0 := hbx.2 0 _ rfl
      have xb1 := hbx.2 1 _ rfl
      have xb2 := hbx.2 2 _ rfl
      have xb3 := hbx.2 3 _ rfl
      by_cases hlt : k < m.fNames.length
      · go_wp2_with fail
        refine Calls.mono (hCd _ hbk) ?_
        rintro e w1 ⟨rfl, hx1⟩
        have hb1 := bthen hbk hx1
        have hbx1 := hbx.under hx1
        have y1 := hbx1.2 1 _ rfl
        have hown1 := own_below hown hx1
        have hbs := hb1.size
        obtain ⟨b1, o1, rfl, hB, cs, hcl, hcell, rfl, hsz, hwf, _⟩ := (HNL.out.2.2.below rEntry_good hb1) k hlt
        have k0 := hcell 0 _ rfl
        rw [Nat.add_zero] at k0
        have HST := Hid.mk (names_step hlt)
        clear hcell hcl hbk hbx hown xb0 xb1 xb2 xb3
        generalize m.fNames[k].fName = nm at *
        go_wp2_with (at_builtin; refine wpList_append_own_at _ rfl _ _ 32 rfl w.heap.size 9 i0 (.string ByteArray.empty) 1 16 Try.underlying32 hi hz0 hz1 hz2 rfl (by decide) _ _ _ rfl (own_below hown1 ((Below.refl _ _).alloc (Nat.le_refl _) _)) ⟨w1.heap.size, 0, none⟩ 1 1 [.string nm] rfl rfl (bx_news (Bx.new _ _ _)) (by intro u hu; simp at hu; subst hu; rfl) (by unfold maxLen; omega) (by omega) (by simp; omega) ?_; intro v' w3 hown3 hgrow3 hnil hloc)
        have hT := Turn.after ((Below.refl w1.heap.size w1).alloc (Nat.le_refl _) _) (turnOwn hgrow3)
        have hge : ∀ k, k ∈ (Value.ownBlock _).toList → w.heap.size < k := fun k hk => hvb k (by simpa using hk)
        have hlz := hbx1.1
        go_roundw
        case rel =>
          refine ⟨k + 1, by omega, by go_num, own_congr hown3 rfl HST.out, Turn.under hb1 hT (fun k hk => Nat.le_of_lt (hge k hk)), hbx1.turn hT (fun hm => Nat.lt_irrefl _ (hge _ hm)), fun b hb => ?_⟩
          rcases hloc with h | h
          · rw [h] at hb; exact hvb b hb
          · rw [h] at hb; simp at hb; omega
        case measure => simp [intOf]; omega
      · have hkn : k = m.fNames.length := by omega
        subst hkn
        rw [List.take_length] at hown
        have hrd : rdT wr.heap.size wr _ (m.fNames.map (·.fName)) := rdT_own (F := _) ⟨own_base (own_congr hown (by simp) rfl) (Nat.zero_le _), rfl⟩
        go_wp2_with fail
        go_ret
        exact ⟨_, rfl, by rw [HL.out]; exact hrd, hbk⟩
  · have hok2 : diskOk m = false := Bool.eq_false_iff.2 hok
    have HL : Hid (listP m = []) := by show listP m = _; unfold listP; rw [if_neg hok]
    simp only [hok2] at hCd
    clear hok hok2
    go_enter Try.func52, Try.ntmps52
    go_wp2_with fail
    refine wp_loop_rounds 1 ?_
    rw [rounds_succ]
    have hbA : Below w.heap.size w ((w.alloc (.cells #[.slice a0 m.fInodes.length c0, .slice a1 m.fNames.length c1, .slice a2 m.fSafe.length c2, .int .i64 m.fNext] 27)).alloc (.cells #[] 9)) := ((Below.refl _ _).alloc (Nat.le_refl _) _).alloc (by simp) _
    have hrd : ∀ W : World, rdT W.heap.size W (.slice (some ⟨w.heap.size + 1, 0, none⟩) 0 0) [] := fun W => ⟨_, _, rfl, Nat.le_refl _, by omega, fun j hj => by simp at hj⟩
    by_cases h0 : 0 < m.fNames.length
    · have h0' : (0 : Int) < (m.fNames.length : Int) := by omega
      go_wp2_with fail
      refine Calls.mono (hCd _ hbA) ?_
      rintro e w1 ⟨rfl, hx1⟩
      go_wp2_with fail
      go_ret
      exact ⟨_, rfl, by rw [HL.out]; exact hrd _, bthen hbA hx1⟩
    · have h0' : m.fNames.length = 0 := by omega
      rw [h0'] at *
      go_wp2_with fail
      go_ret
      exact ⟨_, rfl, by rw [HL.out]; exact hrd _, ((Below.refl _ _).alloc (Nat.le_refl _) _).alloc (by simp) _⟩

end Go.Proofs.Ytmooplfbkkijhaa
