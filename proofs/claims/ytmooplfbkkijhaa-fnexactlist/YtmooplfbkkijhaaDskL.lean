/-
  The program's List: the names, of a disk that is right.
-/
import Derived.Test.YtmooplfbkkijhaaDskQ
import Derived.Test.YtmooplfbkkijhaaDatB
namespace Go.Proofs.Ytmooplfbkkijhaa
open Go.RowKit
set_option linter.unusedVariables false
set_option linter.unusedSimpArgs false
set_option maxRecDepth 10000

def listP (m : MDisk) : List ByteArray := if diskOk m then m.fNames.map (·.fName) else []

theorem own_empty (w : World) (t : TypeId) (base size : Nat) (h : base ≤ w.heap.size) : (w.alloc (.cells #[] t)).ownsRow base t size (.slice (some ⟨w.heap.size, 0, none⟩) 0 0) 0 [] := by
  refine ⟨by simp, .inr ⟨w.heap.size, 0, #[], rfl, h, ?_, Nat.le_refl _, Nat.zero_le _, by simp, by simp⟩⟩
  show (w.heap.push _)[w.heap.size]? = _
  rw [Array.getElem?_push_size]

theorem names_step {l : List MEntry} {k : Nat} (h : k < l.length) : (((l.take k).map (·.fName)).map Value.string) ++ [Value.string l[k].fName] = (((l.take (k + 1)).map (·.fName)).map Value.string) := by
  rw [List.take_succ_eq_append_getElem h, List.map_append, List.map_append]
  rfl

theorem Try.infoOfString : (Try.prog.info? 9).map (fun i => (i.zero, i.size, i.bytes)) = some (some (.string ByteArray.empty), 1, 16) := by kernel_rfl

set_option maxHeartbeats 1000000 in
theorem implList_c (cs : List Value) (m : MDisk) (w : World) (hr : rDisk w.heap.size w cs m) (hw : wDisk m ≤ 1048576) :
    Calls Try.prog 21 #[.agg cs.toArray] w fun e w' => ∃ (v : Value) (F : List Nat), e = .returned v ∧ ownT 9 w' v (listP m) F ∧ F.Nodup ∧ (∀ b, b ∈ F → w.heap.size ≤ b) ∧ Below w.heap.size w w' := by
  obtain ⟨i0, hi, hz0, hz1, hz2⟩ := info_parts Try.infoOfString
  have hq := hr
  obtain ⟨a0, c0, a1, c1, a2, c2, rfl, hI, hNm, hSf, hnx, _⟩ := hq
  have hw2 : m.fInodes.length + sumW wInode m.fInodes + (m.fNames.length + sumW wEntry m.fNames) + (m.fSafe.length + sumW wEntry m.fSafe) ≤ 1048576 := hw
  have HW := Hid.mk hw
  have HR := Hid.mk hr
  have HNL := Hid.mk hNm
  clear hr hI hNm hSf hw
  have hCd := fun W (hb : Below w.heap.size w W) => implDiskOk_c _ m W (rDisk_good.mono (rDisk_good.below HR.out hb) hb.size) HW.out
  go_enter Try.func21, Try.ntmps21
  go_wp2_with fail
  refine Calls.mono (hCd _ ?_) ?_
  · exact (Below.refl _ _).alloc (Nat.le_refl _) _
  rintro e w1 ⟨rfl, hx1⟩
  have hb1 : Below w.heap.size w w1 := bthen ((Below.refl _ _).alloc (Nat.le_refl _) _) hx1
  have hbx := (Bx.new w [.slice a0 m.fInodes.length c0, .slice a1 m.fNames.length c1, .slice a2 m.fSafe.length c2, .int .i64 m.fNext] 27).under hx1
  have y1 := hbx.2 1 _ rfl
  clear hCd
  by_cases hok : diskOk m = true
  · have HL : Hid (listP m = m.fNames.map (·.fName)) := by show listP m = _; unfold listP; rw [if_pos hok]
    rw [hok]
    clear hok
    go_wp2_with fail
    go_loopw [3, 12] (fun v i wr => ∃ k : Nat, k ≤ m.fNames.length ∧ i = .int .i64 k ∧ wr.ownsRow w.heap.size 9 1 v k (((m.fNames.take k).map (·.fName)).map Value.string) ∧ Below w.heap.size w wr) (fun _ i _ => m.fNames.length - (intOf i).toNat)
    case atStart => exact ⟨0, Nat.zero_le _, rfl, ⟨by simp, .inl ⟨rfl, rfl⟩⟩, hb1⟩
    case round =>
      obtain ⟨k, hk, rfl, hown, hbk⟩ := hrel
      by_cases hlt : k < m.fNames.length
      · obtain ⟨b1, o1, rfl, hB, cs, hcl, hcell, rfl, hsz, hwf, _⟩ := (HNL.out.2.2.below rEntry_good hbk) k hlt
        have k0 := hcell 0 _ rfl
        have k1 := hcell 1 _ rfl
        rw [Nat.add_zero] at k0
        have HST := Hid.mk (names_step hlt)
        clear hcell hcl
        generalize m.fNames[k].fName = nm at *
        generalize m.fNames[k].fId = id at *
        have hbs := hbk.size
        go_wp2_with (at_builtin; refine wpList_append_own_at _ rfl _ _ 32 rfl w.heap.size 9 i0 (.string ByteArray.empty) 1 16 Try.underlying32 hi hz0 hz1 hz2 rfl (by decide) _ _ _ rfl (own_below hown (((Below.refl _ _).alloc (Nat.le_refl _) _).alloc (by simp) _)) ⟨wr.heap.size + 1, 0, none⟩ 1 1 [.string nm] rfl rfl (bx_news (by simpa using Bx.new (wr.alloc _) _ _)) (by intro u hu; simp at hu; subst hu; rfl) (by unfold maxLen; omega) (by omega) (by simp; omega) ?_; intro v' w3 hown3 hgrow3 hnil hloc)
        have hT := Turn.after (((Below.refl wr.heap.size wr).alloc (Nat.le_refl _) _).alloc (by simp) _) (turnOwn hgrow3)
        have hge : ∀ k, k ∈ (Value.ownBlock _).toList → w.heap.size ≤ k := fun k hk => (hown.lt k (by simpa using hk)).1
        go_roundw
        case rel => exact ⟨k + 1, by omega, by go_num, own_congr hown3 rfl HST.out, Turn.under hbk hT (fun k hk => hge k hk)⟩
        case measure => simp [intOf]; omega
      · have hkn : k = m.fNames.length := by omega
        subst hkn
        rw [List.take_length] at hown
        have HOW := Hid.mk hown
        go_wp2_with fail
        go_ret
        refine ⟨_, _, rfl, ⟨?_, rfl⟩, ?_, ?_, hbk⟩
        · rw [HL.out]
          exact own_base (own_congr hown (by simp) rfl) (Nat.zero_le _)
        · cases Value.ownBlock _ <;> simp
        · intro b hb
          exact (HOW.out.lt b (by simpa using hb)).1
  · have hok2 : diskOk m = false := Bool.eq_false_iff.2 hok
    have HL : Hid (listP m = []) := by show listP m = _; unfold listP; rw [if_neg hok]
    rw [hok2]
    clear hok
    go_wp2_with fail
    go_ret
    refine ⟨_, [], rfl, ⟨?_, rfl⟩, List.nodup_nil, (fun b hb => by cases hb), hb1⟩
    rw [HL.out]
    exact ⟨by simp, .inl ⟨rfl, rfl⟩⟩

end Go.Proofs.Ytmooplfbkkijhaa
