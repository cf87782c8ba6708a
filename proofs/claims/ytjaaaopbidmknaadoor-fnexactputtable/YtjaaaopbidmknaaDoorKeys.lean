/-
  The keys of a list of pairs, the program's list.
-/
import Derived.Test.YtjaaaopbidmknaaDoorTabM
import Derived.Test.YtjaaaopbidmknaaDoorStrA
namespace Go.Proofs.YtjaaaopbidmknaaDoor
open Go.RowKit Go.Maps
set_option linter.unusedVariables false
set_option linter.unusedSimpArgs false
set_option maxRecDepth 10000

theorem keys_step {l : List MPair} {k : Nat} (h : k < l.length) : (keysP (l.take (k + 1))).map Value.string = (keysP (l.take k)).map Value.string ++ [.string l[k].fKey] := by
  unfold keysP
  rw [List.take_succ_eq_append_getElem h, List.map_append, List.map_append]
  rfl
theorem own_nilT (w : World) (base e size : Nat) : w.ownsRow base e size (.slice none 0 0) 0 [] := ⟨by simp, .inl ⟨rfl, rfl⟩⟩

set_option maxHeartbeats 2000000 in
theorem keysOf_any (a : Option Addr) (n c : Nat) (l : List MPair) (w : World) (hx : l.length = n) (hn : n ≤ 1048576) (hL : LeafL 3 rPair w.heap.size w a c l) :
    Calls Tryd.prog 84 #[.slice a n c] w fun e w' => ∃ v, e = .returned v ∧ w'.ownsRow w.heap.size 9 1 v n ((keysP l).map Value.string) ∧ Below w.heap.size w w' := by
  obtain ⟨i0, hi, hz0, hz1, hz2⟩ := info_parts Tryd.infoOfStr
  have HX := Hid.mk hx
  have HL := Hid.mk hL
  clear hx hL
  go_enter Tryd.func84, Tryd.ntmps84
  go_wp2_with fail
  go_loopw [3, 8] (fun v i wr => ∃ k : Nat, k ≤ n ∧ i = .int .i64 k ∧ wr.ownsRow w.heap.size 9 1 v k ((keysP (l.take k)).map Value.string) ∧ Below w.heap.size w wr) (fun _ i _ => n - (intOf i).toNat)
  case atStart => exact ⟨0, Nat.zero_le _, rfl, own_nilT w _ _ 1, Below.refl _ _⟩
  case round =>
    obtain ⟨k, hk, rfl, hown, hbk⟩ := hrel
    by_cases hlt : k < n
    · have hkl : k < l.length := by rw [HX.out]; exact hlt
      have HST := Hid.mk (keys_step hkl)
      obtain ⟨b1, o1, rfl, hbB, cs, hcl, hcell, hrT⟩ := (HL.out.2.2.below rPair_good hbk) k hkl
      generalize l[k] = p at *
      obtain ⟨rfl, h0, h1, h2, _⟩ := hrT
      have k0 := hcell 0 _ rfl
      have k1 := hcell 1 _ rfl
      have k2 := hcell 2 _ rfl
      rw [Nat.add_zero] at k0
      clear hcell hcl
      obtain ⟨xs, HXS⟩ : ∃ xs, Hid (xs = (keysP (l.take k)).map Value.string) := ⟨_, rfl⟩
      rw [← HXS.out] at hown
      obtain ⟨wp, hwp⟩ : ∃ wp, wp = wr.alloc (.cells #[.string p.fKey, .string p.fVal, .bool p.fGone] 45) := ⟨_, rfl⟩
      have hbp : Below wr.heap.size wr wp := by rw [hwp]; exact (Below.refl _ _).alloc (Nat.le_refl _) _
      obtain ⟨ws, hws⟩ : ∃ ws, ws = wp.alloc (.cells #[.string p.fKey] 9) := ⟨_, rfl⟩
      have hbs : Below wr.heap.size wr ws := by rw [hws]; exact hbp.alloc hbp.size _
      have hbx : Bx ws (wr.heap.size + 1) [.string p.fKey] := by rw [show wr.heap.size + 1 = wp.heap.size from by rw [hwp]; simp, hws]; exact Bx.new _ _ _
      have hown1 := own_below hown hbs
      have hbz := hbs.size
      have hbw := hbk.size
      go_wp2_with (at_builtin; rw [← hwp, ← hws]; refine wpList_append_own_at _ rfl _ _ 25 rfl w.heap.size 9 i0 (.string ByteArray.empty) 1 16 Tryd.underlying25 hi hz0 hz1 hz2 rfl (by decide) _ _ _ rfl hown1 ⟨wr.heap.size + 1, 0, none⟩ 1 1 [.string p.fKey] rfl rfl (bx_news hbx) (by intro u hu; simp at hu; subst hu; rfl) (by unfold maxLen; omega) (by omega) (by omega) ?_; intro v' w3 hown3 hgrow3 hnil hloc)
      have hT := Turn.after hbs (turnOwn hgrow3)
      have hge : ∀ k, k ∈ (Value.ownBlock _).toList → w.heap.size ≤ k := fun k hk => (hown.lt k (by simpa using hk)).1
      go_roundw
      case rel => exact ⟨k + 1, by omega, by go_num, own_congr hown3 rfl (by rw [HST.out, HXS.out]), Turn.under hbk hT (fun k hk => hge k hk)⟩
      case measure => simp [intOf]; omega
    · have hkn : k = n := by omega
      subst hkn
      have HT1 : Hid (l.take k = l) := List.take_of_length_le (by rw [HX.out]; exact Nat.le_refl _)
      rw [HT1.out] at hown
      go_wp2_with fail
      go_ret
      exact ⟨_, rfl, hown, hbk⟩

end Go.Proofs.YtjaaaopbidmknaaDoor
