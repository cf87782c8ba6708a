/-
  Pairs that are gone, deleted: the library's IndexFunc and DeleteFunc at the program's predicate.
-/
import Derived.Test.YtiahmcclmlmgpaaDoorPairK
import Derived.Test.YtiahmcclmlmgpaaDoorTabG
import Derived.Lib.SliceRun
namespace Go.Proofs.YtiahmcclmlmgpaaDoor
open Go.RowKit Go.Maps
set_option linter.unusedVariables false
set_option linter.unusedSimpArgs false
set_option maxRecDepth 10000

abbrev goneV : Value := .func (.func 40) #[] #[]
set_option maxHeartbeats 400000 in
theorem gone_any (p : MPair) (w : World) :
    Calls Tryd.prog 40 #[.agg #[.string p.fKey, .string p.fVal, .bool p.fGone]] w fun e w' => e = .returned (.bool p.fGone) ∧ Below w.heap.size w w' := by
  go_enter Tryd.func40, Tryd.ntmps40
  go_wp2_with fail
  go_ret
  exact ⟨rfl, (Below.refl _ _).alloc (Nat.le_refl _) _⟩

set_option maxHeartbeats 1000000 in
theorem indexFunc_any (a : Option Addr) (n c : Nat) (l : List MPair) (w : World) (hx : l.length = n) (hn : n ≤ 16777216) (hL : LeafL 3 rPair w.heap.size w a c l) :
    Calls Tryd.prog 68 #[.slice a n c, goneV] w fun e w' => Below w.heap.size w w' ∧
      ((e = .returned (.int .i64 (-1)) ∧ ∀ j, (h : j < l.length) → l[j].fGone = false) ∨ ∃ i : Nat, e = .returned (.int .i64 i) ∧ ∃ h : i < l.length, l[i].fGone = true ∧ ∀ j, (h : j < l.length) → j < i → l[j].fGone = false) := by
  have HX := Hid.mk hx
  have HL := Hid.mk hL
  clear hx hL
  go_enter Tryd.func68, Tryd.ntmps68
  go_wp2_with fail
  go_loopw [8] (fun iv wr => ∃ k : Nat, k ≤ n ∧ iv = .int .i64 k ∧ (∀ j, (h : j < l.length) → j < k → l[j].fGone = false) ∧ Below w.heap.size w wr) (fun iv _ => n - (intOf iv).toNat)
  case atStart => exact ⟨0, Nat.zero_le _, rfl, fun j _ hj => by omega, Below.refl _ _⟩
  case round =>
    obtain ⟨k, hk, rfl, hno, hbk⟩ := hrel
    have HNO := Hid.mk hno
    clear hno
    by_cases hlt : k < n
    · have hkl : k < l.length := by rw [HX.out]; exact hlt
      obtain ⟨b1, o1, rfl, hbB, cs, hcl, hcell, hrT⟩ := (HL.out.2.2.below rPair_good hbk) k hkl
      obtain ⟨rfl, _, _, _, _⟩ := hrT
      have k0 := hcell 0 _ rfl
      have k1 := hcell 1 _ rfl
      have k2 := hcell 2 _ rfl
      rw [Nat.add_zero] at k0
      obtain ⟨p, hp⟩ : ∃ p, p = l[k] := ⟨_, rfl⟩
      have HPK := Hid.mk hp
      rw [← hp] at k0 k1 k2
      clear hcell hcl hp
      go_wp2_with fail
      refine (gone_any p _).mono ?_
      rintro e w1 ⟨rfl, hx1⟩
      have hB1 := hbk.trans (hx1.mono hbk.size)
      rcases hg : p.fGone with _ | _
      · go_wp2_with fail
        go_roundw
        case rel => exact ⟨k + 1, by omega, by go_num, fun j h hj => by
          by_cases hjk : j = k
          · subst hjk; rw [← HPK.out]; exact hg
          · exact HNO.out j h (by omega), hB1⟩
        case measure => simp [intOf]; omega
      · go_wp2_with fail
        go_ret
        exact ⟨hB1, .inr ⟨k, rfl, hkl, by rw [← HPK.out]; exact hg, HNO.out⟩⟩
    · go_wp2_with fail
      go_ret
      exact ⟨hbk, .inl ⟨rfl, fun j h => HNO.out j h (by have := HX.out; omega)⟩⟩

theorem zeroPair : ∀ w, (zeroValue 31).run Tryd.prog w = .ok (.agg #[.string ⟨#[]⟩, .string ⟨#[]⟩, .bool false]) w := by
  intro w
  kernel_rfl

end Go.Proofs.YtiahmcclmlmgpaaDoor
