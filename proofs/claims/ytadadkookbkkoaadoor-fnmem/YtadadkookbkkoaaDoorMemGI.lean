/-
  The pair with a key: what both sides find.
-/
import Derived.Test.YtadadkookbkkoaaDoorMemM
import Derived.Test.YtadadkookbkkoaaDoorDatN
import Derived.Test.YtadadkookbkkoaaDoorRowG
import Derived.Test.YtadadkookbkkoaaDoorChecked
namespace Go.Proofs.YtadadkookbkkoaaDoor
open Go.RowKit Go.Maps
set_option linter.unusedVariables false
set_option linter.unusedSimpArgs false
set_option maxRecDepth 10000

set_option maxHeartbeats 2000000 in
theorem implMemGet_c (cs : List Value) (m : MMem) (s : ByteArray) (w : World) (hr : rMem w.heap.size w cs m) (hs : s.size ≤ 9223372036854775807) (hw : wMem m ≤ 1048576) (hw1 : s.size ≤ 1048576) :
    Calls Tryd.prog 11 #[.agg cs.toArray, .string s] w fun e w' => e = .returned (.tuple #[.agg #[.string (getP m.fNodes s).fKey, .string (getP m.fNodes s).fVal, .bool (getP m.fNodes s).fGone], .bool (hasKey m.fNodes s)]) ∧ Below w.heap.size w w' := by
  obtain ⟨a0, c0, rfl, hL, _⟩ := hr
  have HL := Hid.mk hL
  obtain ⟨l, hl⟩ : ∃ l, l = m.fNodes := ⟨_, rfl⟩
  have hw2 : m.fNodes.length + sumW wNode m.fNodes ≤ 1048576 := hw
  rw [← hl] at HL hw2 ⊢
  clear hL hw hl
  obtain ⟨n, hx⟩ : ∃ n, n = l.length := ⟨_, rfl⟩
  rw [← hx] at hw2 ⊢
  have HX := Hid.mk hx.symm
  have hn : n ≤ 1048576 := by omega
  clear hx hw2
  go_enter Tryd.func11, Tryd.ntmps11
  go_wp2_with fail
  obtain ⟨wq, hwq⟩ : ∃ wq, wq = (w.alloc (.cells #[.slice a0 n c0] 26)).alloc (.cells #[.string ⟨#[]⟩, .string ⟨#[]⟩, .bool false] 28) := ⟨_, rfl⟩
  have hbW : Below w.heap.size w wq := by rw [hwq]; exact Below.alloc (Below.alloc (Below.refl _ _) (Nat.le_refl _) _) (by simp) _
  have hbm : Bw wq w.heap.size 26 [.slice a0 n c0] := by rw [hwq]; exact Bw.alloc (Bw.new _ _ _) _
  have hbr : Bw wq (w.heap.size + 1) 28 [.string ⟨#[]⟩, .string ⟨#[]⟩, .bool false] := by rw [hwq]; exact Bw.new' _ _ _ (by simp)
  have y0 := hbm.cell 0 _ rfl
  rw [← hwq]
  clear hwq
  go_wp2_with fail
  go_loopw [11] (fun i wr => ∃ k : Nat, k ≤ n ∧ i = .int .i64 k ∧ (∀ j, (hj : j < l.length) → j < k → l[j].fP.fKey ≠ s) ∧ Bw wr w.heap.size 26 [.slice a0 n c0] ∧ Bw wr (w.heap.size + 1) 28 [.string ⟨#[]⟩, .string ⟨#[]⟩, .bool false] ∧ Below w.heap.size w wr) (fun i _ => n - (intOf i).toNat)
  case atStart => exact ⟨0, Nat.zero_le _, rfl, fun j hj h => by omega, hbm, hbr, hbW⟩
  case round =>
    clear hbm hbr y0
    obtain ⟨k, hk, rfl, hno, hbm, hbr, hbk⟩ := hrel
    have HNO := Hid.mk hno
    clear hno
    have hlm := hbm.lt
    have hlr := hbr.lt
    have y0 := hbm.cell 0 _ rfl
    have ze0 := hbr.cell 0 _ rfl
    have ze1 := hbr.cell 1 _ rfl
    have ze2 := hbr.cell 2 _ rfl
    have zf0 := hbr.free 0
    have zf1 := hbr.free 1
    have zf2 := hbr.free 2
    by_cases hlt : k < n
    · have hkl : k < l.length := by rw [HX.out]; exact hlt
      obtain ⟨b1, o1, rfl, hB, cs, hcl, hcell, rfl, g0, g1, _, g3, _⟩ := (HL.out.2.2.below rNode_good hbk) k hkl
      have hB' : b1 < wr.heap.size := by have := hbk.size; omega
      have k0 := hcell 0 _ rfl
      have k1 := hcell 1 _ rfl
      have k2 := hcell 2 _ rfl
      have k3 := hcell 3 _ rfl
      rw [Nat.add_zero] at k0
      have HYES := Hid.mk (fun h => getP_at (s := s) hkl (fun j hj hjk => HNO.out j hj hjk) h)
      have HNXT : Hid (l[k].fP.fKey ≠ s → ∀ j, (hj : j < l.length) → j < k + 1 → l[j].fP.fKey ≠ s) := fun h j hj hjk => by
        by_cases hjk2 : j = k
        · subst hjk2; exact h
        · exact HNO.out j hj (by omega)
      clear hcell hcl
      obtain ⟨x, hxk⟩ : ∃ x, l[k] = x := ⟨_, rfl⟩
      rw [hxk] at HYES HNXT k0 k1 k2 k3
      clear hxk
      by_cases he : x.fP.fKey = s
      · have heb := k_same he
        have HV := Hid.mk (HYES.out he)
        clear he HYES HNXT
        go_wp2_with fail
        exact bodyPost_ret (v := .tuple #[.agg #[.string x.fP.fKey, .string x.fP.fVal, .bool x.fP.fGone], .bool true]) (by simp [results, Tryd.results11, go_sem, *]) rfl ⟨by rw [HV.out.1, HV.out.2], by repeat (first | with_reducible exact hbk | with_reducible refine Below.setCell ?_ (by simp) _ | with_reducible refine Below.alloc ?_ (by first | exact Nat.le_refl _ | (simp; omega) | omega) _)⟩
      · have heb := k_ne he
        have HN := Hid.mk (HNXT.out he)
        clear he HYES HNXT
        go_wp2_with fail
        go_roundw
        case rel => exact ⟨k + 1, by omega, by go_num, HN.out, Bw.alloc hbm _, Bw.alloc hbr _, hbk.alloc (by omega) _⟩
        case measure => simp [intOf]; omega
    · have hkn : k = n := by omega
      have HV := Hid.mk (getP_none (l := l) (s := s) (fun j hj => HNO.out j hj (by rw [HX.out] at hj; omega)))
      go_wp2_with fail
      exact bodyPost_ret (v := .tuple #[.agg #[.string ⟨#[]⟩, .string ⟨#[]⟩, .bool false], .bool false]) (by simp [results, Tryd.results11, go_sem, *]) rfl ⟨by rw [HV.out.1, HV.out.2]; rfl, by repeat (first | with_reducible exact hbk | with_reducible refine Below.setCell ?_ (by simp) _ | with_reducible refine Below.alloc ?_ (by first | exact Nat.le_refl _ | (simp; omega) | omega) _)⟩

end Go.Proofs.YtadadkookbkkoaaDoor
