/-
  What the laws' own helpers on slices of bytes do: toByteS copies, eqByteS compares, markByteS writes, heldByteS asks.
-/
import Derived.Test.YtnohnkcijomdjaaGreatDoorBasE
import Derived.Test.YtnohnkcijomdjaaGreatDoorRows
import Derived.Test.YtnohnkcijomdjaaGreatDoorKit
import Derived.Test.YtnohnkcijomdjaaGreatDoorInfB
namespace Go.Proofs.YtnohnkcijomdjaaGreatDoor
open Go.RowKit


set_option maxHeartbeats 400000 in
theorem toByteS_any (a : Option Addr) (n cap : Nat) (zs : List Int) (w : World) (hn : zs.length = n) (hlen : n ≤ 140737488351232) (hr : Rd .u8 w.heap.size w a zs) :
    Calls Tryz.prog 81 #[.slice a n cap] w fun e w' => e = .returned (.slice (some ⟨w.heap.size, 0, none⟩) n n) ∧
      w'.ownsRow w.heap.size 5 1 (.slice (some ⟨w.heap.size, 0, none⟩) n n) n (zs.map (Value.int .u8)) ∧ Below w.heap.size w w' := by
  obtain ⟨i0, hi, hz0, hz1, hz2⟩ := info_parts Tryz.info5
  have HN : Hid (zs.length = n) := hn
  clear hn
  go_enter Tryz.func81, Tryz.ntmps81
  go_wp2_with (at_make; refine wpList_make_full _ rfl _ _ 60 rfl w.heap.size 5 i0 (.int .u8 0) 1 Tryz.underlying60 hi hz0 hz1 .i64 .i64 _ _ n rfl rfl rfl rfl ?c1 ?c2 (Nat.le_refl _) ?_)
  case c1 => rw [hz2]; omega
  case c2 => unfold maxLen; omega
  intro w1 hown hgr
  have hb1 : Below w.heap.size w w1 := (Below.refl _ _).grown hgr (Nat.le_refl _) (fun k h => by cases h)
  rw [toList_madeCells_one] at hown
  clear hgr hi hz0 hz1 hz2
  go_wp2_with fail
  go_loopw [4] (fun i wr => ∃ k : Nat, k ≤ n ∧ i = .int .i64 k ∧ wr.ownsRow w.heap.size 5 1 (.slice (some ⟨w.heap.size, 0, none⟩) n n) n (((zs.take k).map (Value.int .u8)) ++ List.replicate (n - k) (.int .u8 0)) ∧ Below w.heap.size w wr) (fun i _ => n - (intOf i).toNat)
  case atStart => exact ⟨0, Nat.zero_le _, rfl, by simpa using hown, hb1⟩
  case round =>
    obtain ⟨k, hk, rfl, hownk, hbk⟩ := hrel
    clear hown hb1
    by_cases hlt : k < n
    · obtain ⟨b, off, rfl, hbB, hcell⟩ := hr k (by rw [HN.out]; exact hlt)
      have hc1 : wr.cell? ⟨b, off + k, none⟩ = some (.int .u8 (zs.getD k 0)) := (hbk.cell hbB).trans hcell
      obtain ⟨x, hx⟩ : ∃ x, zs.getD k 0 = x := ⟨_, rfl⟩
      rw [hx] at hc1
      have hc2 : ∃ v, wr.cell? ⟨w.heap.size, k, none⟩ = some v := by rw [hownk.cellAt k (by omega)]; exact ⟨_, List.getElem?_eq_getElem (by simp; have := HN.out; omega)⟩
      obtain ⟨v, hc2⟩ := hc2
      have hf2 := hownk.frozenAt k
      have hst := hownk.stored k (.int .u8 x)
      have HX : Hid (zs.getD k 0 = x) := hx
      clear hx hr hcell hownk
      go_wp2
      go_roundw
      case rel =>
        have hx := HX.out
        subst hx
        refine ⟨k + 1, by omega, by go_num, ?_, hbk.setCell (Nat.le_refl _) _⟩
        rw [← fill_step HN.out hlt]
        exact hst.1
      case measure => simp [intOf]; omega
    · go_wp2
      go_ret
      have hkn : k = n := by omega
      subst hkn
      refine ⟨rfl, ?_, hbk⟩
      have h := hownk
      rw [List.take_of_length_le (by rw [HN.out]; exact Nat.le_refl _)] at h
      simpa using h

end Go.Proofs.YtnohnkcijomdjaaGreatDoor
