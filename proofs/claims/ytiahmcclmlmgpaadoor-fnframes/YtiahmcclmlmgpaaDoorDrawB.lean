/-
  A few bytes drawn.
-/
import Derived.Test.YtiahmcclmlmgpaaDoorDraw
import Derived.Test.YtiahmcclmlmgpaaDoorDrawN
import Derived.Deep.RegionWith
import Derived.Laws.BytesArg
namespace Go.Proofs.YtiahmcclmlmgpaaDoor
open Go.RowKit

theorem some_list (j : Nat) (h : j < 5) : ∃ q : Nat, ([0, 1, 2, 5, 9] : List Int).getD j 0 = (q : Int) ∧ q ≤ 9 := by
  rcases (show j = 0 ∨ j = 1 ∨ j = 2 ∨ j = 3 ∨ j = 4 from by omega) with rfl | rfl | rfl | rfl | rfl
  · exact ⟨0, rfl, by omega⟩
  · exact ⟨1, rfl, by omega⟩
  · exact ⟨2, rfl, by omega⟩
  · exact ⟨5, rfl, by omega⟩
  · exact ⟨9, rfl, by omega⟩

/-- Numbers laid in a new block. -/
theorem rd_lit (k : IntKind) (w : World) (xs : List Int) (t : TypeId) : Rd k (w.heap.size + 1) (w.alloc (.cells (xs.map (Value.int k)).toArray t)) (some ⟨w.heap.size, 0, none⟩) xs := by
  intro j hj
  refine ⟨w.heap.size, 0, rfl, by omega, ?_⟩
  rw [Nat.zero_add, World.cell?_alloc_mark]
  simp [hj]

set_option maxHeartbeats 400000 in
theorem l1Some_ok {g : Nat} {w : World} (hc : CurOk w g) :
    Calls Tryd.prog 45 #[.pointer (some ⟨g, 0, none⟩)] w fun e w' => ∃ v, e = .returned v ∧ Drawn w w' v g 9 := by
  have hgl := hc.lt
  have hc0 : CurOk (w.alloc (.cells (([0, 1, 2, 5, 9] : List Int).map (Value.int .i64)).toArray 3)) g := hc.below ((Below.refl _ _).alloc (Nat.le_refl _) _)
  have hg0 : w.grownBy (w.alloc (.cells (([0, 1, 2, 5, 9] : List Int).map (Value.int .i64)).toArray 3)) (some g) := World.grownBy_alloc w _ _
  have hrd := rd_lit .i64 w [0, 1, 2, 5, 9] 3
  go_enter Tryd.func45, Tryd.ntmps45
  go_wp2_with fail
  refine (l1Int_ok _ 5 5 [0, 1, 2, 5, 9] (by exact hc0) rfl (by omega) (by omega) _ (by exact hrd) (by intro b o h; simp at h; omega)).mono ?_
  rintro e w1 ⟨j, ⟨hj, rfl⟩, hc1, hg1⟩
  obtain ⟨q, hq, hq9⟩ := some_list j hj
  rw [hq]
  have hg01 := grown_trans hg0 hg1
  clear hq hc0 hg0 hg1 hrd
  go_wp2_with fail
  refine (l1Bytes_ok q hc1 (by omega)).mono ?_
  rintro e w2 ⟨v, rfl, bs, hbl, hbo, hown, hc2, hg2⟩
  have hfin : Drawn w w2 v g 9 := ⟨bs, by omega, hbo, own_base hown hg01.size, hc2, grown_trans hg01 hg2⟩
  clear hown hc2 hg2 hg01 hc1
  go_wp2_with fail
  go_ret
  exact ⟨v, rfl, hfin⟩

end Go.Proofs.YtiahmcclmlmgpaaDoor
