/-
  A new cursor; a few bytes drawn; the draws of PutNum and of PutText.
-/
import Derived.Test.YtconfeecfgdopaaDraw
import Derived.Deep.RegionWith
import Derived.Laws.BytesArg
namespace Go.Proofs.Ytconfeecfgdopaa
open Go.RowKit

set_option maxRecDepth 100000 in
set_option maxHeartbeats 400000 in
theorem l1New_any (a : Option Addr) (n cap : Nat) (zs : List Int) (w : World) (hx : zs.length = n) (hlen : n ≤ 140737488351232) (hr : Rd .u8 w.heap.size w a zs) :
    Calls Try.prog 23 #[.slice a n cap] w fun e w' => e = .returned (.pointer (some ⟨w.heap.size, 0, none⟩)) ∧ CurOk w' w.heap.size ∧ Below w.heap.size w w' := by
  have HX : Hid (zs.length = n) := hx
  clear hx
  go_enter Try.func23, Try.ntmps23
  go_wp2
  go_loop [3, 4] (fun h i => ∃ (k : Nat) (H : Int), k ≤ n ∧ i = .int .i64 k ∧ h = .int .i64 H) (fun _ i => n - (intOf i).toNat)
  case atStart => exact ⟨0, _, Nat.zero_le _, rfl, rfl⟩
  case round =>
    obtain ⟨k, H, hk, rfl, rfl⟩ := hrel
    have fin : ∀ H : Int, CurOk (w.alloc (.cells #[.slice a n cap, .int .i64 0, .int .i64 H] 48)) w.heap.size := fun H =>
      ⟨a, n, cap, w.heap.size, zs, HX.out, hlen, Nat.le_refl _, hr.below ((Below.refl _ _).alloc (Nat.le_refl _) _), ⟨0, H, by omega, by omega, heap_alloc_new w _⟩, by simp⟩
    by_cases hlt : k < n
    · by_cases h4 : k < 4000
      · obtain ⟨b1, o1, rfl, _, hc1⟩ := hr k (by rw [HX.out]; exact hlt)
        generalize zs.getD k 0 = c at hc1
        clear fin hr
        go_wp2
        go_round
        case rel => exact ⟨k + 1, _, by omega, by go_num, rfl⟩
        case measure => simp [intOf]; omega
      · go_wp2
        go_ret
        exact ⟨rfl, fin _, (Below.refl _ _).alloc (Nat.le_refl _) _⟩
    · go_wp2
      go_ret
      exact ⟨rfl, fin _, (Below.refl _ _).alloc (Nat.le_refl _) _⟩

theorem some_list (j : Nat) (h : j < 5) : ∃ q : Nat, ([0, 1, 2, 5, 9] : List Int).getD j 0 = (q : Int) ∧ q ≤ 9 := by
  rcases (show j = 0 ∨ j = 1 ∨ j = 2 ∨ j = 3 ∨ j = 4 from by omega) with rfl | rfl | rfl | rfl | rfl
  · exact ⟨0, rfl, by omega⟩
  · exact ⟨1, rfl, by omega⟩
  · exact ⟨2, rfl, by omega⟩
  · exact ⟨5, rfl, by omega⟩
  · exact ⟨9, rfl, by omega⟩

/-- Numbers laid in a new block. -/
theorem rd_lit (k : IntKind) (w : World) (xs : List Int) (t : TypeId) : Rd k (w.heap.size + 1) (w.alloc (.cells (xs.map (Value.int k)).toArray t)) (some ⟨w.heap.size, 0, none⟩) xs := by
  intro j hj
  refine ⟨w.heap.size, 0, rfl, by omega, ?_⟩
  rw [Nat.zero_add, World.cell?_alloc_mark]
  simp [hj]

set_option maxHeartbeats 400000 in
theorem l1Some_ok {g : Nat} {w : World} (hc : CurOk w g) :
    Calls Try.prog 24 #[.pointer (some ⟨g, 0, none⟩)] w fun e w' => ∃ v, e = .returned v ∧ Drawn w w' v g 9 := by
  have hgl := hc.lt
  have hc0 : CurOk (w.alloc (.cells (([0, 1, 2, 5, 9] : List Int).map (Value.int .i64)).toArray 3)) g := hc.below ((Below.refl _ _).alloc (Nat.le_refl _) _)
  have hg0 : w.grownBy (w.alloc (.cells (([0, 1, 2, 5, 9] : List Int).map (Value.int .i64)).toArray 3)) (some g) := World.grownBy_alloc w _ _
  have hrd := rd_lit .i64 w [0, 1, 2, 5, 9] 3
  go_enter Try.func24, Try.ntmps24
  go_wp2_with fail
  refine (l1Int_ok _ 5 5 [0, 1, 2, 5, 9] (by exact hc0) rfl (by omega) (by omega) _ (by exact hrd) (by intro b o h; simp at h; omega)).mono ?_
  rintro e w1 ⟨j, ⟨hj, rfl⟩, hc1, hg1⟩
  obtain ⟨q, hq, hq9⟩ := some_list j hj
  rw [hq]
  have hg01 := grown_trans hg0 hg1
  clear hq hc0 hg0 hg1 hrd
  go_wp2_with fail
  refine (l1Bytes_ok q hc1 (by omega)).mono ?_
  rintro e w2 ⟨v, rfl, bs, hbl, hbo, hown, hc2, hg2⟩
  have hfin : Drawn w w2 v g 9 := ⟨bs, by omega, hbo, own_base hown hg01.size, hc2, grown_trans hg01 hg2⟩
  clear hown hc2 hg2 hg01 hc1
  go_wp2_with fail
  go_ret
  exact ⟨v, rfl, hfin⟩

set_option maxRecDepth 100000 in
set_option maxHeartbeats 400000 in
theorem drawPutNum_any (a : Option Addr) (n cap : Nat) (zs : List Int) (w : World) (hx : zs.length = n) (hlen : n ≤ 140737488351232) (hr : Rd .u8 w.heap.size w a zs) :
    Calls Try.prog 9 #[.slice a n cap] w fun e w' => ∃ (v : Value) (q : Int) (bs : List Int), e = .returned (.tuple #[v, .int .i64 q]) ∧ bs.length ≤ 9 ∧ BytesOk bs ∧
      w'.ownsRow w.heap.size 5 1 v bs.length (bs.map (Value.int .u8)) ∧ Below w.heap.size w w' := by
  go_enter Try.func9, Try.ntmps9
  go_wp2_with fail
  refine (l1New_any a n cap zs _ hx hlen (by exact hr)).mono ?_
  rintro e w1 ⟨rfl, hc1, hb1⟩
  go_wp2_with fail
  refine (l1Some_ok hc1).mono ?_
  rintro e w2 ⟨v2, rfl, bs, hbl, hbo, hown2, hc2, hg2⟩
  have hb2 := hb1.grown hg2 hb1.size (fun k h => by simp at h; omega)
  have hgl := hc1.lt
  clear hg2 hc1
  go_wp2_with fail
  refine (l1Below_ok 100000 hc2).mono ?_
  rintro e w3 ⟨x, rfl, hx3, hc3, hg3⟩
  have hown3 := hown2.kept hg3 (own_not hown2 hgl)
  have hb3 := hb2.grown hg3 hb2.size (fun k h => by simp at h; omega)
  clear hg3 hc2 hown2 hx3
  have hb3' : Below w3.heap.size w3 (w3.alloc (.cells (([0, 1, 127, 128, 16383, 16384, 2097151, 2097152, 268435455, 268435456, 1000000000, 1000000001, -1, 9223372036854775807, x] : List Int).map (Value.int .i64)).toArray 3)) := (Below.refl _ _).alloc (Nat.le_refl _) _
  have hrd := rd_lit .i64 w3 [0, 1, 127, 128, 16383, 16384, 2097151, 2097152, 268435455, 268435456, 1000000000, 1000000001, -1, 9223372036854775807, x] 3
  have hc4 := hc3.below hb3'
  have hown4 := own_below hown3 hb3'
  have hb4 := hb3.trans (hb3'.mono hb3.size)
  have hgl3 := hc3.lt
  have hs4 : w3.heap.size ≤ (w3.alloc (.cells (([0, 1, 127, 128, 16383, 16384, 2097151, 2097152, 268435455, 268435456, 1000000000, 1000000001, -1, 9223372036854775807, x] : List Int).map (Value.int .i64)).toArray 3)).heap.size := hb3'.size
  clear hb3' hc3 hown3
  go_wp2_with fail
  refine (l1Int_ok _ 15 15 [0, 1, 127, 128, 16383, 16384, 2097151, 2097152, 268435455, 268435456, 1000000000, 1000000001, -1, 9223372036854775807, x] (by exact hc4) rfl (by omega) (by omega) _ (by exact hrd) (by intro b o h; simp at h; omega)).mono ?_
  rintro e w5 ⟨j, ⟨hj, rfl⟩, hc5, hg5⟩
  have hown5 := hown4.kept hg5 (own_not hown4 hgl)
  have hb5 := hb4.grown hg5 hb4.size (fun k h => by simp at h; omega)
  generalize ([0, 1, 127, 128, 16383, 16384, 2097151, 2097152, 268435455, 268435456, 1000000000, 1000000001, -1, 9223372036854775807, x] : List Int).getD j 0 = q
  clear hg5 hc5 hown4 hrd hc4
  go_wp2_with fail
  go_ret2
  exact ⟨v2, q, bs, rfl, hbl, hbo, own_base hown5 (by omega), hb5⟩

end Go.Proofs.Ytconfeecfgdopaa
