/-
  PutText, the specification's and the program's: a text's bytes behind their number.
-/
import Derived.Test.YtjaaaopbidmknaaDoorPutS
import Derived.Test.YtjaaaopbidmknaaDoorPuts
namespace Go.Proofs.YtjaaaopbidmknaaDoor
open Go.RowKit
set_option maxRecDepth 10000

/-- A string's bytes, as numbers. -/
def strInts (s : ByteArray) : List Int := s.data.toList.map fun b => (b.toNat : Int)

theorem strInts_length (s : ByteArray) : (strInts s).length = s.size := by
  unfold strInts
  rw [List.length_map, Array.length_toList]
  rfl

theorem byteCells_eq (s : ByteArray) : byteCells s = (strInts s).map (Value.int .u8) := by
  unfold byteCells strInts
  rw [List.map_map]
  rfl

def putText (zs : List Int) (s : ByteArray) : List Int := zs ++ putNum (clampN s.size) ++ strInts s

theorem putText_own {w : World} {base e : Nat} {v : Value} {zs : List Int} {s : ByteArray} (h : w.ownsRow base e 1 v (zs.length + (putNum (clampN s.size)).length + s.size) (zs.map (Value.int .u8) ++ ((putNum (clampN s.size)).map (Value.int .u8) ++ byteCells s))) :
    w.ownsRow base e 1 v (putText zs s).length ((putText zs s).map (Value.int .u8)) := by
  refine own_congr h ?_ ?_
  · simp only [putText, List.length_append, strInts_length]
  · rw [byteCells_eq]; simp [putText]

set_option maxHeartbeats 400000 in
theorem specPutText_R (a : Option Addr) (n cap : Nat) (zs : List Int) (s : ByteArray) (w : World) (hx : zs.length = n) (hlen : n ≤ 35184372088832) (hr : Rd .u8 w.heap.size w a zs) (hs : s.size ≤ 35184372088832) :
    Calls Tryd.prog 76 #[.slice a n cap, .string s] w fun e w' => ∃ v, e = .returned v ∧
      w'.ownsRow w.heap.size 5 1 v (putText zs s).length ((putText zs s).map (Value.int .u8)) ∧ Below w.heap.size w w' := by
  obtain ⟨i0, hi, hz0, hz1, hz2⟩ := info_parts Tryd.info5
  have HX : Hid (zs.length = n) := hx
  clear hx
  have hpl := putNum_length (clampN s.size)
  go_enter Tryd.func76, Tryd.ntmps76
  go_wp2_with fail
  refine (specPutNum_R a n cap zs _ _ HX.out hlen (by exact hr)).mono ?_
  rintro e w1 ⟨v1, rfl, hown1, hb1⟩
  have hl : (zs ++ putNum (clampN s.size)).length ≤ n + 5 := by rw [List.length_append, HX.out]; omega
  go_wp2_with (at_builtin; refine wpList_append_src _ rfl _ _ 27 9 rfl w.heap.size 5 i0 (.int .u8 0) 1 1 Tryd.underlying27 hi hz0 hz1 hz2 rfl _ _ _ rfl hown1 s.size (byteCells s) (Src.ofString w1 Tryd.underlying9 s) (by unfold maxLen; omega) (by omega) hb1.size ?_)
  intro v2 w2 hown2 hgr2
  have hown3 := putText_own hown2
  have hb2 := hb1.grown hgr2 hb1.size (fun k h => (hown1.lt k h).1)
  clear hown2 hown1 hgr2 hb1
  go_wp2
  go_ret
  exact ⟨v2, rfl, hown3, hb2⟩

set_option maxHeartbeats 400000 in
theorem implPutText_R (a : Option Addr) (n cap : Nat) (zs : List Int) (s : ByteArray) (w : World) (hx : zs.length = n) (hlen : n ≤ 35184372088832) (hr : Rd .u8 w.heap.size w a zs) (hs : s.size ≤ 35184372088832) :
    Calls Tryd.prog 118 #[.slice a n cap, .string s] w fun e w' => ∃ v, e = .returned v ∧
      w'.ownsRow w.heap.size 5 1 v (putText zs s).length ((putText zs s).map (Value.int .u8)) ∧ Below w.heap.size w w' := by
  obtain ⟨i0, hi, hz0, hz1, hz2⟩ := info_parts Tryd.info5
  have HX : Hid (zs.length = n) := hx
  clear hx
  have hpl := putNum_length (clampN s.size)
  go_enter Tryd.func118, Tryd.ntmps118
  go_wp2_with fail
  have hb0 : Below w.heap.size w (w.alloc (.cells #[.int .i64 s.size] 3)) := (Below.refl _ _).alloc (Nat.le_refl _) _
  refine (putNums_any a _ n cap 1 1 zs [(s.size : Int)] _ HX.out rfl hlen (by omega) ((hr.below hb0).mono (by simp)) (by simpa using rd_one .i64 w s.size 3)).mono ?_
  rintro e w1 ⟨v1, rfl, hown0, hb1'⟩
  have hown1 : w1.ownsRow w.heap.size 5 1 v1 (zs ++ putNum (clampN s.size)).length ((zs ++ putNum (clampN s.size)).map (Value.int .u8)) :=
    own_base (own_congr hown0 (by rw [List.length_append, HX.out]; simp [putNums]) (by simp [putNums])) (by simp)
  have hb1 := hb0.trans (hb1'.mono (by simp))
  have hl : (zs ++ putNum (clampN s.size)).length ≤ n + 5 := by rw [List.length_append, HX.out]; omega
  clear hown0 hb1' hb0
  go_wp2_with (at_builtin; refine wpList_append_src _ rfl _ _ 27 9 rfl w.heap.size 5 i0 (.int .u8 0) 1 1 Tryd.underlying27 hi hz0 hz1 hz2 rfl _ _ _ rfl hown1 s.size (byteCells s) (Src.ofString w1 Tryd.underlying9 s) (by unfold maxLen; omega) (by omega) hb1.size ?_)
  intro v2 w2 hown2 hgr2
  have hown3 := putText_own hown2
  have hb2 := hb1.grown hgr2 hb1.size (fun k h => (hown1.lt k h).1)
  clear hown2 hown1 hgr2 hb1
  go_wp2
  go_ret
  exact ⟨v2, rfl, hown3, hb2⟩

end Go.Proofs.YtjaaaopbidmknaaDoor
