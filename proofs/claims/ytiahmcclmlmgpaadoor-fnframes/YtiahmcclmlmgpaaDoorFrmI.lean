/-
  Frame, plainly and the program's: the sum's four bytes, the length, the body.
-/
import Derived.Test.YtiahmcclmlmgpaaDoorPuts
import Derived.Test.YtiahmcclmlmgpaaDoorSum
namespace Go.Proofs.YtiahmcclmlmgpaaDoor
open Go.RowKit
set_option maxRecDepth 10000

/-- The four bytes of a sum. -/
def four (x : Int) : List Int := [x / 16777216, x / 65536 % 256, x / 256 % 256, x % 256]

theorem four_length (x : Int) : (four x).length = 4 := rfl

theorem four_ok {x : Int} (h0 : 0 ≤ x) (h1 : x < 4294967296) : BytesOk (four x) := by
  intro z hz
  simp only [four, List.mem_cons, List.not_mem_nil, or_false] at hz
  omega

def frame (zs : List Int) : List Int := four (crc zs) ++ putNum (clampN zs.length) ++ zs

set_option maxHeartbeats 400000 in
theorem implFour_any (x : Int) (w : World) (h0 : 0 ≤ x) (h1 : x < 4294967296) :
    Calls Tryd.prog 47 #[.int .i64 x] w fun e w' => e = .returned (.slice (some ⟨w.heap.size, 0, none⟩) 4 4) ∧
      w'.ownsRow w.heap.size 5 1 (.slice (some ⟨w.heap.size, 0, none⟩) 4 4) 4 ((four x).map (Value.int .u8)) ∧ Below w.heap.size w w' := by
  go_enter Tryd.func47, Tryd.ntmps47
  go_wp2
  go_ret
  exact ⟨rfl, World.ownsRow_lit w _ 4 (Nat.le_refl _) (by decide) rfl, (Below.refl _ _).alloc (Nat.le_refl _) _⟩

theorem frame_own {w : World} {base e n : Nat} {v : Value} {zs : List Int} (hn : zs.length = n) {m : Nat} {l : List Value} (h : w.ownsRow base e 1 v m l)
    (hm : m = (four (crc zs) ++ putNum (clampN n)).length + n) (hl : l = (four (crc zs) ++ putNum (clampN n)).map (Value.int .u8) ++ zs.map (Value.int .u8)) :
    w.ownsRow base e 1 v (frame zs).length ((frame zs).map (Value.int .u8)) := by
  refine own_congr h ?_ ?_
  · rw [hm]; simp only [frame, List.length_append, hn]
  · rw [hl]; simp [frame, hn]

set_option maxHeartbeats 400000 in
theorem implFrame_R (a : Option Addr) (n cap : Nat) (zs : List Int) (w : World) (hx : zs.length = n) (hlen : n ≤ 35184372088832) (hr : Rd .u8 w.heap.size w a zs) (hb : BytesOk zs) (ht : TabAt w) :
    Calls Tryd.prog 14 #[.slice a n cap] w fun e w' => ∃ v, e = .returned v ∧
      w'.ownsRow w.heap.size 5 1 v (frame zs).length ((frame zs).map (Value.int .u8)) ∧ Below w.heap.size w w' := by
  obtain ⟨i0, hi, hz0, hz1, hz2⟩ := info_parts Tryd.info5
  have HX : Hid (zs.length = n) := hx
  clear hx
  have hpl := putNum_length (clampN n)
  have hcb := crc_bd hb
  go_enter Tryd.func14, Tryd.ntmps14
  go_wp2_with fail
  refine (implSum_any a n cap zs _ _ HX.out (by omega) hb (by exact hr) ht).mono ?_
  rintro e w0 ⟨rfl, rfl⟩
  go_wp2_with fail
  refine (implFour_any (crc zs) _ hcb.1 hcb.2).mono ?_
  rintro e w1 ⟨rfl, hown1, hb1⟩
  go_wp2_with fail
  have hb1' : Below w1.heap.size w1 (w1.alloc (.cells #[.int .i64 n] 3)) := (Below.refl _ _).alloc (Nat.le_refl _) _
  refine (putNums_any _ _ 4 4 1 1 (four (crc zs)) [(n : Int)] _ rfl rfl (by omega) (by omega) (((Rd.own rfl hown1).below hb1').mono (by simp)) (by simpa using rd_one .i64 w1 n 3)).mono ?_
  rintro e w2 ⟨v2, rfl, hown2, hb2⟩
  have hown2' : w2.ownsRow w0.heap.size 5 1 v2 (four (crc zs) ++ putNum (clampN n)).length ((four (crc zs) ++ putNum (clampN n)).map (Value.int .u8)) :=
    own_base (own_congr hown2 (by simp [putNums, four_length]) (by simp [putNums])) (by simpa using Nat.le_trans hb1.size (Nat.le_succ _))
  have hB2 := hb1.trans ((hb1'.trans (hb2.mono (by simp))).mono hb1.size)
  have hr2 := hr.below hB2
  have hl : (four (crc zs) ++ putNum (clampN n)).length ≤ 9 := by rw [List.length_append, four_length]; omega
  clear hown1 hown2 hb1 hb2 hb1'
  go_wp2_with (at_builtin; refine wpList_append_src _ rfl _ _ 22 22 rfl w0.heap.size 5 i0 (.int .u8 0) 1 1 Tryd.underlying22 hi hz0 hz1 hz2 rfl _ _ _ rfl hown2' n (zs.map (Value.int .u8)) (Src.rd Tryd.underlying22 HX.out hr2) (by unfold maxLen; omega) (by omega) hB2.size ?_)
  intro v3 w3 hown3 hgr3
  have hown4 := frame_own HX.out hown3 (by simp) (by simp)
  have hb3 := hB2.grown hgr3 hB2.size (fun k h => (hown2'.lt k h).1)
  clear hown3 hown2' hgr3 hB2
  go_wp2
  go_ret
  exact ⟨v3, rfl, hown4, hb3⟩

end Go.Proofs.YtiahmcclmlmgpaaDoor
