/-
  Part 3 of the texts that the proof leans on.
-/
import Derived.Test.YtegonncmopecnaaGreatDoorMnd0
import Derived.Test.YtegonncmopecnaaGreatDoorMnd1
import Derived.Laws.BitsLemmas
import Derived.Maps.Range
import Derived.Deep.RegionWith
import Derived.Laws.BytesArg
import Derived.Maps.AppendAt
set_option linter.unusedVariables false
set_option linter.unusedSimpArgs false
set_option maxRecDepth 10000

namespace Go.Proofs.YtegonncmopecnaaGreatDoor
open Go.RowKit
def Cur (w : World) (g : Nat) (sv : Value) (n : Nat) : Prop :=
 ∃ i h : Int, 0 <= i /\ i <= n /\ w.heap[g]? = some (.cells #[sv, .int .i64 i, .int .i64 h] 64 (0, 0))
theorem and255_i64 (n : Int) : bits .and .i64 n 255 = n % 256 := by
 have h1 : (BitVec.ofInt 64 255).toNat = 2 ^ 8 - 1 := by decide
 have key : (BitVec.ofInt 64 n &&& BitVec.ofInt 64 255).toNat = (n % ((2 ^ 64 : Nat) : Int)).toNat % 2 ^ 8 := by
  rw [BitVec.toNat_and, BitVec.toNat_ofInt, h1, Nat.and_two_pow_sub_one_eq_mod]
 show IntKind.i64.wrap ((BitVec.ofInt 64 n &&& BitVec.ofInt 64 255).toNat : Nat) = n % 256
 rw [key, IntKind.wrap_i64]
 omega
theorem row_set {w : World} {g j : Nat} {cs : Array Value} {e : TypeId} (h : w.heap[g]? = some (.cells cs e (0, 0))) (u : Value) :
  (w.setCell ⟨g, j, none⟩ u).heap[g]? = some (.cells (cs.setIfInBounds j u) e (0, 0)) /\ w.grownBy (w.setCell ⟨g, j, none⟩ u) (some g) :=
 ⟨heap_setCell_same w g j cs e u h, ⟨rfl, rfl, rfl, by simp, fun k _ hk => heap_setCell_other w ⟨g, j, none⟩ k u (fun e => hk (by simp [e]))⟩⟩
theorem emod_byte (x : Int) : 0 <= x % 256 /\ x % 256 <= 255 := by omega
theorem grown_drewN {w w' : World} {r : Option Nat} (h : w.grownBy w' r) (d : Nat) : w.grownBy (w'.drewN d) r := ⟨h.os, h.tape, h.output, h.size, h.block⟩
theorem cur_step1 {w : World} {g n : Nat} {sv : Value} {i h : Int} (hg : w.heap[g]? = some (.cells #[sv, .int .i64 i, .int .i64 h] 64 (0, 0))) (h0 : 0 <= i) (h1 : i <= n) {h' : Int} (j k : Nat) :
  Cur (((w.setCell ⟨g, 2, none⟩ (.int .i64 h')).drewN j).drewN k) g sv n := ⟨i, h', h0, h1, (row_set (j := 2) hg _).1⟩
theorem cur_grown1 {w : World} {g : Nat} {cs : Array Value} {e : TypeId} (hg : w.heap[g]? = some (.cells cs e (0, 0))) {u : Value} (j k : Nat) :
  w.grownBy (((w.setCell ⟨g, 2, none⟩ u).drewN j).drewN k) (some g) := grown_drewN (grown_drewN (row_set (j := 2) hg u).2 j) k
theorem cur_step2 {w : World} {g n : Nat} {sv : Value} {i h : Int} (hg : w.heap[g]? = some (.cells #[sv, .int .i64 i, .int .i64 h] 64 (0, 0))) (h0 : 0 <= i) (h1 : i + 1 <= n) (h' : Int) (k : Nat) (i' : Int) (hi' : i' = i + 1) :
  Cur (((w.setCell ⟨g, 2, none⟩ (.int .i64 h')).drewN k).setCell ⟨g, 1, none⟩ (.int .i64 i')) g sv n := by
 subst hi'
 exact ⟨i + 1, h', by omega, h1, (row_set (w := (w.setCell ⟨g, 2, none⟩ (.int .i64 h')).drewN k) (j := 1) (row_set (j := 2) hg (.int .i64 h')).1 (.int .i64 (i + 1))).1⟩
theorem cur_grown2 {w : World} {g : Nat} {cs : Array Value} {e : TypeId} (hg : w.heap[g]? = some (.cells cs e (0, 0))) (u : Value) (k : Nat) (v : Value) :
  w.grownBy (((w.setCell ⟨g, 2, none⟩ u).drewN k).setCell ⟨g, 1, none⟩ v) (some g) :=
 grown_trans (grown_drewN (row_set (j := 2) hg u).2 k) (row_set (w := (w.setCell ⟨g, 2, none⟩ u).drewN k) (j := 1) (row_set (j := 2) hg u).1 v).2
set_option maxHeartbeats 800000 in
theorem l1Byte_any (g n cap B : Nat) (a : Option Addr) (zs : List Int) (w : World) (hx : zs.length = n) (hlen : n <= 140737488351232) (hr : Rd .u8 B w a zs) (hBg : B <= g) (hc : Cur w g (.slice a n cap) n) :
  Calls Tryz.prog 74 #[.pointer (some ⟨g, 0, none⟩)] w fun e w' => ∃ x : Int, e = .returned (.int .i64 x) /\ (0 <= x /\ x <= 255) /\ Cur w' g (.slice a n cap) n /\ w.grownBy w' (some g) := by
 obtain ⟨i, h, hi0, hin, hg⟩ := hc
 have HX : Hid (zs.length = n) := hx
 clear hx
 have c0 : w.cell? ⟨g, 0, none⟩ = some (.slice a n cap) := cell_of_row w g 0 _ _ _ hg
 have c1 : w.cell? ⟨g, 1, none⟩ = some (.int .i64 i) := cell_of_row w g 1 _ _ _ hg
 have c2 : w.cell? ⟨g, 2, none⟩ = some (.int .i64 h) := cell_of_row w g 2 _ _ _ hg
 have f1 : w.frozen? ⟨g, 1, none⟩ = false := frozen_of_row w g 1 _ _ hg
 have f2 : w.frozen? ⟨g, 2, none⟩ = false := frozen_of_row w g 2 _ _ hg
 by_cases hlt : i < n
 ·obtain ⟨i, rfl⟩ := Int.eq_ofNat_of_zero_le hi0
  obtain ⟨b1, o1, rfl, hB, hcc⟩ := hr i (by rw [HX.out]; omega)
  have hne : b1 ≠ g := by omega
  have hand := and255_i64
  generalize zs.getD i 0 = c at hcc
  go_enter Tryz.func74, Tryz.ntmps74
  go_wp2
  go_quiet (fail)
  go_wp2
  go_quiet (fail)
  go_wp2
  go_quiet (fail)
  go_wp2
  go_ret
  exact ⟨_, rfl, emod_byte _, cur_step2 hg hi0 (by omega) _ _ _ rfl, (cur_grown2 hg _ _ _)⟩
 ·have hand := and255_i64
  go_enter Tryz.func74, Tryz.ntmps74
  go_wp2
  go_quiet (fail)
  go_wp2
  go_quiet (fail)
  go_wp2
  go_ret
  exact ⟨_, rfl, emod_byte _, cur_step1 hg hi0 hin _ _, cur_grown1 hg _ _⟩
def CurOk (w : World) (g : Nat) : Prop :=
 ∃ a n cap B, ∃ zs : List Int, zs.length = n /\ n <= 140737488351232 /\ B <= g /\ Rd .u8 B w a zs /\ Cur w g (.slice a n cap) n /\ g < w.heap.size
theorem CurOk.lt {w : World} {g : Nat} (h : CurOk w g) : g < w.heap.size := by obtain ⟨_, _, _, _, _, _, _, _, _, _, h⟩ := h; exact h
theorem CurOk.grown {w w' : World} {g : Nat} {r : Option Nat} (h : CurOk w g) (hg : w.grownBy w' r) (hr : ∀ k, r = some k -> g < k) : CurOk w' g := by
 obtain ⟨a, n, cap, B, zs, h1, h2, h3, h4, ⟨i, q, h5, h6, h7⟩, h8⟩ := h
 refine ⟨a, n, cap, B, zs, h1, h2, h3, h4.grown hg (fun k hk => by have := hr k hk; omega), ⟨i, q, h5, h6, ?_⟩, Nat.lt_of_lt_of_le h8 hg.size⟩
 rw [hg.block g h8 (fun e => by have := hr g e.symm; omega)]
 exact h7
theorem CurOk.below {w w' : World} {g : Nat} (h : CurOk w g) (hb : Below w.heap.size w w') : CurOk w' g := by
 obtain ⟨a, n, cap, B, zs, h1, h2, h3, h4, ⟨i, q, h5, h6, h7⟩, h8⟩ := h
 refine ⟨a, n, cap, B, zs, h1, h2, h3, h4.below (hb.mono (by omega)), ⟨i, q, h5, h6, ?_⟩, Nat.lt_of_lt_of_le h8 hb.size⟩
 rw [hb.block g h8]
 exact h7
theorem CurOk.drewN {w : World} {g : Nat} (h : CurOk w g) (d : Nat) : CurOk (w.drewN d) g := h
theorem l1Byte_ok {g : Nat} {w : World} (hc : CurOk w g) :
  Calls Tryz.prog 74 #[.pointer (some ⟨g, 0, none⟩)] w fun e w' => ∃ x : Int, e = .returned (.int .i64 x) /\ (0 <= x /\ x <= 255) /\ CurOk w' g /\ w.grownBy w' (some g) := by
 obtain ⟨a, n, cap, B, zs, h1, h2, h3, h4, h5, h8⟩ := hc
 refine (l1Byte_any g n cap B a zs w h1 h2 h4 h3 h5).mono ?_
 rintro e w' ⟨x, rfl, hx, hcur, hg⟩
 exact ⟨x, rfl, hx, ⟨a, n, cap, B, zs, h1, h2, h3, h4.grown hg (fun k hk => by simp at hk; omega), hcur, Nat.lt_of_lt_of_le h8 hg.size⟩, hg⟩
theorem emod_le {a b : Int} (ha : 0 <= a) (hb : 0 < b) : a % b <= a := by
 have h1 := Int.emod_add_mul_ediv a b
 have h2 := Int.mul_nonneg (show 0 <= b by omega) (Int.ediv_nonneg ha (show 0 <= b by omega))
 omega
set_option maxHeartbeats 400000 in
theorem l1Below_ok {g : Nat} {w : World} (q : Int) (hc : CurOk w g) :
  Calls Tryz.prog 35 #[.pointer (some ⟨g, 0, none⟩), .int .i64 q] w fun e w' => ∃ x : Int, e = .returned (.int .i64 x) /\ (0 <= x /\ x < 16777216 /\ (0 < q -> x < q) /\ (q <= 0 -> x = 0)) /\ CurOk w' g /\ w.grownBy w' (some g) := by
 by_cases h0 : q <= 0
 ·go_enter Tryz.func35, Tryz.ntmps35
  go_wp2_with fail
  go_ret
  exact ⟨0, rfl, by omega, hc, World.grownBy.refl _ _⟩
 ·by_cases h1 : q <= 256
  ·go_enter Tryz.func35, Tryz.ntmps35
   go_wp2_with fail
   refine (l1Byte_ok hc).mono ?_
   rintro e w1 ⟨x, rfl, hx, hc1, hg1⟩
   have hq0 : (q == 0) = false := by simp; omega
   have hm := Int.emod_lt_of_pos x (show 0 < q by omega)
   have hm0 := Int.emod_nonneg x (show q ≠ 0 by omega)
   go_wp2_with fail
   go_ret
   exact ⟨_, rfl, by omega, hc1, hg1⟩
  ·go_enter Tryz.func35, Tryz.ntmps35
   go_wp2_with fail
   refine (l1Byte_ok hc).mono ?_
   rintro e w1 ⟨x, rfl, hx, hc1, hg1⟩
   go_wp2_with fail
   refine (l1Byte_ok hc1).mono ?_
   rintro e w2 ⟨y, rfl, hy, hc2, hg2⟩
   go_wp2_with fail
   refine (l1Byte_ok hc2).mono ?_
   rintro e w3 ⟨z, rfl, hz, hc3, hg3⟩
   have hq0 : (q == 0) = false := by simp; omega
   have hm := Int.emod_lt_of_pos (x * 65536 + y * 256 + z) (show 0 < q by omega)
   have hm0 := Int.emod_nonneg (x * 65536 + y * 256 + z) (show q ≠ 0 by omega)
   have hm1 := emod_le (a := x * 65536 + y * 256 + z) (b := q) (by omega) (by omega)
   go_wp2_with fail
   go_ret
   exact ⟨_, rfl, by omega, hc3, grown_trans hg1 (grown_trans hg2 hg3)⟩
set_option maxHeartbeats 400000 in
theorem l1Int_ok {g : Nat} {w : World} (la : Option Addr) (m cap : Nat) (ns : List Int) (hc : CurOk w g) (hm : ns.length = m) (h0 : 0 < m) (hm2 : m <= 1000000) (B : Nat) (hr : Rd .i64 B w la ns) (hne : ∀ b o, la = some ⟨b, o, none⟩ -> b ≠ g) :
  Calls Tryz.prog 42 #[.pointer (some ⟨g, 0, none⟩), .slice la m cap] w fun e w' => ∃ j : Nat, (j < m /\ e = .returned (.int .i64 (ns.getD j 0))) /\ CurOk w' g /\ w.grownBy w' (some g) := by
 have HM : Hid (ns.length = m) := hm
 clear hm
 go_enter Tryz.func42, Tryz.ntmps42
 go_wp2_with fail
 refine (l1Below_ok _ hc).mono ?_
 rintro e w1 ⟨x, rfl, hx, hc1, hg1⟩
 obtain ⟨x, rfl⟩ := Int.eq_ofNat_of_zero_le hx.1
 have hxm : x < m := by omega
 obtain ⟨b1, o1, rfl, hB, hcell⟩ := hr x (by rw [HM.out]; exact hxm)
 have hcell1 : w1.cell? ⟨b1, o1 + x, none⟩ = some (.int .i64 (ns.getD x 0)) := hg1.cell hcell (by have := hne b1 o1 rfl; simpa using this)
 generalize hv : ns.getD x 0 = v at hcell1
 have HV := Hm hv
 clear hv hcell hr hne hx
 go_wp2_with fail
 go_ret
 exact ⟨x, ⟨hxm, by rw [HV.out]; rfl⟩, hc1, hg1⟩
def Drawn (w w' : World) (v : Value) (g : Nat) (most : Nat) : Prop :=
 ∃ bs : List Int, bs.length <= most /\ BytesOk bs /\ w'.ownsRow w.heap.size 5 1 v bs.length (bs.map (Value.int .u8)) /\ CurOk w' g /\ w.grownBy w' (some g)
theorem own_not {w : World} {base e size n g : Nat} {v : Value} {xs : List Value} (h : w.ownsRow base e size v n xs) (hg : g < base) : v.ownBlock = none ∨ v.ownBlock ≠ some g := by
 cases e1 : v.ownBlock with
 | none => exact .inl rfl
 | some k =>
  right
  have := (h.lt k e1).1
  intro e2
  simp only [Option.some.injEq] at e2
  omega
set_option maxHeartbeats 400000 in
theorem l1Bytes_ok {g : Nat} {w : World} (q : Nat) (hc : CurOk w g) (hq : q <= 1000000) :
  Calls Tryz.prog 76 #[.pointer (some ⟨g, 0, none⟩), .int .i64 q] w fun e w' => ∃ v, e = .returned v /\ Drawn w w' v g q := by
 obtain ⟨i0, hi, hz0, hz1, hz2⟩ := info_parts Tryz.info5
 have hgl := hc.lt
 have hc0 : CurOk (w.alloc (.cells #[] 5)) g := hc.below (rB.alloc rN _)
 have hg0 : w.grownBy (w.alloc (.cells #[] 5)) (some g) := World.grownBy_alloc w _ _
 have ho0 : (w.alloc (.cells #[] 5)).ownsRow w.heap.size 5 1 (.slice (some ⟨w.heap.size, 0, none⟩) 0 0) 0 [] := World.ownsRow_lit w #[] 0 rN (by decide) rfl
 go_enter Tryz.func76, Tryz.ntmps76
 go_wp2_with fail
 go_loopw [5, 6] (fun o i wr => ∃ k : Nat, k <= q /\ i = .int .i64 k /\ ∃ bs : List Int, bs.length = k /\ BytesOk bs /\ wr.ownsRow w.heap.size 5 1 o k (bs.map (Value.int .u8)) /\ CurOk wr g /\ w.grownBy wr (some g)) (fun _ i _ => q - (intOf i).toNat)
 case atStart => exact ⟨0, Nat.zero_le _, rfl, [], rfl, fun z hz => (by cases hz), ho0, hc0, hg0⟩
 case round =>
  obtain ⟨k, hk, rfl, bs, hbl, hbo, hown, hck, hgk⟩ := hrel
  have HBL := Hm hbl
  clear hbl hc0 hg0 ho0 hc
  by_cases hlt : k < q
  ·go_wp2_with fail
   refine (l1Byte_ok hck).mono ?_
   rintro e w1 ⟨x, rfl, hx, hc1, hg1⟩
   have hown1 := hown.kept hg1 (own_not hown hgl)
   have hgk1 := grown_trans hgk hg1
   clear hown hck hgk hg1
   go_wp2_with (at_builtin; refine wpList_append_src _ rfl _ _ 22 22 rfl w.heap.size 5 i0 (.int .u8 0) 1 1 Tryz.underlying22 hi hz0 hz1 hz2 rfl _ _ _ rfl (hown1.alloc _) 1 [.int .u8 x] (Src.ofSlice _ Tryz.underlying22 ⟨_, 0, none⟩ 1 1 _ rfl (cell_one_new _ _ _) (oneInt _ _)) (by unfold maxLen; omega) (by omega) (by have := hgk1.size; simp; omega) ?_)
   intro v2 w2 hown2 hgr2
   have hc2 : CurOk w2 g := (hc1.below (rB.alloc rN _)).grown hgr2 (fun j hj => by have := (hown1.lt j hj).1; omega)
   have hg2 : w.grownBy w2 (some g) := (World.grownBy.andThen (World.grownBy.andThen hgk1 (World.grownBy_alloc w1 _ none) (fun j hj => by cases hj)) hgr2 (fun j hj => Or.inl (hown1.lt j hj).1))
   clear hgr2 hgk1 hown1 hc1
   go_wp2_with fail
   go_roundw
   case rel =>
    refine ⟨k + 1, by omega, by go_num, bs ++ [x], by simp [HBL.out], ?_, own_congr hown2 rfl (by simp), hc2, hg2⟩
    intro z hz
    rcases List.mem_append.1 hz with h | h
    ·exact hbo z h
    ·simp at h; omega
   case measure => simp [intOf]; omega
  ·have hkq : k = q := by omega
   subst hkq
   go_wp2_with fail
   go_ret
   exact ⟨_, rfl, bs, by rw [HBL.out]; exact rN, hbo, own_congr hown HBL.out.symm rfl, hck, hgk⟩
set_option maxRecDepth 100000 in
set_option maxHeartbeats 400000 in
theorem l1New_any (a : Option Addr) (n cap : Nat) (zs : List Int) (w : World) (hx : zs.length = n) (hlen : n <= 140737488351232) (hr : Rd .u8 w.heap.size w a zs) :
  Calls Tryz.prog 13 #[.slice a n cap] w fun e w' => e = .returned (.pointer (some ⟨w.heap.size, 0, none⟩)) /\ CurOk w' w.heap.size /\ Below w.heap.size w w' := by
 have HX : Hid (zs.length = n) := hx
 clear hx
 go_enter Tryz.func13, Tryz.ntmps13
 go_wp2
 go_loop [3, 4] (fun h i => ∃ (k : Nat) (H : Int), k <= n /\ i = .int .i64 k /\ h = .int .i64 H) (fun _ i => n - (intOf i).toNat)
 case atStart => exact ⟨0, _, Nat.zero_le _, rfl, rfl⟩
 case round =>
  obtain ⟨k, H, hk, rfl, rfl⟩ := hrel
  have fin : ∀ H : Int, CurOk (w.alloc (.cells #[.slice a n cap, .int .i64 0, .int .i64 H] 64)) w.heap.size := fun H =>
   ⟨a, n, cap, w.heap.size, zs, HX.out, hlen, rN, hr.below (rB.alloc rN _), ⟨0, H, by omega, by omega, heap_alloc_new w _⟩, by simp⟩
  by_cases hlt : k < n
  ·by_cases h4 : k < 4000
   ·obtain ⟨b1, o1, rfl, _, hc1⟩ := hr k (by rw [HX.out]; exact hlt)
    generalize zs.getD k 0 = c at hc1
    clear fin hr
    go_wp2
    go_round
    case rel => exact ⟨k + 1, _, by omega, by go_num, rfl⟩
    case measure => simp [intOf]; omega
   ·go_wp2
    go_ret
    exact ⟨rfl, fin _, rB.alloc rN _⟩
  ·go_wp2
   go_ret
   exact ⟨rfl, fin _, rB.alloc rN _⟩
theorem some_list (j : Nat) (h : j < 5) : ∃ q : Nat, ([0, 1, 2, 5, 9] : List Int).getD j 0 = (q : Int) /\ q <= 9 := by
 rcases (show j = 0 ∨ j = 1 ∨ j = 2 ∨ j = 3 ∨ j = 4 from by omega) with rfl | rfl | rfl | rfl | rfl
 ·exact ⟨0, rfl, by omega⟩
 ·exact ⟨1, rfl, by omega⟩
 ·exact ⟨2, rfl, by omega⟩
 ·exact ⟨5, rfl, by omega⟩
 ·exact ⟨9, rfl, by omega⟩
theorem rd_lit (k : IntKind) (w : World) (xs : List Int) (t : TypeId) : Rd k (w.heap.size + 1) (w.alloc (.cells (xs.map (Value.int k)).toArray t)) (some ⟨w.heap.size, 0, none⟩) xs := by
 intro j hj
 refine ⟨w.heap.size, 0, rfl, by omega, ?_⟩
 rw [Nat.zero_add, World.cell?_alloc_mark]
 simp [hj]
set_option maxHeartbeats 400000 in
theorem l1Some_ok {g : Nat} {w : World} (hc : CurOk w g) :
  Calls Tryz.prog 37 #[.pointer (some ⟨g, 0, none⟩)] w fun e w' => ∃ v, e = .returned v /\ Drawn w w' v g 9 := by
 have hgl := hc.lt
 have hc0 : CurOk (w.alloc (.cells (([0, 1, 2, 5, 9] : List Int).map (Value.int .i64)).toArray 3)) g := hc.below (rB.alloc rN _)
 have hg0 : w.grownBy (w.alloc (.cells (([0, 1, 2, 5, 9] : List Int).map (Value.int .i64)).toArray 3)) (some g) := World.grownBy_alloc w _ _
 have hrd := rd_lit .i64 w [0, 1, 2, 5, 9] 3
 go_enter Tryz.func37, Tryz.ntmps37
 go_wp2_with fail
 refine (l1Int_ok _ 5 5 [0, 1, 2, 5, 9] (by exact hc0) rfl (by omega) (by omega) _ (by exact hrd) (by intro b o h; simp at h; omega)).mono ?_
 rintro e w1 ⟨j, ⟨hj, rfl⟩, hc1, hg1⟩
 obtain ⟨q, hq, hq9⟩ := some_list j hj
 rw [hq]
 have hg01 := grown_trans hg0 hg1
 clear hq hc0 hg0 hg1 hrd
 go_wp2_with fail
 refine (l1Bytes_ok q hc1 (by omega)).mono ?_
 rintro e w2 ⟨v, rfl, bs, hbl, hbo, hown, hc2, hg2⟩
 have hfin : Drawn w w2 v g 9 := ⟨bs, by omega, hbo, own_base hown hg01.size, hc2, grown_trans hg01 hg2⟩
 clear hown hc2 hg2 hg01 hc1
 go_wp2_with fail
 go_ret
 exact ⟨v, rfl, hfin⟩
structure Turn (F : List Nat) (w w' : World) : Prop where
 os : w'.os = w.os
 tape : w'.tape = w.tape
 output : w'.output = w.output
 size : w.heap.size <= w'.heap.size
 block : ∀ b, b < w.heap.size -> b ∉ F -> w'.heap[b]? = w.heap[b]?
theorem Turn.refl (F : List Nat) (w : World) : Turn F w w := ⟨rfl, rfl, rfl, rN, fun _ _ _ => rfl⟩
theorem Turn.trans {F : List Nat} {a b c : World} (h : Turn F a b) (k : Turn F b c) : Turn F a c :=
 ⟨k.os.trans h.os, k.tape.trans h.tape, k.output.trans h.output, Nat.le_trans h.size k.size, fun i hi hF => (k.block i (Nat.lt_of_lt_of_le hi h.size) hF).trans (h.block i hi hF)⟩
theorem Turn.mono {F G : List Nat} {a b : World} (h : Turn F a b) (hF : ∀ k, k ∈ F -> k ∈ G) : Turn G a b :=
 ⟨h.os, h.tape, h.output, h.size, fun i hi hG => h.block i hi (fun hk => hG (hF i hk))⟩
theorem Turn.ofBelow {F : List Nat} {a b : World} (h : Below a.heap.size a b) : Turn F a b := ⟨h.os, h.tape, h.output, h.size, fun i hi _ => h.block i hi⟩
theorem Turn.below {F : List Nat} {B : Nat} {a b : World} (h : Turn F a b) (hF : ∀ k, k ∈ F -> B <= k) (hB : B <= a.heap.size) : Below B a b :=
 ⟨h.os, h.tape, h.output, h.size, fun i hi => h.block i (Nat.lt_of_lt_of_le hi hB) (fun hk => by have := hF i hk; omega)⟩
theorem Turn.setCell {F : List Nat} {a b : World} (h : Turn F a b) {p : Addr} (hp : p.block ∈ F) (u : Value) : Turn F a (b.setCell p u) := by
 refine h.trans ⟨?_, ?_, ?_, by simp, fun i hi hF => heap_setCell_other b p i u (fun e => hF (e ▸ hp))⟩
 all_goals
  have hb := (Below.refl 0 b).setCell (p := p) (Nat.zero_le _) u
 ·exact hb.os
 ·exact hb.tape
 ·exact hb.output
theorem Turn.ofGrown {F : List Nat} {a b : World} {r : Option Nat} (h : a.grownBy b r) (hr : ∀ k, r = some k -> k ∈ F) : Turn F a b :=
 ⟨h.os, h.tape, h.output, h.size, fun i hi hF => h.block i hi (fun e => hF (hr i e.symm))⟩
theorem Turn.cell {F : List Nat} {w w' : World} (h : Turn F w w') {p : Addr} (hp : p.block < w.heap.size) (hF : p.block ∉ F) : w'.cell? p = w.cell? p := World.cell?_of_block (w := w) (h.block p.block hp hF)
theorem below_same {w w' : World} (h : w' = w) : Below w.heap.size w w' := by subst h; exact rB
theorem bthen {w w1 w2 : World} (h : Below w.heap.size w w1) (hx : Below w1.heap.size w1 w2) : Below w.heap.size w w2 := h.trans (hx.mono h.size)
theorem Turn.after {F : List Nat} {w w1 w2 : World} (h : Below w.heap.size w w1) (hx : Turn F w1 w2) : Turn F w w2 := (Turn.ofBelow h).trans hx
theorem Turn.under {F : List Nat} {w w1 w2 : World} (h : Below w.heap.size w w1) (hx : Turn F w1 w2) (hF : ∀ k, k ∈ F -> w.heap.size <= k) : Below w.heap.size w w2 := h.trans (hx.below hF h.size)
theorem turnOwn {a b : World} {r : Option Nat} (h : a.grownBy b r) : Turn r.toList a b := Turn.ofGrown h (fun k hk => by simp [hk])
def Bx (w : World) (b : Nat) (vs : List Value) : Prop := b < w.heap.size /\ ∀ i u, vs[i]? = some u -> w.cell? ⟨b, i, none⟩ = some u
theorem Bx.new (w : World) (vs : List Value) (t : TypeId) : Bx (w.alloc (.cells vs.toArray t)) w.heap.size vs := by
 refine ⟨by simp, fun i u hu => ?_⟩
 rw [cell_of_row (w.alloc (.cells vs.toArray t)) w.heap.size i vs.toArray t (0, 0) (by show (w.heap.push _)[w.heap.size]? = _; rw [Array.getElem?_push_size])]
 simpa using hu
theorem Bx.alloc {w : World} {b : Nat} {vs : List Value} (h : Bx w b vs) (o : Obj) : Bx (w.alloc o) b vs :=
 ⟨by have := h.1; simp; omega, fun i u hu => by
  have hb := (Below.refl w.heap.size w).alloc rN o
  exact (hb.cell (p := ⟨b, i, none⟩) h.1).trans (h.2 i u hu)⟩
theorem Bx.drewN {w : World} {b : Nat} {vs : List Value} (h : Bx w b vs) (d : Nat) : Bx (w.drewN d) b vs := h
theorem Bx.drew {w : World} {b : Nat} {vs : List Value} (h : Bx w b vs) : Bx w.drew b vs := h
theorem Bx.below {B : Nat} {w w' : World} {b : Nat} {vs : List Value} (h : Bx w b vs) (hb : Below B w w') (hB : b < B) : Bx w' b vs :=
 ⟨Nat.lt_of_lt_of_le h.1 hb.size, fun i u hu => (hb.cell (p := ⟨b, i, none⟩) hB).trans (h.2 i u hu)⟩
theorem Bx.under {w w' : World} {b : Nat} {vs : List Value} (h : Bx w b vs) (hb : Below w.heap.size w w') : Bx w' b vs := h.below hb h.1
theorem Bx.turn {F : List Nat} {w w' : World} {b : Nat} {vs : List Value} (h : Bx w b vs) (ht : Turn F w w') (hF : b ∉ F) : Bx w' b vs :=
 ⟨Nat.lt_of_lt_of_le h.1 ht.size, fun i u hu => (ht.cell (p := ⟨b, i, none⟩) h.1 hF).trans (h.2 i u hu)⟩
def seg (size : Nat) (cur : Array Value) (j : Nat) : List Value := (cur.toList.drop (j * size)).take size
theorem seg_get {size : Nat} {cur : Array Value} {j i : Nat} (hi : i < size) : (seg size cur j)[i]? = cur[j * size + i]? := by
 unfold seg
 rw [List.getElem?_take, if_pos hi, List.getElem?_drop]
 simp
theorem seg_set {size : Nat} {cur : Array Value} {k i : Nat} (hi : i < size) (u : Value) : seg size (cur.setIfInBounds (k * size + i) u) k = (seg size cur k).set i u := by
 unfold seg
 rw [Array.toList_setIfInBounds]
 apply List.ext_getElem?
 intro j
 simp only [List.getElem?_take, List.getElem?_drop, List.getElem?_set, List.length_take, List.length_drop]
 by_cases hj : j < size
 ·by_cases hij : i = j
  ·subst hij
   by_cases hb : k * size + i < cur.toList.length
   ·have hb' : i < min size (cur.toList.length - k * size) := by omega
    rw [if_pos hj, if_pos rfl, if_pos rfl, if_pos hb, if_pos hb']
   ·have hb' : ¬ i < min size (cur.toList.length - k * size) := by omega
    rw [if_pos hj, if_pos rfl, if_pos rfl, if_neg hb, if_neg hb']
  ·rw [if_pos hj, if_neg (by omega), if_neg hij, if_pos hj]
 ·rw [if_neg hj, if_neg hj]
  split
  ·split
   ·omega
   ·rfl
  ·rfl
theorem seg_set_other {size : Nat} {cur : Array Value} {k i j : Nat} (hi : i < size) (hjk : j ≠ k) (u : Value) : seg size (cur.setIfInBounds (k * size + i) u) j = seg size cur j := by
 unfold seg
 rw [Array.toList_setIfInBounds]
 apply List.ext_getElem?
 intro x
 simp only [List.getElem?_take, List.getElem?_drop, List.getElem?_set]
 by_cases hx : x < size
 ·rw [if_pos hx, if_pos hx, if_neg]
  intro h
  rcases Nat.lt_or_gt_of_ne hjk with h1 | h1
  ·have := Nat.mul_le_mul_right size h1
   rw [Nat.succ_mul] at this
   omega
  ·have := Nat.mul_le_mul_right size h1
   rw [Nat.succ_mul] at this
   omega
 ·rw [if_neg hx, if_neg hx]
structure OwnRow {α : Type} (size : Nat) (e : TypeId) (O : ORep α) (w : World) (g cap : Nat) (l : List α) (cur : Array Value) (Fs : List (List Nat)) : Prop where
 heap : w.heap[g]? = some (.cells cur e (0, 0))
 le : l.length <= cap
 max : cap <= maxLen
 fit : cur.size = cap * size
 flen : Fs.length = l.length
 each : ∀ j, (h : j < l.length) -> O w (seg size cur j) l[j] (Fs.getD j [])
 nodup : (g :: Fs.flatten).Nodup
theorem ownS.open {α : Type} {size : Nat} {e : TypeId} {O : ORep α} {w : World} {v : Value} {l : List α} {F : List Nat} (h : ownS size e O w v l F) (hN : F.Nodup) :
  (v = .slice none 0 0 /\ l = [] /\ F = []) ∨ ∃ g cap cur Fs, v = .slice (some ⟨g, 0, none⟩) l.length cap /\ OwnRow size e O w g cap l cur Fs /\ F = g :: Fs.flatten := by
 rcases h with h | ⟨g, cap, cur, Fs, h1, h2, h3, h4, h5, h6, h7, rfl⟩
 ·exact .inl h
 ·exact .inr ⟨g, cap, cur, Fs, h1, ⟨h2, h3, h4, h5, h6, h7, hN⟩, rfl⟩
theorem OwnRow.lt {α : Type} {size : Nat} {e : TypeId} {O : ORep α} {w : World} {g cap : Nat} {l : List α} {cur : Array Value} {Fs : List (List Nat)} (h : OwnRow size e O w g cap l cur Fs) : g < w.heap.size := (Array.getElem?_eq_some_iff.1 h.heap).1
structure Edit (size : Nat) (e : TypeId) (g k : Nat) (F : List Nat) (cur : Array Value) (w w' : World) (cs : List Value) : Prop where
 row : ∃ cur' : Array Value, w'.heap[g]? = some (.cells cur' e (0, 0)) /\ cur'.size = cur.size /\ (∀ j, j ≠ k -> seg size cur' j = seg size cur j) /\ seg size cur' k = cs
 turn : Turn (g :: F) w w'
theorem Edit.start {α : Type} {size : Nat} {e : TypeId} {O : ORep α} {w : World} {g cap : Nat} {l : List α} {cur : Array Value} {Fs : List (List Nat)} (h : OwnRow size e O w g cap l cur Fs) (k : Nat) (F : List Nat) : Edit size e g k F cur w w (seg size cur k) :=
 ⟨⟨cur, h.heap, rfl, fun _ _ => rfl, rfl⟩, Turn.refl _ _⟩
theorem Edit.set {size : Nat} {e : TypeId} {g k : Nat} {F : List Nat} {cur : Array Value} {w w' : World} {cs : List Value} (h : Edit size e g k F cur w w' cs) {i : Nat} (hi : i < size) (u : Value) :
  Edit size e g k F cur w (w'.setCell ⟨g, k * size + i, none⟩ u) (cs.set i u) := by
 obtain ⟨⟨cur', c1, c2, c3, c4⟩, ht⟩ := h
 refine ⟨⟨_, heap_setCell_same w' g _ cur' e u c1, by simpa using c2, fun j hj => ?_, ?_⟩, ht.setCell (by simp) u⟩
 ·rw [seg_set_other hi hj]; exact c3 j hj
 ·rw [seg_set hi, c4]
theorem Edit.keep {size : Nat} {e : TypeId} {g k : Nat} {F : List Nat} {cur : Array Value} {w w1 w2 : World} {cs : List Value} (h : Edit size e g k F cur w w1 cs) (ht : Turn F w1 w2) (hg : g ∉ F) :
  Edit size e g k F cur w w2 cs := by
 obtain ⟨⟨cur', c1, c2, c3, c4⟩, ht'⟩ := h
 exact ⟨⟨cur', by rw [ht.block g (Array.getElem?_eq_some_iff.1 c1).1 hg]; exact c1, c2, c3, c4⟩, ht'.trans (ht.mono (fun k hk => List.mem_cons_of_mem _ hk))⟩
theorem Edit.cellAt {size : Nat} {e : TypeId} {g k : Nat} {F : List Nat} {cur : Array Value} {w w' : World} {cs : List Value} (h : Edit size e g k F cur w w' cs) {i : Nat} (hi : i < size) {u : Value} (hu : cs[i]? = some u) :
  w'.cell? ⟨g, k * size + i, none⟩ = some u := by
 obtain ⟨⟨cur', c1, c2, c3, c4⟩, _⟩ := h
 rw [cell_of_row w' g _ cur' e (0, 0) c1, <- seg_get hi, c4, hu]
theorem Edit.free {size : Nat} {e : TypeId} {g k : Nat} {F : List Nat} {cur : Array Value} {w w' : World} {cs : List Value} (h : Edit size e g k F cur w w' cs) (j : Nat) :
  w'.frozen? ⟨g, j, none⟩ = false := by
 obtain ⟨⟨cur', c1, c2, c3, c4⟩, _⟩ := h
 exact frozen_of_row w' g j cur' e c1
theorem flatten_at {size : Nat} : ∀ {css : List (List Value)}, (∀ c, c ∈ css -> c.length = size) -> ∀ {j i : Nat}, i < size -> css.flatten[j * size + i]? = (css[j]?).bind (fun c => c[i]?)
 | [], _, j, i, _ => by simp
 | c :: r, h, 0, i, hi => by
  have hc := h c (by simp)
  simp only [List.flatten_cons, Nat.zero_mul, Nat.zero_add, List.getElem?_cons_zero, Option.bind_some]
  rw [List.getElem?_append_left (by omega)]
 | c :: r, h, j + 1, i, hi => by
  have hc := h c (by simp)
  have ih := flatten_at (css := r) (fun x hx => h x (by simp [hx])) (j := j) hi
  simp only [List.flatten_cons, List.getElem?_cons_succ]
  rw [List.getElem?_append_right (by rw [Nat.succ_mul]; omega), <- ih]
  congr 1
  rw [Nat.succ_mul]
  omega
def RowR {α : Type} (size : Nat) (e : TypeId) (R : Rep α) (B : Nat) (w : World) (base : Nat) (v : Value) (l : List α) : Prop :=
 ∃ css : List (List Value), css.length = l.length /\ (∀ c, c ∈ css -> c.length = size) /\ (∀ j, (h : j < l.length) -> (h2 : j < css.length) -> R B w css[j] l[j]) /\ w.ownsRow base e size v l.length css.flatten
theorem RowR.start {α : Type} {size : Nat} {e : TypeId} {R : Rep α} {B : Nat} {w : World} {base : Nat} : RowR size e R B w base (.slice none 0 0) [] :=
 ⟨[], rfl, (fun _ h => by cases h), (fun _ h => by simp at h), by simp, .inl ⟨rfl, rfl⟩⟩
theorem RowR.leaf {α : Type} {size : Nat} {e : TypeId} {R : Rep α} (hR : R.Good) {B : Nat} {w : World} {base : Nat} {v : Value} {l : List α} (h : RowR size e R B w base v l) (hB : B <= w.heap.size) :
  ∃ a c, v = .slice a l.length c /\ LeafL size R w.heap.size w a c l := by
 obtain ⟨css, h1, h2, h3, h4⟩ := h
 rcases h4.2 with ⟨rfl, h0⟩ | ⟨g, cap, cur, rfl, hb, hg, hnc, hm, hs, ht⟩
 ·have : l = [] := List.eq_nil_of_length_eq_zero h0
  subst this
  exact ⟨none, 0, rfl, by simp, by omega, fun j hj => by simp at hj⟩
 ·refine ⟨_, cap, rfl, hnc, by simpa [maxLen] using hm, fun j hj => ?_⟩
  have hj2 : j < css.length := by omega
  refine ⟨g, 0, rfl, (Array.getElem?_eq_some_iff.1 hg).1, css[j], h2 _ (List.getElem_mem hj2), fun i u hu => ?_, hR.mono (h3 j hj hj2) hB⟩
  have hi : i < size := by
   have := (List.getElem?_eq_some_iff.1 hu).1
   rw [h2 _ (List.getElem_mem hj2)] at this
   exact this
  have hf := flatten_at h2 (j := j) hi
  rw [List.getElem?_eq_getElem hj2, Option.bind_some, hu, <- ht, List.getElem?_take] at hf
  split at hf
  ·rw [Nat.zero_add, cell_of_row w g _ cur e (0, 0) hg]
   simpa using hf
  ·cases hf
theorem RowR.push {α : Type} {size : Nat} {e : TypeId} {R : Rep α} (hR : R.Good) {B : Nat} {w w' : World} {base : Nat} {v' : Value} {l : List α} {m : α} {cs : List Value} {css : List (List Value)}
  (h1 : css.length = l.length) (h2 : ∀ c, c ∈ css -> c.length = size) (h3 : ∀ j, (h : j < l.length) -> (h2 : j < css.length) -> R B w css[j] l[j]) (hb : Below B w w') (hc : cs.length = size) (hr : R B w' cs m)
  (ho : w'.ownsRow base e size v' (l.length + 1) (css.flatten ++ cs)) : RowR size e R B w' base v' (l ++ [m]) := by
 refine ⟨css ++ [cs], by simp [h1], ?_, ?_, by simpa using ho⟩
 ·intro c hcm
  rcases List.mem_append.1 hcm with h | h
  ·exact h2 c h
  ·simp at h; subst h; exact hc
 ·intro j hj hj2
  by_cases hjl : j < l.length
  ·rw [List.getElem_append_left (by omega), List.getElem_append_left hjl]
   exact hR.below (h3 j hjl (by omega)) hb
  ·have hje : j = l.length := by simp at hj; omega
   subst hje
   rw [List.getElem_append_right (by omega), List.getElem_append_right rN]
   simp [h1, hr]
theorem bx_news {w : World} {b : Nat} {vs : List Value} (h : Bx w b vs) : ∀ j u, vs[j]? = some u -> w.cell? ((⟨b, 0, none⟩ : Addr).add j) = some u := by
 intro j u hu
 have h2 := h.2 j u hu
 have e : ((⟨b, 0, none⟩ : Addr).add j) = ⟨b, j, none⟩ := by
  unfold Addr.add
  split
  ·next h0 => subst h0; rfl
  ·simp
 rw [e]
 exact h2
theorem RowR.lt {α : Type} {size : Nat} {e : TypeId} {R : Rep α} {B : Nat} {w : World} {base : Nat} {v : Value} {l : List α} (h : RowR size e R B w base v l) : ∀ k, v.ownBlock = some k -> base <= k /\ k < w.heap.size := by
 obtain ⟨css, h1, h2, h3, h4⟩ := h
 exact fun k hk => h4.lt k hk
theorem RowR.base {α : Type} {size : Nat} {e : TypeId} {R : Rep α} {B : Nat} {w : World} {base base' : Nat} {v : Value} {l : List α} (h : RowR size e R B w base v l) (hb : base' <= base) : RowR size e R B w base' v l := by
 obtain ⟨css, h1, h2, h3, h4⟩ := h
 exact ⟨css, h1, h2, h3, own_base h4 hb⟩
theorem RowR.keep {α : Type} {size : Nat} {e : TypeId} {R : Rep α} (hR : R.Good) {B : Nat} {w w' : World} {base : Nat} {v : Value} {l : List α} (h : RowR size e R B w base v l) (hb : Below w.heap.size w w') (hB : B <= w.heap.size) : RowR size e R B w' base v l := by
 obtain ⟨css, h1, h2, h3, h4⟩ := h
 exact ⟨css, h1, h2, fun j hj hj2 => hR.below (h3 j hj hj2) (hb.mono hB), own_below h4 hb⟩
theorem flatten_nodup_iff : ∀ {Fs : List (List Nat)}, Fs.flatten.Nodup ↔ (∀ F, F ∈ Fs -> F.Nodup) /\ Fs.Pairwise (fun F G => ∀ x, x ∈ F -> x ∉ G)
 | [] => by simp
 | F :: r => by
  rw [List.flatten_cons, List.nodup_append, flatten_nodup_iff, List.pairwise_cons]
  constructor
  ·rintro ⟨h1, ⟨h2, h3⟩, h4⟩
   refine ⟨?_, fun G hG x hx hxG => h4 x hx x (List.mem_flatten.2 ⟨G, hG, hxG⟩) rfl, h3⟩
   intro G hG
   rcases List.mem_cons.1 hG with rfl | hG
   ·exact h1
   ·exact h2 G hG
  ·rintro ⟨h1, h2, h3⟩
   refine ⟨h1 F (by simp), ⟨fun G hG => h1 G (by simp [hG]), h3⟩, ?_⟩
   intro x hx y hy hxy
   subst hxy
   obtain ⟨G, hG, hxG⟩ := List.mem_flatten.1 hy
   exact h2 G hG x hx hxG
theorem set_nodup {Fs : List (List Nat)} {k : Nat} {G Fn : List Nat} (hk : k < Fs.length) (h : Fs.flatten.Nodup) (hG : G.Nodup) (hsub : ∀ b, b ∈ G -> b ∈ Fs.getD k [] ∨ b ∈ Fn) (hnew : ∀ b, b ∈ Fn -> b ∉ Fs.flatten) :
  (Fs.set k G).flatten.Nodup /\ ∀ b, b ∈ (Fs.set k G).flatten -> b ∈ Fs.flatten ∨ b ∈ Fn := by
 have hgd : Fs.getD k [] = Fs[k] := by rw [List.getD_eq_getElem?_getD, List.getElem?_eq_getElem hk]; rfl
 rw [hgd] at hsub
 rw [flatten_nodup_iff] at h
 have hp := List.pairwise_iff_getElem.1 h.2
 refine ⟨flatten_nodup_iff.2 ⟨?_, ?_⟩, ?_⟩
 ·intro F hF
  obtain ⟨i, hi, rfl⟩ := List.mem_iff_getElem.1 hF
  rw [List.getElem_set]
  split
  ·exact hG
  ·exact h.1 _ (List.getElem_mem _)
 ·rw [List.pairwise_iff_getElem]
  intro i j hi hj hij x hx hxj
  simp only [List.length_set] at hi hj
  rw [List.getElem_set] at hx hxj
  split at hx
  ·next hik =>
   subst hik
   rw [if_neg (by omega)] at hxj
   rcases hsub x hx with h1 | h1
   ·exact hp k j hk hj hij x h1 hxj
   ·exact hnew x h1 (List.mem_flatten.2 ⟨_, List.getElem_mem hj, hxj⟩)
  ·split at hxj
   ·next hjk =>
    subst hjk
    rcases hsub x hxj with h1 | h1
    ·exact hp i k hi hk hij x hx h1
    ·exact hnew x h1 (List.mem_flatten.2 ⟨_, List.getElem_mem hi, hx⟩)
   ·exact hp i j hi hj hij x hx hxj
 ·intro b hb
  obtain ⟨F, hF, hbF⟩ := List.mem_flatten.1 hb
  obtain ⟨i, hi, rfl⟩ := List.mem_iff_getElem.1 hF
  rw [List.getElem_set] at hbF
  split at hbF
  ·rcases hsub b hbF with h1 | h1
   ·exact .inl (List.mem_flatten.2 ⟨_, List.getElem_mem hk, h1⟩)
   ·exact .inr h1
  ·exact .inl (List.mem_flatten.2 ⟨_, List.getElem_mem _, hbF⟩)
theorem ownS.shape {α : Type} {size : Nat} {e : TypeId} {O : ORep α} {w : World} {v : Value} {l : List α} {F : List Nat} (h : ownS size e O w v l F) (hl : 0 < l.length) :
  ∃ g cap, v = .slice (some ⟨g, 0, none⟩) l.length cap /\ g ∈ F /\ g < w.heap.size := by
 rcases h with ⟨_, rfl, _⟩ | ⟨g, cap, cur, Fs, h1, h2, h3, h4, h5, h6, h7, rfl⟩
 ·simp at hl
 ·exact ⟨g, cap, h1, by simp, (Array.getElem?_eq_some_iff.1 h2).1⟩
theorem ownS.cellPut {α : Type} {size : Nat} {e : TypeId} {O : ORep α} {R : Rep α} (hO : O.Good R size) {w : World} {g cap : Nat} {l : List α} {F : List Nat} (h : ownS size e O w (.slice (some ⟨g, 0, none⟩) l.length cap) l F) (hN : F.Nodup)
  {k i : Nat} (hk : k < l.length) (hi : i < size) (u : Value) (m' : α) (Fn : List Nat) (hFn : ∀ b, b ∈ Fn -> b ∉ F)
  (hm : ∀ cs Fk, O w cs l[k] Fk -> Fk.Nodup -> ∃ G, O w (cs.set i u) m' G /\ G.Nodup /\ ∀ b, b ∈ G -> b ∈ Fk ∨ b ∈ Fn) :
  ∃ F', ownS size e O (w.setCell ⟨g, k * size + i, none⟩ u) (.slice (some ⟨g, 0, none⟩) l.length cap) (l.set k m') F' /\ F'.Nodup /\ (∀ b, b ∈ F' -> b ∈ F ∨ b ∈ Fn) /\ g ∈ F := by
 rcases h with ⟨h0, _, _⟩ | ⟨g', cap', cur, Fs, h1, h2, h3, h4, h5, h6, h7, rfl⟩
 ·cases h0
 ·simp only [Value.slice.injEq, Option.some.injEq, Addr.mk.injEq, and_true, true_and] at h1
  obtain ⟨rfl, rfl⟩ := h1
  rw [List.nodup_cons] at hN
  have hkF : k < Fs.length := by omega
  have hgk : Fs.getD k [] = Fs[k] := by rw [List.getD_eq_getElem?_getD, List.getElem?_eq_getElem hkF]; rfl
  have hnk : (Fs.getD k []).Nodup := by rw [hgk]; exact (flatten_nodup_iff.1 hN.2).1 _ (List.getElem_mem hkF)
  obtain ⟨G, g1, g2, g3⟩ := hm _ _ (h7 k hk) hnk
  have hFn' : ∀ b, b ∈ Fn -> b ∉ Fs.flatten := fun b hb hb2 => hFn b hb (List.mem_cons_of_mem _ hb2)
  obtain ⟨n1, n2⟩ := set_nodup hkF hN.2 g2 g3 hFn'
  have hgF : g ∉ (Fs.set k G).flatten := by
   intro hg
   rcases n2 g hg with hg | hg
   ·exact hN.1 hg
   ·exact hFn g hg (by simp)
  have hs := heap_setCell_same w g (k * size + i) cur e u h2
  refine ⟨g :: (Fs.set k G).flatten, .inr ⟨g, cap, cur.setIfInBounds (k * size + i) u, Fs.set k G, by simp, hs, by simpa using h3, h4, by simpa using h5, by simp [h6], ?_, rfl⟩, List.nodup_cons.2 ⟨hgF, n1⟩, ?_, by simp⟩
  ·intro j hj
   have hj' : j < l.length := by simpa using hj
   have hfr : ∀ b, b ∈ (Fs.set k G).getD j [] -> (w.setCell ⟨g, k * size + i, none⟩ u).heap[b]? = w.heap[b]? := by
    intro b hb
    have hbf : b ∈ (Fs.set k G).flatten := mem_flatten_getD (by simp; omega) hb
    exact heap_setCell_other w ⟨g, k * size + i, none⟩ b u (fun hh => hgF (by have : b = g := hh; rw [<- this]; exact hbf))
   have hlen : cur.toList.length = cap * size := by simpa using h5
   by_cases hjk : j = k
   ·subst hjk
    have e1 : ((cur.setIfInBounds (j * size + i) u).toList.drop (j * size)).take size = ((cur.toList.drop (j * size)).take size).set i u := by
     rw [Array.toList_setIfInBounds]
     apply List.ext_getElem?
     intro x
     rw [List.getElem?_take, List.getElem?_drop, List.getElem?_set, List.getElem?_set, List.getElem?_take, List.getElem?_drop]
     by_cases hx : x < size
     ·rw [if_pos hx, if_pos hx]
      by_cases hxi : i = x
      ·subst hxi
       have hmul : (j + 1) * size <= cap * size := Nat.mul_le_mul_right _ (by omega)
       rw [Nat.succ_mul] at hmul
       rw [if_pos rfl, if_pos rfl, if_pos (by omega), if_pos (by simp; omega)]
      ·rw [if_neg (by omega), if_neg hxi]
     ·rw [if_neg hx, if_neg (by omega), if_neg hx]
    have e2 : (Fs.set j G).getD j [] = G := by rw [List.getD_eq_getElem?_getD, List.getElem?_set_self (by omega)]; rfl
    rw [List.getElem_set_self, e1]
    rw [e2] at hfr ⊢
    exact hO.frame g1 hfr
   ·have e1 : ((cur.setIfInBounds (k * size + i) u).toList.drop (j * size)).take size = (cur.toList.drop (j * size)).take size := by
     rw [Array.toList_setIfInBounds]
     apply List.ext_getElem?
     intro x
     rw [List.getElem?_take, List.getElem?_drop, List.getElem?_set, List.getElem?_take, List.getElem?_drop]
     by_cases hx : x < size
     ·rw [if_pos hx, if_pos hx]
      have : k * size + i ≠ j * size + x := by
       intro hh
       rcases Nat.lt_or_gt_of_ne hjk with hlt | hlt
       ·have hmul : (j + 1) * size <= k * size := Nat.mul_le_mul_right _ hlt
        rw [Nat.succ_mul] at hmul; omega
       ·have hmul : (k + 1) * size <= j * size := Nat.mul_le_mul_right _ hlt
        rw [Nat.succ_mul] at hmul; omega
      rw [if_neg this]
     ·rw [if_neg hx, if_neg hx]
    have e2 : (Fs.set k G).getD j [] = Fs.getD j [] := by rw [List.getD_eq_getElem?_getD, List.getD_eq_getElem?_getD, List.getElem?_set_ne (Ne.symm hjk)]
    rw [List.getElem_set_ne (Ne.symm hjk), e1]
    rw [e2] at hfr ⊢
    exact hO.frame (h7 j hj') hfr
  ·intro b hb
   rcases List.mem_cons.1 hb with rfl | hb
   ·exact .inl (by simp)
   ·rcases n2 b hb with h | h
    ·exact .inl (List.mem_cons_of_mem _ h)
    ·exact .inr h
theorem ownS.cells {α : Type} {size : Nat} {e : TypeId} {O : ORep α} {R : Rep α} (hO : O.Good R size) {w : World} {g cap : Nat} {l : List α} {F : List Nat} (h : ownS size e O w (.slice (some ⟨g, 0, none⟩) l.length cap) l F) {k : Nat} (hk : k < l.length) :
  ∃ cs Fk, O w cs l[k] Fk /\ (∀ b, b ∈ Fk -> b ∈ F) /\ (F.Nodup -> Fk.Nodup) /\ (∀ i u, cs[i]? = some u -> w.cell? ⟨g, k * size + i, none⟩ = some u) /\ ∀ i, w.frozen? ⟨g, i, none⟩ = false := by
 rcases h with ⟨h0, _, _⟩ | ⟨g', cap', cur, Fs, h1, h2, h3, h4, h5, h6, h7, rfl⟩
 ·cases h0
 ·simp only [Value.slice.injEq, Option.some.injEq, Addr.mk.injEq, and_true, true_and] at h1
  obtain ⟨rfl, rfl⟩ := h1
  have hkF : k < Fs.length := by omega
  have hgk : Fs.getD k [] = Fs[k] := by rw [List.getD_eq_getElem?_getD, List.getElem?_eq_getElem hkF]; rfl
  refine ⟨_, _, h7 k hk, fun b hb => List.mem_cons_of_mem _ (mem_flatten_getD hkF hb), fun hN => ?_, fun i u hu => ?_, fun i => frozen_of_row w g i cur e h2⟩
  ·rw [hgk]
   exact (flatten_nodup_iff.1 (List.nodup_cons.1 hN).2).1 _ (List.getElem_mem hkF)
  ·rw [cell_of_row w g _ cur e (0, 0) h2]
   rw [List.getElem?_take] at hu
   split at hu
   ·rw [List.getElem?_drop] at hu
    simpa using hu
   ·cases hu
end Go.Proofs.YtegonncmopecnaaGreatDoor
