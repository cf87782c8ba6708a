/-
  Part 20 of the texts that the proof leans on.
-/
import Derived.Test.YtolciaheoanlbaaGreatDoorPack18
import Derived.Test.YtolciaheoanlbaaGreatDoorPack0
import Derived.Test.YtolciaheoanlbaaGreatDoorPack3

/-
  Unframe, the specification's and the program's: both answer what 'unframe' says.
-/
namespace Go.Proofs.YtolciaheoanlbaaGreatDoor
open Go.RowKit
set_option maxRecDepth 10000
def rd4 (zs : List Int) (p : Nat) : Int := zs.getD p 0 * 16777216 + zs.getD (p + 1) 0 * 65536 + zs.getD (p + 2) 0 * 256 + zs.getD (p + 3) 0
theorem rd4_bd {zs : List Int} (hb : BytesOk zs) (p : Nat) : 0 ≤ rd4 zs p ∧ rd4 zs p < 4294967296 := by
 have h0 := hb.getD p
 have h1 := hb.getD (p + 1)
 have h2 := hb.getD (p + 2)
 have h3 := hb.getD (p + 3)
 unfold rd4
 omega
def unframe (zs : List Int) (p : Int) : List Int × Int × Bool :=
 if p < 0 ∨ (zs.length : Int) - 4 < p then ([], p, false)
 else if (getText zs (p + 4)).2.2 = true ∧ crc (getText zs (p + 4)).1 = rd4 zs p.toNat then ((getText zs (p + 4)).1, (getText zs (p + 4)).2.1, true) else ([], p, false)
theorem unframe_out {zs : List Int} {p : Int} (h : p < 0 ∨ (zs.length : Int) - 4 < p) : unframe zs p = ([], p, false) := by unfold unframe; rw [if_pos h]
theorem unframe_no {zs : List Int} {p : Nat} (h : p + 4 ≤ zs.length) (ht : getText zs ((p : Int) + 4) = ([], 0, false)) : unframe zs p = ([], (p : Int), false) := by
 unfold unframe; rw [if_neg (by omega), ht, if_neg (by simp)]
theorem unframe_sum {zs : List Int} {p : Nat} {b : List Int} {q : Int} (h : p + 4 ≤ zs.length) (ht : getText zs ((p : Int) + 4) = (b, q, true)) (hc : ¬ crc b = rd4 zs p) : unframe zs p = ([], (p : Int), false) := by
 unfold unframe; rw [if_neg (by omega), ht, if_neg (by simp [hc])]
theorem unframe_yes {zs : List Int} {p : Nat} {b : List Int} {q : Int} (h : p + 4 ≤ zs.length) (ht : getText zs ((p : Int) + 4) = (b, q, true)) (hc : crc b = rd4 zs p) : unframe zs p = (b, q, true) := by
 unfold unframe; rw [if_neg (by omega), ht, if_pos (by simp [hc])]
theorem or24 {a b : Int} (h0 : 0 ≤ a) (h1 : a ≤ 255) (h2 : 0 ≤ b) (h3 : b ≤ 255) : bits .or .i64 (a * 16777216) (b * 65536) = a * 16777216 + b * 65536 :=
 bits_join .i64 63 (by decide) wraps_i64 24 _ _ (by omega) (by omega) (by omega) (by omega) (by omega) (by omega)
theorem or16 {x c : Int} (h0 : 0 ≤ x) (h1 : x < 4294967296) (hm : x % 65536 = 0) (h2 : 0 ≤ c) (h3 : c ≤ 255) : bits .or .i64 x (c * 256) = x + c * 256 :=
 bits_join .i64 63 (by decide) wraps_i64 16 _ _ (by omega) (by omega) (by omega) (by omega) (by omega) (by omega)
theorem or8 {x c : Int} (h0 : 0 ≤ x) (h1 : x < 4294967296) (hm : x % 256 = 0) (h2 : 0 ≤ c) (h3 : c ≤ 255) : bits .or .i64 x c = x + c :=
 bits_join .i64 63 (by decide) wraps_i64 8 _ _ (by omega) (by omega) (by omega) (by omega) (by omega) (by omega)
theorem Rd.sub {k : IntKind} {B : Nat} {w : World} {b o f m : Nat} {zs : List Int} (h : Rd k B w (some ⟨b, o, none⟩) zs) (hf : f + m ≤ zs.length) : Rd k B w (some ⟨b, o + f, none⟩) ((zs.drop f).take m) := by
 intro j hj
 rw [take_drop_length hf] at hj
 obtain ⟨b', o', e, hB, hc⟩ := h (f + j) (by omega)
 simp only [Option.some.injEq, Addr.mk.injEq, and_true] at e
 obtain ⟨rfl, rfl⟩ := e
 exact ⟨b, o + f, rfl, hB, by rw [take_drop_getD hj, Nat.add_assoc]; exact hc⟩
theorem Rd.nil {k : IntKind} {B : Nat} {w : World} {a : Option Addr} : Rd k B w a [] := fun j hj => by simp at hj
set_option maxHeartbeats 400000 in
theorem fourAt_no (a : Option Addr) (n cap : Nat) (p : Int) (w : World) (h : p < 0 ∨ (n : Int) - 4 < p) (hlen : n ≤ 140737488351232) :
  Calls Tryz.prog 124 #[.slice a n cap, .int .i64 p] w fun e w' => e = .returned (.tuple #[.int .i64 0, .bool false]) ∧ w' = w := by
 by_cases h0 : p < 0
 ·clear h
  go_enter Tryz.func124, Tryz.ntmps124
  go_wp2
  go_ret2
  exact ⟨rfl, rfl⟩
 ·have h1 : (n : Int) - 4 < p := by omega
  clear h
  go_enter Tryz.func124, Tryz.ntmps124
  go_wp2
  go_ret2
  exact ⟨rfl, rfl⟩
set_option maxHeartbeats 400000 in
theorem fourAt_yes (a : Option Addr) (n cap p : Nat) (zs : List Int) (w : World) (B : Nat) (hx : zs.length = n) (h : p + 4 ≤ n) (hlen : n ≤ 140737488351232) (hb : BytesOk zs) (hr : Rd .u8 B w a zs) :
  Calls Tryz.prog 124 #[.slice a n cap, .int .i64 p] w fun e w' => e = .returned (.tuple #[.int .i64 (rd4 zs p), .bool true]) ∧ ∃ d, w' = w.drewN d := by
 have HX : Hid (zs.length = n) := hx
 clear hx
 obtain ⟨b1, o1, rfl, _, hc0⟩ := hr p (by rw [HX.out]; omega)
 have hcell : ∀ j, j < n → w.cell? ⟨b1, o1 + j, none⟩ = some (.int .u8 (zs.getD j 0)) := fun j hj => by
  obtain ⟨b', o', e, _, hc⟩ := hr j (by rw [HX.out]; omega)
  simp only [Option.some.injEq, Addr.mk.injEq, and_true] at e
  obtain ⟨rfl, rfl⟩ := e
  exact hc
 have hc1 := hcell (p + 1) (by omega)
 have hc2 := hcell (p + 2) (by omega)
 have hc3 := hcell (p + 3) (by omega)
 have g0 := hb.getD p
 have g1 := hb.getD (p + 1)
 have g2 := hb.getD (p + 2)
 have g3 := hb.getD (p + 3)
 have HR : Hid (rd4 zs p = zs.getD p 0 * 16777216 + zs.getD (p + 1) 0 * 65536 + zs.getD (p + 2) 0 * 256 + zs.getD (p + 3) 0) := rfl
 generalize zs.getD p 0 = c0 at hc0 g0 HR
 generalize zs.getD (p + 1) 0 = c1 at hc1 g1 HR
 generalize zs.getD (p + 2) 0 = c2 at hc2 g2 HR
 generalize zs.getD (p + 3) 0 = c3 at hc3 g3 HR
 have r1 := or24 g0.1 g0.2 g1.1 g1.2
 have r2 := or16 (x := c0 * 16777216 + c1 * 65536) (c := c2) (by omega) (by omega) (by omega) g2.1 g2.2
 have r3 := or8 (x := c0 * 16777216 + c1 * 65536 + c2 * 256) (c := c3) (by omega) (by omega) (by omega) g3.1 g3.2
 clear hcell hr hb
 go_enter Tryz.func124, Tryz.ntmps124
 go_wp2
 go_quiet (fail)
 go_wp2
 go_ret2
 exact ⟨by rw [HR.out]; rfl, _, rfl⟩
def rdN (zs : List Int) : Int := zs.foldl (fun n c => n * 256 + c) 0
theorem rdN_snoc (l : List Int) (c : Int) : rdN (l ++ [c]) = rdN l * 256 + c := by simp [rdN]
theorem rdN_bd {zs : List Int} (hb : BytesOk zs) (k : Nat) (hk : k ≤ 4) : 0 ≤ rdN (zs.take k) ∧ rdN (zs.take k) < 4294967296 ∧ (k < 4 → rdN (zs.take k) < 16777216) := by
 have step : ∀ j, 0 ≤ rdN (zs.take j) → (rdN (zs.take (j + 1)) = rdN (zs.take j) ∨ ∃ c, 0 ≤ c ∧ c ≤ 255 ∧ rdN (zs.take (j + 1)) = rdN (zs.take j) * 256 + c) := by
  intro j _
  by_cases hj : j < zs.length
  ·right
   refine ⟨zs.getD j 0, (hb.getD j).1, (hb.getD j).2, ?_⟩
   rw [← rdN_snoc]
   congr 1
   rw [List.take_succ_eq_append_getElem hj, List.getD_eq_getElem?_getD, List.getElem?_eq_getElem hj]
   rfl
  ·left
   rw [List.take_of_length_le (by omega), List.take_of_length_le (by omega)]
 have e0 : rdN (zs.take 0) = 0 := by simp [rdN]
 have s0 := step 0 (by omega)
 have b1 : 0 ≤ rdN (zs.take 1) ∧ rdN (zs.take 1) < 256 := by rcases s0 with h | ⟨c, h1, h2, h⟩ <;> rw [e0] at h <;> simp only [Nat.zero_add] at h <;> omega
 have s1 := step 1 b1.1
 have b2 : 0 ≤ rdN (zs.take 2) ∧ rdN (zs.take 2) < 65536 := by rcases s1 with h | ⟨c, h1, h2, h⟩ <;> simp only [Nat.reduceAdd] at h <;> omega
 have s2 := step 2 b2.1
 have b3 : 0 ≤ rdN (zs.take 3) ∧ rdN (zs.take 3) < 16777216 := by rcases s2 with h | ⟨c, h1, h2, h⟩ <;> simp only [Nat.reduceAdd] at h <;> omega
 have s3 := step 3 b3.1
 have b4 : 0 ≤ rdN (zs.take 4) ∧ rdN (zs.take 4) < 4294967296 := by rcases s3 with h | ⟨c, h1, h2, h⟩ <;> simp only [Nat.reduceAdd] at h <;> omega
 rcases (show k = 0 ∨ k = 1 ∨ k = 2 ∨ k = 3 ∨ k = 4 from by omega) with rfl | rfl | rfl | rfl | rfl
 ·rw [e0]; omega
 ·omega
 ·omega
 ·omega
 ·omega
theorem rdN_four {zs : List Int} {p : Nat} (h : p + 4 ≤ zs.length) : rdN ((zs.drop p).take 4) = rd4 zs p := by
 have e : (zs.drop p).take 4 = [zs.getD p 0, zs.getD (p + 1) 0, zs.getD (p + 2) 0, zs.getD (p + 3) 0] := by
  apply List.ext_getElem?
  intro j
  rw [List.getElem?_take, List.getElem?_drop]
  rcases (show j = 0 ∨ j = 1 ∨ j = 2 ∨ j = 3 ∨ 4 ≤ j from by omega) with rfl | rfl | rfl | rfl | hj
  all_goals first | (rw [if_neg (by omega), List.getElem?_eq_none (by simpa using hj)]) | (rw [if_pos (by omega), List.getElem?_eq_getElem (by omega)]; simp [List.getElem?_eq_getElem (show p < zs.length from by omega), List.getElem?_eq_getElem (show p + 1 < zs.length from by omega), List.getElem?_eq_getElem (show p + 2 < zs.length from by omega), List.getElem?_eq_getElem (show p + 3 < zs.length from by omega)])
 rw [e]
 simp only [rdN, List.foldl_cons, List.foldl_nil, rd4]
 omega
set_option maxHeartbeats 400000 in
theorem readFour_any (a : Option Addr) (cap : Nat) (zs : List Int) (w : World) (B : Nat) (hx : zs.length = 4) (hb : BytesOk zs) (hr : Rd .u8 B w a zs) :
  Calls Tryz.prog 156 #[.slice a 4 cap] w fun e w' => e = .returned (.int .i64 (rdN zs)) ∧ w' = w := by
 have HX : Hid (zs.length = 4) := hx
 clear hx
 go_enter Tryz.func156, Tryz.ntmps156
 go_wp2
 go_loop [3, 5, 8] (fun x c i => ∃ k : Nat, k ≤ 4 ∧ i = .int .i64 k ∧ x = .int .i64 (rdN (zs.take k))) (fun _ _ i => 4 - (intOf i).toNat)
 case atStart => exact ⟨0, Nat.zero_le _, rfl, rfl⟩
 case round =>
  obtain ⟨k, hk, rfl, rfl⟩ := hrel
  have hbd := rdN_bd hb k hk
  by_cases hlt : k < 4
  ·obtain ⟨b1, o1, rfl, _, hc1⟩ := hr k (by rw [HX.out]; exact hlt)
   have hcr := hb.getD k
   have HS : Hid (rdN (zs.take (k + 1)) = rdN (zs.take k) * 256 + zs.getD k 0) := by
    unfold Hid
    rw [← rdN_snoc]
    congr 1
    rw [List.take_succ_eq_append_getElem (by rw [HX.out]; exact hlt), List.getD_eq_getElem?_getD, List.getElem?_eq_getElem (by rw [HX.out]; exact hlt)]
    rfl
   have hbl := hbd.2.2 hlt
   obtain ⟨hb0, _, _⟩ := hbd
   generalize zs.getD k 0 = c at hc1 hcr HS
   generalize rdN (zs.take k) = X at hbl hb0 HS
   clear hr hb
   go_wp2
   go_round
   case rel => exact ⟨k + 1, by omega, by go_num, by rw [HS.out]⟩
   case measure => simp [intOf]; omega
  ·have hk4 : k = 4 := by omega
   have HT : Hid (rdN zs = rdN (zs.take k)) := by unfold Hid; rw [List.take_of_length_le (by rw [HX.out]; omega)]
   generalize rdN (zs.take k) = X at HT
   go_wp2
   go_ret
   exact ⟨by rw [HT.out]; rfl, rfl⟩
end Go.Proofs.YtolciaheoanlbaaGreatDoor

/-
  Unframe of the specification and of the program, whole.
-/
namespace Go.Proofs.YtolciaheoanlbaaGreatDoor
open Go.RowKit
set_option maxRecDepth 10000
theorem getText_ok {zs : List Int} (hb : BytesOk zs) (f m : Nat) : BytesOk ((zs.drop f).take m) := fun z hz => hb z (List.mem_of_mem_drop (List.mem_of_mem_take hz))
def UnfPost (w : World) (U : List Int × Int × Bool) (e : Ending) (w' : World) : Prop :=
 ∃ v, e = .returned (.tuple #[v, .int .i64 U.2.1, .bool U.2.2]) ∧ w'.ownsRow w.heap.size 5 1 v U.1.length (U.1.map (Value.int .u8)) ∧ Below w.heap.size w w'
theorem unf_empty {w w1 : World} {p : Int} (hb : Below w.heap.size w w1) : UnfPost w ([], p, false) (.returned (.tuple #[.slice (some ⟨w1.heap.size, 0, none⟩) 0 0, .int .i64 p, .bool false])) (w1.alloc (.cells #[] 5)) :=
 ⟨_, rfl, World.ownsRow_lit w1 #[] 0 hb.size (by decide) rfl, hb.alloc hb.size _⟩
theorem unf_nil {w w1 : World} {p : Int} (hb : Below w.heap.size w w1) : UnfPost w ([], p, false) (.returned (.tuple #[.slice none 0 0, .int .i64 p, .bool false])) w1 :=
 ⟨_, rfl, World.ownsRow_nil _ _ _ _, hb⟩
set_option maxHeartbeats 800000 in
theorem specUnframe_any (a : Option Addr) (n cap : Nat) (zs : List Int) (p : Int) (w : World) (hx : zs.length = n) (hlen : n ≤ 35184372088832) (hcap : n ≤ cap) (hb : BytesOk zs) (hr : Rd .u8 w.heap.size w a zs) :
  Calls Tryz.prog 74 #[.slice a n cap, .int .i64 p] w (UnfPost w (unframe zs p)) := by
 obtain ⟨i0, hi, hz0, hz1, hz2⟩ := info_parts Tryz.info5
 have HX : Hid (zs.length = n) := hx
 clear hx
 by_cases hout : p < 0 ∨ (n : Int) - 4 < p
 ·have HV : Hid (unframe zs p = ([], p, false)) := unframe_out (by rw [HX.out]; exact hout)
  have hF := fourAt_no a n cap p w hout (by omega)
  clear hout
  go_enter Tryz.func74, Tryz.ntmps74
  go_wp2_with fail
  refine hF.mono ?_
  rintro e w1 ⟨rfl, rfl⟩
  go_wp2
  go_ret3
  rw [HV.out]
  exact unf_empty (Below.refl _ _)
 ·obtain ⟨p, rfl⟩ := Int.eq_ofNat_of_zero_le (show 0 ≤ p by omega)
  have hp : p + 4 ≤ n := by omega
  clear hout
  have hF := fourAt_yes a n cap p zs w w.heap.size HX.out hp (by omega) hb hr
  have hN := fun d => specGetNum_any a n cap zs ((p : Int) + 4) (w.drewN d) w.heap.size HX.out (by omega) hb (by exact hr)
  go_enter Tryz.func74, Tryz.ntmps74
  go_wp2_with fail
  refine hF.mono ?_
  rintro e w1 ⟨rfl, d, rfl⟩
  have hB : Below w.heap.size w (w.drewN d) := below_drewN (Below.refl _ _) d
  go_wp2_with fail
  refine (hN d).mono ?_
  rintro e w2 ⟨rfl, rfl⟩
  clear hF hN
  rcases text_cases zs ((p : Int) + 4) with ⟨r0, r1, hR, hv⟩ | ⟨m, f, hR, hf, hm, hout, hv⟩ | ⟨m, f, hR, hf, hm, hin, hv⟩
  ·have HV := Hid.mk (unframe_no (by rw [HX.out]; exact hp) hv)
   rw [hR]
   unfold numVal
   clear hR hv
   go_wp2
   go_ret3
   rw [HV.out]
   exact unf_empty hB
  ·have HV := Hid.mk (unframe_no (by rw [HX.out]; exact hp) hv)
   rw [hR]
   unfold numVal
   clear hR hv
   rw [HX.out] at hf hout
   go_wp2
   go_ret3
   rw [HV.out]
   exact unf_empty hB
  ·have HYes := fun h => Hid.mk (unframe_yes (by rw [HX.out]; exact hp) hv h)
   have HNo := fun h => Hid.mk (unframe_sum (by rw [HX.out]; exact hp) hv h)
   rw [hR]
   unfold numVal
   clear hR hv
   have hbody := getText_ok hb f m
   have hbl : ((zs.drop f).take m).length = m := take_drop_length hin
   obtain ⟨b1, o1, rfl, _, _⟩ := hr 0 (by omega)
   have hsub : Rd .u8 w.heap.size w (some ⟨b1, o1 + f, none⟩) ((zs.drop f).take m) := hr.sub hin
   generalize hBody : (zs.drop f).take m = body at hbody hbl hsub HYes HNo
   clear hBody
   have HBL := Hid.mk hbl
   clear hbl
   rw [HX.out] at hin
   by_cases hcf : cap = f
   ·subst hcf
    obtain rfl : m = 0 := by omega
    go_wp2_with (at_builtin; refine wpList_append_src _ rfl _ _ 62 62 rfl w.heap.size 5 i0 (.int .u8 0) 1 1 Tryz.underlying62 hi hz0 hz1 hz2 rfl (.slice (some ⟨w.heap.size, 0, none⟩) 0 0) 0 [] rfl (own_drewN (d := d) (World.ownsRow_lit w #[] 0 (Nat.le_refl _) (by decide) rfl)) 0 (body.map (Value.int .u8)) (Src.rd Tryz.underlying62 HBL.out (by rw [List.eq_nil_of_length_eq_zero HBL.out]; exact Rd.nil (B := 0))) (by unfold maxLen; omega) (by omega) (by simp) ?_)
    intro v3 w3 hown3 hgr3
    have hB3 : Below w.heap.size w w3 := (below_drewN ((Below.refl _ _).alloc (Nat.le_refl _) _) d).grown hgr3 (by simp) (fun k h => by simp [Value.ownBlock] at h; omega)
    have hown3' : w3.ownsRow w.heap.size 5 1 v3 body.length (body.map (Value.int .u8)) := own_congr hown3 (by have h := HBL.out; omega) (by simp)
    clear hown3 hgr3
    obtain ⟨a3, c3, rfl, _, hq3⟩ := own_rd rfl hown3'
    have hcb := crc_bd hbody
    have hrb := rd4_bd hb p
    go_wp2_with fail
    refine (specSum_any a3 body.length c3 body w3 w3.heap.size rfl (by rw [HBL.out]; omega) hbody hq3).mono ?_
    rintro e w4 ⟨rfl, rfl⟩
    by_cases hc : crc body = rd4 zs p
    ·have HV := HYes hc
     have hcb' : (crc body != rd4 zs p) = false := by simp [hc]
     clear HYes HNo hc
     generalize crc body = C1 at *
     generalize rd4 zs p = C2 at *
     go_wp2
     go_ret3
     rw [HV.out]
     exact ⟨_, rfl, hown3', hB3⟩
    ·have HV := HNo hc
     have hcb' : (crc body != rd4 zs p) = true := by simp [hc]
     clear HYes HNo hc
     generalize crc body = C1 at *
     generalize rd4 zs p = C2 at *
     go_wp2
     go_ret3
     rw [HV.out]
     exact unf_empty hB3
   ·go_wp2_with (at_builtin; (try rw [Nat.add_sub_cancel_left]); refine wpList_append_src _ rfl _ _ 62 62 rfl w.heap.size 5 i0 (.int .u8 0) 1 1 Tryz.underlying62 hi hz0 hz1 hz2 rfl (.slice (some ⟨w.heap.size, 0, none⟩) 0 0) 0 [] rfl (own_drewN (d := d) (World.ownsRow_lit w #[] 0 (Nat.le_refl _) (by decide) rfl)) m (body.map (Value.int .u8)) (Src.rd Tryz.underlying62 HBL.out (hsub.below (hB.alloc (by simp) _))) (by unfold maxLen; omega) (by omega) (by simp) ?_)
    intro v3 w3 hown3 hgr3
    have hB3 : Below w.heap.size w w3 := (below_drewN ((Below.refl _ _).alloc (Nat.le_refl _) _) d).grown hgr3 (by simp) (fun k h => by simp [Value.ownBlock] at h; omega)
    have hown3' : w3.ownsRow w.heap.size 5 1 v3 body.length (body.map (Value.int .u8)) := own_congr hown3 (by have h := HBL.out; omega) (by simp)
    clear hown3 hgr3
    obtain ⟨a3, c3, rfl, _, hq3⟩ := own_rd rfl hown3'
    have hcb := crc_bd hbody
    have hrb := rd4_bd hb p
    go_wp2_with fail
    refine (specSum_any a3 body.length c3 body w3 w3.heap.size rfl (by rw [HBL.out]; omega) hbody hq3).mono ?_
    rintro e w4 ⟨rfl, rfl⟩
    by_cases hc : crc body = rd4 zs p
    ·have HV := HYes hc
     have hcb' : (crc body != rd4 zs p) = false := by simp [hc]
     clear HYes HNo hc
     generalize crc body = C1 at *
     generalize rd4 zs p = C2 at *
     go_wp2
     go_ret3
     rw [HV.out]
     exact ⟨_, rfl, hown3', hB3⟩
    ·have HV := HNo hc
     have hcb' : (crc body != rd4 zs p) = true := by simp [hc]
     clear HYes HNo hc
     generalize crc body = C1 at *
     generalize rd4 zs p = C2 at *
     go_wp2
     go_ret3
     rw [HV.out]
     exact unf_empty hB3
end Go.Proofs.YtolciaheoanlbaaGreatDoor

/-
  The records of a log: plainly, and the specification's.
-/
namespace Go.Proofs.YtolciaheoanlbaaGreatDoor
open Go.RowKit
set_option linter.unusedVariables false
set_option linter.unusedSimpArgs false
set_option maxRecDepth 10000
theorem getNum_on {b : List Int} {p : Int} (h : (getNum b p).2.2 = true) : p < (getNum b p).2.1 := by
 simp only [getNum] at h ⊢
 by_cases h1 : p < 0 ∨ (b.length : Int) ≤ p
 ·rw [if_pos h1] at h; simp [noNum] at h
 ·rw [if_neg h1] at h ⊢
  by_cases h2 : b.getD p.toNat 0 = 128
  ·rw [if_pos h2] at h; simp [noNum] at h
  ·rw [if_neg h2] at h ⊢
   have := gnS_bounds 5 _ 0 p (by omega) h
   omega
theorem unframe_bd {zs : List Int} (hb : BytesOk zs) {p : Int} (h : (unframe zs p).2.2 = true) :
  0 ≤ p ∧ p < (unframe zs p).2.1 ∧ (unframe zs p).2.1 ≤ zs.length ∧ BytesOk (unframe zs p).1 ∧ (unframe zs p).1.length ≤ zs.length := by
 unfold unframe at h ⊢
 by_cases h1 : p < 0 ∨ (zs.length : Int) - 4 < p
 ·rw [if_pos h1] at h; cases h
 ·rw [if_neg h1] at h ⊢
  by_cases h2 : (getText zs (p + 4)).2.2 = true ∧ crc (getText zs (p + 4)).1 = rd4 zs p.toNat
  ·rw [if_pos h2]
   have h3 := h2.1
   have h4 : (getNum zs (p + 4)).2.2 = true := by
    unfold getText at h3
    by_cases h5 : (getNum zs (p + 4)).2.2 = true ∧ (getNum zs (p + 4)).1 ≤ zs.length - (getNum zs (p + 4)).2.1
    ·exact h5.1
    ·rw [if_neg h5] at h3; cases h3
   have h5 := getNum_bounds h4
   have h6 := getNum_on h4
   unfold getText at h3 ⊢
   by_cases h7 : (getNum zs (p + 4)).2.2 = true ∧ (getNum zs (p + 4)).1 ≤ zs.length - (getNum zs (p + 4)).2.1
   ·rw [if_pos h7]
    have h8 := h7.2
    refine ⟨by omega, ?_, ?_, getText_ok hb _ _, ?_⟩
    ·show p < (getNum zs (p + 4)).2.1 + (getNum zs (p + 4)).1
     omega
    ·show (getNum zs (p + 4)).2.1 + (getNum zs (p + 4)).1 ≤ (zs.length : Int)
     omega
    ·show ((zs.drop _).take _).length ≤ zs.length
     simp
     omega
   ·rw [if_neg h7] at h3; cases h3
  ·rw [if_neg h2] at h; cases h
theorem unframe_bad {zs : List Int} {p : Int} (h : (unframe zs p).2.2 = false) : unframe zs p = ([], p, false) := by
 unfold unframe at h ⊢
 by_cases h1 : p < 0 ∨ (zs.length : Int) - 4 < p
 ·rw [if_pos h1]
 ·rw [if_neg h1] at h ⊢
  by_cases h2 : (getText zs (p + 4)).2.2 = true ∧ crc (getText zs (p + 4)).1 = rd4 zs p.toNat
  ·rw [if_pos h2] at h; cases h
  ·rw [if_neg h2]
def recsF : Nat → List Int → Int → List (List Int) × Int
 | 0, _, p => ([], p)
 | f + 1, zs, p => if (unframe zs p).2.2 then ((unframe zs p).1 :: (recsF f zs (unframe zs p).2.1).1, (recsF f zs (unframe zs p).2.1).2) else ([], p)
def recsP (zs : List Int) : List (List Int) × Int := recsF (zs.length + 1) zs 0
def RecAt (zs : List Int) (out : List (List Int)) (p : Int) : Prop := ∃ f, zs.length + 1 ≤ f + p.toNat ∧ recsP zs = (out ++ (recsF f zs p).1, (recsF f zs p).2)
theorem RecAt.start (zs : List Int) : RecAt zs [] 0 := ⟨zs.length + 1, by simp, by simp [recsP]⟩
theorem RecAt.on {zs : List Int} (hb : BytesOk zs) {out : List (List Int)} {p : Int} (h : RecAt zs out p) (hu : (unframe zs p).2.2 = true) : RecAt zs (out ++ [(unframe zs p).1]) (unframe zs p).2.1 := by
 obtain ⟨f, h1, h2⟩ := h
 have h3 := unframe_bd hb hu
 cases f with
 | zero => omega
 | succ f =>
  refine ⟨f, by omega, ?_⟩
  rw [h2, recsF, if_pos hu]
  simp
theorem RecAt.done {zs : List Int} {out : List (List Int)} {p : Int} (h : RecAt zs out p) (hp : p ≤ zs.length) (hu : (unframe zs p).2.2 = false) : recsP zs = (out, p) := by
 obtain ⟨f, h1, h2⟩ := h
 cases f with
 | zero => omega
 | succ f =>
  rw [h2, recsF, if_neg (by rw [hu]; simp)]
  simp
theorem Tryz.infoBS : (Tryz.prog.info? 62).map (fun i => (i.zero, i.size, i.bytes)) = some (some (.slice none 0 0), 1, 24) := by kernel_rfl
theorem ownBs_lit (w : World) : ownS 1 62 oBy (w.alloc (.cells #[] 62)) (.slice (some ⟨w.heap.size, 0, none⟩) 0 0) [] [w.heap.size] :=
 .inr ⟨w.heap.size, 0, #[], [], rfl, (show (w.heap.push _)[w.heap.size]? = _ from Array.getElem?_push_size), Nat.le_refl _, by simp [maxLen], by simp, rfl, fun j h => by simp at h, by simp⟩
theorem newB_own {w : World} {base : Nat} {v : Value} {zs : List Int} (hb : BytesOk zs) (h : w.ownsRow base 5 1 v zs.length (zs.map (Value.int .u8))) : oBy w [v] zs v.ownBlock.toList :=
 ⟨v, rfl, own_base h (Nat.zero_le _), hb, rfl⟩
theorem ownS_in {α : Type} {size : Nat} {e : TypeId} {O : ORep α} {w : World} {v : Value} {l : List α} {F : List Nat} (h : ownS size e O w v l F) : ∀ k, v.ownBlock = some k → k ∈ F := by
 intro k hk
 rcases h with ⟨rfl, _, _⟩ | ⟨g, cap, cur, Fs, rfl, _, _, _, _, _, _, rfl⟩
 ·simp [Value.ownBlock] at hk
 ·simp [Value.ownBlock] at hk
  simp [hk]
set_option maxHeartbeats 2000000 in
theorem specRecords_any (a : Option Addr) (n cap : Nat) (zs : List Int) (w : World) (hx : zs.length = n) (hlen : n ≤ 1048576) (hcap : n ≤ cap) (hb : BytesOk zs) (hr : Rd .u8 w.heap.size w a zs) :
  Calls Tryz.prog 33 #[.slice a n cap] w fun e w' => ∃ v F, e = .returned (.tuple #[v, .int .i64 (recsP zs).2]) ∧ ownS 1 62 oBy w' v (recsP zs).1 F ∧ F.Nodup ∧ (∀ b, b ∈ F → w.heap.size ≤ b) ∧ Below w.heap.size w w' := by
 obtain ⟨i0, hi, hz0, hz1, hz2⟩ := info_parts Tryz.infoBS
 have HX := Hid.mk hx
 have HB := Hid.mk hb
 have HR := Hid.mk hr
 clear hx hb hr
 go_enter Tryz.func33, Tryz.ntmps33
 go_wp2_with fail
 go_loopw [4, 5] (fun o pv wr => ∃ (p : Nat) (out : List (List Int)) (F : List Nat), p ≤ n ∧ out.length ≤ p ∧ pv = .int .i64 p ∧ RecAt zs out p ∧ ownS 1 62 oBy wr o out F ∧ F.Nodup ∧ (∀ b, b ∈ F → w.heap.size ≤ b) ∧ Below w.heap.size w wr) (fun _ pv _ => n + 1 - (intOf pv).toNat)
 case atStart => exact ⟨0, [], [w.heap.size], Nat.zero_le _, Nat.le_refl _, rfl, RecAt.start zs, ownBs_lit w, by simp, by simp, (Below.refl _ _).alloc (Nat.le_refl _) _⟩
 case round =>
  obtain ⟨p, out, F, hp, hol, rfl, hra, how, hN, hge, hbk⟩ := hrel
  have HRA := Hid.mk hra
  clear hra
  have hR1 := (HR.out.below hbk).mono hbk.size
  go_wp2_with fail
  refine (specUnframe_any a n cap zs p wr HX.out (by omega) hcap HB.out hR1).mono ?_
  rintro e w1 ⟨v1, rfl, ho1, hx1⟩
  have hB1 := hbk.trans (hx1.mono hbk.size)
  have how1 := ownS.frame oBy_good how (fun b hb => hx1.block b (ownS.lt oBy_good how b hb))
  cases hu : (unframe zs p).2.2 with
  | false =>
   have HD : Hid (recsP zs = (out, (p : Int))) := RecAt.done HRA.out (by rw [HX.out]; omega) hu
   have hbad := unframe_bad hu
   rw [hbad] at ho1 ⊢
   go_wp2_with fail
   go_ret2
   exact ⟨_, F, by rw [HD.out]; rfl, by rw [HD.out]; exact how1, hN, hge, hB1⟩
  | true =>
   have hbd := unframe_bd HB.out hu
   have HN := Hid.mk (RecAt.on HB.out HRA.out hu)
   obtain ⟨bd, hbdd⟩ : ∃ x, x = (unframe zs p).1 := ⟨_, rfl⟩
   obtain ⟨nx, hnx⟩ : ∃ x : Nat, (x : Int) = (unframe zs p).2.1 := ⟨(unframe zs p).2.1.toNat, by omega⟩
   rw [← hbdd] at ho1 hbd HN
   rw [← hnx] at hbd HN ⊢
   have hln : (nx : Int) ≤ n := by have := hbd.2.2.1; rw [HX.out] at this; exact this
   have hon : (p : Int) < nx := hbd.2.1
   have hbl : bd.length ≤ n := by have := hbd.2.2.2.2; rw [HX.out] at this; exact this
   have hO1 := newB_own hbd.2.2.2.1 ho1
   have hF1 : ∀ b, b ∈ v1.ownBlock.toList → wr.heap.size ≤ b := fun b hb => (ho1.lt b (by simpa using hb)).1
   obtain ⟨r1, q1, rfl, _, _⟩ := own_rd rfl ho1
   obtain ⟨xs, hxs, hpush⟩ := ownS.push oBy_good (ownS.frame oBy_good how1 (fun b hb => (show Below w1.heap.size w1 (w1.alloc (.cells #[.slice r1 bd.length q1] 62)) from (Below.refl _ _).alloc (Nat.le_refl _) _).block b (ownS.lt oBy_good how1 b hb))) hN
   obtain ⟨w2, hw2⟩ : ∃ x, x = w1.alloc (.cells #[.slice r1 bd.length q1] 62) := ⟨_, rfl⟩
   rw [← hw2] at hxs hpush
   have hx2 : Below w1.heap.size w1 w2 := by rw [hw2]; exact (Below.refl _ _).alloc (Nat.le_refl _) _
   have hbx : Bx w2 w1.heap.size [.slice r1 bd.length q1] := by rw [hw2]; exact Bx.new _ _ _
   have hB2 := hB1.trans (hx2.mono hB1.size)
   have HLT : Hid (∀ b, b ∈ F → b < wr.heap.size) := fun b hb => ownS.lt oBy_good how b hb
   have HOB := Hid.mk (ownS_in how)
   clear hu hbd how how1 ho1 hbdd hnx
   go_wp2_with (at_builtin; rw [← hw2]; refine wpList_append_own_at _ rfl _ _ 31 rfl 0 62 i0 (.slice none 0 0) 1 24 Tryz.underlying31 hi hz0 hz1 hz2 rfl (by decide) _ _ _ rfl hxs ⟨w1.heap.size, 0, none⟩ 1 1 [.slice r1 bd.length q1] rfl rfl (bx_news hbx) (by intro u hu; simp at hu; subst hu; rfl) (by unfold maxLen; omega) (by omega) (by omega) ?_; intro v3 w3 hown3 hgrow3 hnil3 hloc3)
   have hO2 := oBy_good.frame hO1 (fun b hb => hx2.block b (oBy_good.lt hO1 b hb))
   obtain ⟨F', hF', hN', hin⟩ := hpush w3 v3 _ bd _ hown3 hgrow3 hloc3 hO2 (by cases (Value.ownBlock _) <;> simp) (fun b hb hbF => by have h1 := hF1 b hb; have h2 := HLT.out b hbF; omega)
   have hB3 := hB2.grown hgrow3 hB2.size (fun k h => hge k (HOB.out k h))
   have hge' : ∀ b, b ∈ F' → w.heap.size ≤ b := fun b hb => by
    rcases hin b hb with h | h | h
    ·exact hge b h
    ·exact Nat.le_trans hbk.size (hF1 b h)
    ·rw [h]; exact hB2.size
   clear hpush hown3 hgrow3 hnil3 hloc3 hxs hO1 hO2 hbx
   go_wp2_with fail
   go_roundw
   case rel => exact ⟨nx, out ++ [bd], F', by omega, by simp; omega, rfl, HN.out, hF', hN', hge', hB3⟩
   case measure => simp [intOf]; omega
end Go.Proofs.YtolciaheoanlbaaGreatDoor

/-
  The records of a log: how great they can be.
-/
namespace Go.Proofs.YtolciaheoanlbaaGreatDoor
open Go.RowKit
set_option linter.unusedVariables false
set_option linter.unusedSimpArgs false
set_option maxRecDepth 10000
theorem unframe_more {zs : List Int} {p : Int} (h : (unframe zs p).2.2 = true) : p + 1 + (unframe zs p).1.length ≤ (unframe zs p).2.1 := by
 unfold unframe at h ⊢
 by_cases h1 : p < 0 ∨ (zs.length : Int) - 4 < p
 ·rw [if_pos h1] at h; cases h
 ·rw [if_neg h1] at h ⊢
  by_cases h2 : (getText zs (p + 4)).2.2 = true ∧ crc (getText zs (p + 4)).1 = rd4 zs p.toNat
  ·rw [if_pos h2]
   have h3 := h2.1
   unfold getText at h3 ⊢
   by_cases h7 : (getNum zs (p + 4)).2.2 = true ∧ (getNum zs (p + 4)).1 ≤ zs.length - (getNum zs (p + 4)).2.1
   ·rw [if_pos h7]
    have h5 := getNum_bounds h7.1
    have h6 := getNum_on h7.1
    show p + 1 + (((zs.drop _).take _).length : Int) ≤ (getNum zs (p + 4)).2.1 + (getNum zs (p + 4)).1
    have h8 : (((zs.drop (getNum zs (p + 4)).2.1.toNat).take (getNum zs (p + 4)).1.toNat).length : Int) ≤ (getNum zs (p + 4)).1 := by
     rw [List.length_take]
     omega
    omega
   ·rw [if_neg h7] at h3; cases h3
  ·rw [if_neg h2] at h; cases h
theorem recsF_bound {zs : List Int} (hb : BytesOk zs) : ∀ (f : Nat) (p : Int), 0 ≤ p → p ≤ zs.length → ((recsF f zs p).1.length + sumW List.length (recsF f zs p).1 : Nat) ≤ zs.length - p
 | 0, p, h0, h1 => by simp [recsF, sumW]; omega
 | f + 1, p, h0, h1 => by
  rw [recsF]
  by_cases hu : (unframe zs p).2.2 = true
  ·rw [if_pos hu]
   have h2 := unframe_bd hb hu
   have h3 := unframe_more hu
   have h4 := recsF_bound hb f (unframe zs p).2.1 (by omega) h2.2.2.1
   simp only [List.length_cons, sumW, List.map_cons, List.sum_cons] at h4 ⊢
   omega
  ·rw [if_neg hu]
   simp [sumW]
   omega
theorem boundRecords_0 (zs : List Int) (hb : BytesOk zs) (hw : zs.length ≤ 1048576) : wBs (recsP zs).1 ≤ 1099511627776 := by
 have h := recsF_bound hb (zs.length + 1) 0 (by omega) (by omega)
 unfold wBs recsP
 omega
theorem recsF_place {zs : List Int} (hb : BytesOk zs) : ∀ (f : Nat) (p : Int), 0 ≤ p → p ≤ zs.length → 0 ≤ (recsF f zs p).2 ∧ (recsF f zs p).2 ≤ zs.length
 | 0, p, h0, h1 => ⟨h0, h1⟩
 | f + 1, p, h0, h1 => by
  rw [recsF]
  by_cases hu : (unframe zs p).2.2 = true
  ·rw [if_pos hu]
   have h2 := unframe_bd hb hu
   exact recsF_place hb f (unframe zs p).2.1 (by omega) h2.2.2.1
  ·rw [if_neg hu]
   exact ⟨h0, h1⟩
theorem recs_place {zs : List Int} (hb : BytesOk zs) : 0 ≤ (recsP zs).2 ∧ (recsP zs).2 ≤ zs.length := recsF_place hb _ 0 (by omega) (by omega)
theorem Rd.front {k : IntKind} {B : Nat} {w : World} {a : Option Addr} {zs : List Int} (h : Rd k B w a zs) (q : Nat) : Rd k B w a (zs.take q) := by
 intro j hj
 have hjq : j < q ∧ j < zs.length := by simp at hj; omega
 obtain ⟨b, o, e, hB, hc⟩ := h j hjq.2
 refine ⟨b, o, e, hB, ?_⟩
 rw [hc]
 congr 2
 simp [List.getD_eq_getElem?_getD, List.getElem?_take, hjq.1]
end Go.Proofs.YtolciaheoanlbaaGreatDoor

/-
  A log that is mended, plainly.
-/
namespace Go.Proofs.YtolciaheoanlbaaGreatDoor
open Go.RowKit
set_option linter.unusedVariables false
set_option linter.unusedSimpArgs false
def mendN : ByteArray := ⟨#[109, 101, 110, 100]⟩
def foreP (m : MDisk) (s : ByteArray) : List Int := (dataOf m s).take (recsP (dataOf m s)).2.toNat
def mendR (m : MDisk) (s : ByteArray) : MDisk × List (List Int) × Int :=
 if callP m s ≠ 0 then (m, [], callP m s)
 else if (recsP (dataOf m s)).2 = ((dataOf m s).length : Int) then (m, (recsP (dataOf m s)).1, 0)
 else if (switchP m mendN (foreP m s) s).2 = 0 then ((switchP m mendN (foreP m s) s).1, (recsP (dataOf m s)).1, 0)
 else (m, [], (switchP m mendN (foreP m s) s).2)
def mendD (m : MDisk) (s : ByteArray) : MDisk := (mendR m s).1
def mendL (m : MDisk) (s : ByteArray) : List (List Int) := (mendR m s).2.1
def mendC (m : MDisk) (s : ByteArray) : Int := (mendR m s).2.2
theorem mend_no {m : MDisk} {s : ByteArray} (h : callP m s ≠ 0) : mendR m s = (m, [], callP m s) := by unfold mendR; rw [if_pos h]
theorem mend_whole {m : MDisk} {s : ByteArray} (h : callP m s = 0) (h2 : (recsP (dataOf m s)).2 = ((dataOf m s).length : Int)) : mendR m s = (m, (recsP (dataOf m s)).1, 0) := by
 unfold mendR; rw [if_neg (by simp [h]), if_pos h2]
theorem mend_good {m : MDisk} {s : ByteArray} (h : callP m s = 0) (h2 : (recsP (dataOf m s)).2 ≠ ((dataOf m s).length : Int)) (h3 : (switchP m mendN (foreP m s) s).2 = 0) : mendR m s = ((switchP m mendN (foreP m s) s).1, (recsP (dataOf m s)).1, 0) := by
 unfold mendR; rw [if_neg (by simp [h]), if_neg h2, if_pos h3]
theorem mend_bad {m : MDisk} {s : ByteArray} (h : callP m s = 0) (h2 : (recsP (dataOf m s)).2 ≠ ((dataOf m s).length : Int)) (h3 : (switchP m mendN (foreP m s) s).2 ≠ 0) : mendR m s = (m, [], (switchP m mendN (foreP m s) s).2) := by
 unfold mendR; rw [if_neg (by simp [h]), if_neg h2, if_neg h3]
theorem boundMend_0 (m : MDisk) (s : ByteArray) (hw : wDisk m ≤ 1048576) (hw1 : s.size ≤ 1048576) : wDisk (mendD m s) ≤ 1099511627776 := by
 have h := switch_small (t := mendN) (b := foreP m s) (s := s) hw
 unfold mendD mendR
 split
 ·show wDisk m ≤ _; omega
 ·split
  ·show wDisk m ≤ _; omega
  ·split
   ·show wDisk (switchP m mendN (foreP m s) s).1 ≤ _; omega
   ·show wDisk m ≤ _; omega
end Go.Proofs.YtolciaheoanlbaaGreatDoor
