/-
  Part 23 of the texts that the proof leans on.
-/
import Derived.Test.YtegonncmopecnaaGreatDoorMnd20
import Derived.Test.YtegonncmopecnaaGreatDoorMnd1
import Derived.Test.YtegonncmopecnaaGreatDoorMnd21
import Derived.Test.YtegonncmopecnaaGreatDoorMnd3
import Derived.Test.YtegonncmopecnaaGreatDoorMnd19
import Derived.Test.YtegonncmopecnaaGreatDoorMnd19p
set_option linter.unusedVariables false
set_option linter.unusedSimpArgs false
set_option maxRecDepth 10000

namespace Go.Proofs.YtegonncmopecnaaGreatDoor
open Go.RowKit
def rd4 (zs : List Int) (p : Nat) : Int := zs.getD p 0 * 16777216 + zs.getD (p + 1) 0 * 65536 + zs.getD (p + 2) 0 * 256 + zs.getD (p + 3) 0
theorem rd4_bd {zs : List Int} (hb : BytesOk zs) (p : Nat) : 0 <= rd4 zs p /\ rd4 zs p < 4294967296 := by
 have h0 := hb.getD p
 have h1 := hb.getD (p + 1)
 have h2 := hb.getD (p + 2)
 have h3 := hb.getD (p + 3)
 unfold rd4
 omega
def unframe (zs : List Int) (p : Int) : List Int × Int × Bool :=
 if p < 0 ∨ (zs.length : Int) - 4 < p then ([], p, false)
 else if (getText zs (p + 4)).2.2 = true /\ crc (getText zs (p + 4)).1 = rd4 zs p.toNat then ((getText zs (p + 4)).1, (getText zs (p + 4)).2.1, true) else ([], p, false)
theorem unframe_out {zs : List Int} {p : Int} (h : p < 0 ∨ (zs.length : Int) - 4 < p) : unframe zs p = ([], p, false) := by unfold unframe; rw [if_pos h]
theorem unframe_no {zs : List Int} {p : Nat} (h : p + 4 <= zs.length) (ht : getText zs ((p : Int) + 4) = ([], 0, false)) : unframe zs p = ([], (p : Int), false) := by
 unfold unframe; rw [if_neg (by omega), ht, if_neg (by simp)]
theorem unframe_sum {zs : List Int} {p : Nat} {b : List Int} {q : Int} (h : p + 4 <= zs.length) (ht : getText zs ((p : Int) + 4) = (b, q, true)) (hc : ¬ crc b = rd4 zs p) : unframe zs p = ([], (p : Int), false) := by
 unfold unframe; rw [if_neg (by omega), ht, if_neg (by simp [hc])]
theorem unframe_yes {zs : List Int} {p : Nat} {b : List Int} {q : Int} (h : p + 4 <= zs.length) (ht : getText zs ((p : Int) + 4) = (b, q, true)) (hc : crc b = rd4 zs p) : unframe zs p = (b, q, true) := by
 unfold unframe; rw [if_neg (by omega), ht, if_pos (by simp [hc])]
theorem or24 {a b : Int} (h0 : 0 <= a) (h1 : a <= 255) (h2 : 0 <= b) (h3 : b <= 255) : bits .or .i64 (a * 16777216) (b * 65536) = a * 16777216 + b * 65536 :=
 bits_join .i64 63 (by decide) wraps_i64 24 _ _ (by omega) (by omega) (by omega) (by omega) (by omega) (by omega)
theorem or16 {x c : Int} (h0 : 0 <= x) (h1 : x < 4294967296) (hm : x % 65536 = 0) (h2 : 0 <= c) (h3 : c <= 255) : bits .or .i64 x (c * 256) = x + c * 256 :=
 bits_join .i64 63 (by decide) wraps_i64 16 _ _ (by omega) (by omega) (by omega) (by omega) (by omega) (by omega)
theorem or8 {x c : Int} (h0 : 0 <= x) (h1 : x < 4294967296) (hm : x % 256 = 0) (h2 : 0 <= c) (h3 : c <= 255) : bits .or .i64 x c = x + c :=
 bits_join .i64 63 (by decide) wraps_i64 8 _ _ (by omega) (by omega) (by omega) (by omega) (by omega) (by omega)
theorem Rd.sub {k : IntKind} {B : Nat} {w : World} {b o f m : Nat} {zs : List Int} (h : Rd k B w (some ⟨b, o, none⟩) zs) (hf : f + m <= zs.length) : Rd k B w (some ⟨b, o + f, none⟩) ((zs.drop f).take m) := by
 intro j hj
 rw [take_drop_length hf] at hj
 obtain ⟨b', o', e, hB, hc⟩ := h (f + j) (by omega)
 simp only [Option.some.injEq, Addr.mk.injEq, and_true] at e
 obtain ⟨rfl, rfl⟩ := e
 exact ⟨b, o + f, rfl, hB, by rw [take_drop_getD hj, Nat.add_assoc]; exact hc⟩
theorem Rd.nil {k : IntKind} {B : Nat} {w : World} {a : Option Addr} : Rd k B w a [] := fun j hj => by simp at hj
set_option maxHeartbeats 400000 in
theorem fourAt_no (a : Option Addr) (n cap : Nat) (p : Int) (w : World) (h : p < 0 ∨ (n : Int) - 4 < p) (hlen : n <= 140737488351232) :
  Calls Tryz.prog 85 #[.slice a n cap, .int .i64 p] w fun e w' => e = .returned (.tuple #[.int .i64 0, .bool false]) /\ w' = w := by
 by_cases h0 : p < 0
 ·clear h
  go_enter Tryz.func85, Tryz.ntmps85
  go_wp2
  go_ret2
  exact ⟨rfl, rfl⟩
 ·have h1 : (n : Int) - 4 < p := by omega
  clear h
  go_enter Tryz.func85, Tryz.ntmps85
  go_wp2
  go_ret2
  exact ⟨rfl, rfl⟩
set_option maxHeartbeats 400000 in
theorem fourAt_yes (a : Option Addr) (n cap p : Nat) (zs : List Int) (w : World) (B : Nat) (hx : zs.length = n) (h : p + 4 <= n) (hlen : n <= 140737488351232) (hb : BytesOk zs) (hr : Rd .u8 B w a zs) :
  Calls Tryz.prog 85 #[.slice a n cap, .int .i64 p] w fun e w' => e = .returned (.tuple #[.int .i64 (rd4 zs p), .bool true]) /\ ∃ d, w' = w.drewN d := by
 have HX : Hid (zs.length = n) := hx
 clear hx
 obtain ⟨b1, o1, rfl, _, hc0⟩ := hr p (by rw [HX.out]; omega)
 have hcell : ∀ j, j < n -> w.cell? ⟨b1, o1 + j, none⟩ = some (.int .u8 (zs.getD j 0)) := fun j hj => by
  obtain ⟨b', o', e, _, hc⟩ := hr j (by rw [HX.out]; omega)
  simp only [Option.some.injEq, Addr.mk.injEq, and_true] at e
  obtain ⟨rfl, rfl⟩ := e
  exact hc
 have hc1 := hcell (p + 1) (by omega)
 have hc2 := hcell (p + 2) (by omega)
 have hc3 := hcell (p + 3) (by omega)
 have g0 := hb.getD p
 have g1 := hb.getD (p + 1)
 have g2 := hb.getD (p + 2)
 have g3 := hb.getD (p + 3)
 have HR : Hid (rd4 zs p = zs.getD p 0 * 16777216 + zs.getD (p + 1) 0 * 65536 + zs.getD (p + 2) 0 * 256 + zs.getD (p + 3) 0) := rfl
 generalize zs.getD p 0 = c0 at hc0 g0 HR
 generalize zs.getD (p + 1) 0 = c1 at hc1 g1 HR
 generalize zs.getD (p + 2) 0 = c2 at hc2 g2 HR
 generalize zs.getD (p + 3) 0 = c3 at hc3 g3 HR
 have r1 := or24 g0.1 g0.2 g1.1 g1.2
 have r2 := or16 (x := c0 * 16777216 + c1 * 65536) (c := c2) (by omega) (by omega) (by omega) g2.1 g2.2
 have r3 := or8 (x := c0 * 16777216 + c1 * 65536 + c2 * 256) (c := c3) (by omega) (by omega) (by omega) g3.1 g3.2
 clear hcell hr hb
 go_enter Tryz.func85, Tryz.ntmps85
 go_wp2
 go_quiet (fail)
 go_wp2
 go_ret2
 exact ⟨by rw [HR.out]; rfl, _, rfl⟩
def rdN (zs : List Int) : Int := zs.foldl (fun n c => n * 256 + c) 0
theorem rdN_snoc (l : List Int) (c : Int) : rdN (l ++ [c]) = rdN l * 256 + c := by simp [rdN]
theorem rdN_bd {zs : List Int} (hb : BytesOk zs) (k : Nat) (hk : k <= 4) : 0 <= rdN (zs.take k) /\ rdN (zs.take k) < 4294967296 /\ (k < 4 -> rdN (zs.take k) < 16777216) := by
 have step : ∀ j, 0 <= rdN (zs.take j) -> (rdN (zs.take (j + 1)) = rdN (zs.take j) ∨ ∃ c, 0 <= c /\ c <= 255 /\ rdN (zs.take (j + 1)) = rdN (zs.take j) * 256 + c) := by
  intro j _
  by_cases hj : j < zs.length
  ·right
   refine ⟨zs.getD j 0, (hb.getD j).1, (hb.getD j).2, ?_⟩
   rw [<- rdN_snoc]
   congr 1
   rw [List.take_succ_eq_append_getElem hj, List.getD_eq_getElem?_getD, List.getElem?_eq_getElem hj]
   rfl
  ·left
   rw [List.take_of_length_le (by omega), List.take_of_length_le (by omega)]
 have e0 : rdN (zs.take 0) = 0 := by simp [rdN]
 have s0 := step 0 (by omega)
 have b1 : 0 <= rdN (zs.take 1) /\ rdN (zs.take 1) < 256 := by rcases s0 with h | ⟨c, h1, h2, h⟩ <;> rw [e0] at h <;> simp only [Nat.zero_add] at h <;> omega
 have s1 := step 1 b1.1
 have b2 : 0 <= rdN (zs.take 2) /\ rdN (zs.take 2) < 65536 := by rcases s1 with h | ⟨c, h1, h2, h⟩ <;> simp only [Nat.reduceAdd] at h <;> omega
 have s2 := step 2 b2.1
 have b3 : 0 <= rdN (zs.take 3) /\ rdN (zs.take 3) < 16777216 := by rcases s2 with h | ⟨c, h1, h2, h⟩ <;> simp only [Nat.reduceAdd] at h <;> omega
 have s3 := step 3 b3.1
 have b4 : 0 <= rdN (zs.take 4) /\ rdN (zs.take 4) < 4294967296 := by rcases s3 with h | ⟨c, h1, h2, h⟩ <;> simp only [Nat.reduceAdd] at h <;> omega
 rcases (show k = 0 ∨ k = 1 ∨ k = 2 ∨ k = 3 ∨ k = 4 from by omega) with rfl | rfl | rfl | rfl | rfl
 ·rw [e0]; omega
 ·omega
 ·omega
 ·omega
 ·omega
theorem rdN_four {zs : List Int} {p : Nat} (h : p + 4 <= zs.length) : rdN ((zs.drop p).take 4) = rd4 zs p := by
 have e : (zs.drop p).take 4 = [zs.getD p 0, zs.getD (p + 1) 0, zs.getD (p + 2) 0, zs.getD (p + 3) 0] := by
  apply List.ext_getElem?
  intro j
  rw [List.getElem?_take, List.getElem?_drop]
  rcases (show j = 0 ∨ j = 1 ∨ j = 2 ∨ j = 3 ∨ 4 <= j from by omega) with rfl | rfl | rfl | rfl | hj
  all_goals first | (rw [if_neg (by omega), List.getElem?_eq_none (by simpa using hj)]) | (rw [if_pos (by omega), List.getElem?_eq_getElem (by omega)]; simp [List.getElem?_eq_getElem (show p < zs.length from by omega), List.getElem?_eq_getElem (show p + 1 < zs.length from by omega), List.getElem?_eq_getElem (show p + 2 < zs.length from by omega), List.getElem?_eq_getElem (show p + 3 < zs.length from by omega)])
 rw [e]
 simp only [rdN, List.foldl_cons, List.foldl_nil, rd4]
 omega
set_option maxHeartbeats 400000 in
theorem readFour_any (a : Option Addr) (cap : Nat) (zs : List Int) (w : World) (B : Nat) (hx : zs.length = 4) (hb : BytesOk zs) (hr : Rd .u8 B w a zs) :
  Calls Tryz.prog 90 #[.slice a 4 cap] w fun e w' => e = .returned (.int .i64 (rdN zs)) /\ w' = w := by
 have HX : Hid (zs.length = 4) := hx
 clear hx
 go_enter Tryz.func90, Tryz.ntmps90
 go_wp2
 go_loop [3, 5, 8] (fun x c i => ∃ k : Nat, k <= 4 /\ i = .int .i64 k /\ x = .int .i64 (rdN (zs.take k))) (fun _ _ i => 4 - (intOf i).toNat)
 case atStart => exact ⟨0, Nat.zero_le _, rfl, rfl⟩
 case round =>
  obtain ⟨k, hk, rfl, rfl⟩ := hrel
  have hbd := rdN_bd hb k hk
  by_cases hlt : k < 4
  ·obtain ⟨b1, o1, rfl, _, hc1⟩ := hr k (by rw [HX.out]; exact hlt)
   have hcr := hb.getD k
   have HS : Hid (rdN (zs.take (k + 1)) = rdN (zs.take k) * 256 + zs.getD k 0) := by
    unfold Hid
    rw [<- rdN_snoc]
    congr 1
    rw [List.take_succ_eq_append_getElem (by rw [HX.out]; exact hlt), List.getD_eq_getElem?_getD, List.getElem?_eq_getElem (by rw [HX.out]; exact hlt)]
    rfl
   have hbl := hbd.2.2 hlt
   obtain ⟨hb0, _, _⟩ := hbd
   generalize zs.getD k 0 = c at hc1 hcr HS
   generalize rdN (zs.take k) = X at hbl hb0 HS
   clear hr hb
   go_wp2
   go_round
   case rel => exact ⟨k + 1, by omega, by go_num, by rw [HS.out]⟩
   case measure => simp [intOf]; omega
  ·have hk4 : k = 4 := by omega
   have HT : Hid (rdN zs = rdN (zs.take k)) := by unfold Hid; rw [List.take_of_length_le (by rw [HX.out]; omega)]
   generalize rdN (zs.take k) = X at HT
   go_wp2
   go_ret
   exact ⟨by rw [HT.out]; rfl, rfl⟩
theorem getText_ok {zs : List Int} (hb : BytesOk zs) (f m : Nat) : BytesOk ((zs.drop f).take m) := fun z hz => hb z (List.mem_of_mem_drop (List.mem_of_mem_take hz))
def UnfPost (w : World) (U : List Int × Int × Bool) (e : Ending) (w' : World) : Prop :=
 ∃ v, e = .returned (.tuple #[v, .int .i64 U.2.1, .bool U.2.2]) /\ w'.ownsRow w.heap.size 5 1 v U.1.length (U.1.map (Value.int .u8)) /\ Below w.heap.size w w'
theorem unf_empty {w w1 : World} {p : Int} (hb : Below w.heap.size w w1) : UnfPost w ([], p, false) (.returned (.tuple #[.slice (some ⟨w1.heap.size, 0, none⟩) 0 0, .int .i64 p, .bool false])) (w1.alloc (.cells #[] 5)) :=
 ⟨_, rfl, World.ownsRow_lit w1 #[] 0 hb.size (by decide) rfl, hb.alloc hb.size _⟩
theorem unf_nil {w w1 : World} {p : Int} (hb : Below w.heap.size w w1) : UnfPost w ([], p, false) (.returned (.tuple #[.slice none 0 0, .int .i64 p, .bool false])) w1 :=
 ⟨_, rfl, World.ownsRow_nil _ _ _ _, hb⟩
set_option maxHeartbeats 800000 in
theorem specUnframe_any (a : Option Addr) (n cap : Nat) (zs : List Int) (p : Int) (w : World) (hx : zs.length = n) (hlen : n <= 35184372088832) (hcap : n <= cap) (hb : BytesOk zs) (hr : Rd .u8 w.heap.size w a zs) :
  Calls Tryz.prog 60 #[.slice a n cap, .int .i64 p] w (UnfPost w (unframe zs p)) := by
 obtain ⟨i0, hi, hz0, hz1, hz2⟩ := info_parts Tryz.info5
 have HX : Hid (zs.length = n) := hx
 clear hx
 by_cases hout : p < 0 ∨ (n : Int) - 4 < p
 ·have HV : Hid (unframe zs p = ([], p, false)) := unframe_out (by rw [HX.out]; exact hout)
  have hF := fourAt_no a n cap p w hout (by omega)
  clear hout
  go_enter Tryz.func60, Tryz.ntmps60
  go_wp2_with fail
  refine hF.mono ?_
  rintro e w1 ⟨rfl, rfl⟩
  go_wp2
  go_ret3
  rw [HV.out]
  exact unf_empty rB
 ·obtain ⟨p, rfl⟩ := Int.eq_ofNat_of_zero_le (show 0 <= p by omega)
  have hp : p + 4 <= n := by omega
  clear hout
  have hF := fourAt_yes a n cap p zs w w.heap.size HX.out hp (by omega) hb hr
  have hN := fun d => specGetNum_any a n cap zs ((p : Int) + 4) (w.drewN d) w.heap.size HX.out (by omega) hb (by exact hr)
  go_enter Tryz.func60, Tryz.ntmps60
  go_wp2_with fail
  refine hF.mono ?_
  rintro e w1 ⟨rfl, d, rfl⟩
  have hB : Below w.heap.size w (w.drewN d) := below_drewN rB d
  go_wp2_with fail
  refine (hN d).mono ?_
  rintro e w2 ⟨rfl, rfl⟩
  clear hF hN
  rcases text_cases zs ((p : Int) + 4) with ⟨r0, r1, hR, hv⟩ | ⟨m, f, hR, hf, hm, hout, hv⟩ | ⟨m, f, hR, hf, hm, hin, hv⟩
  ·have HV := Hm (unframe_no (by rw [HX.out]; exact hp) hv)
   rw [hR]
   unfold numVal
   clear hR hv
   go_wp2
   go_ret3
   rw [HV.out]
   exact unf_empty hB
  ·have HV := Hm (unframe_no (by rw [HX.out]; exact hp) hv)
   rw [hR]
   unfold numVal
   clear hR hv
   rw [HX.out] at hf hout
   go_wp2
   go_ret3
   rw [HV.out]
   exact unf_empty hB
  ·have HYes := fun h => Hm (unframe_yes (by rw [HX.out]; exact hp) hv h)
   have HNo := fun h => Hm (unframe_sum (by rw [HX.out]; exact hp) hv h)
   rw [hR]
   unfold numVal
   clear hR hv
   have hbody := getText_ok hb f m
   have hbl : ((zs.drop f).take m).length = m := take_drop_length hin
   obtain ⟨b1, o1, rfl, _, _⟩ := hr 0 (by omega)
   have hsub : Rd .u8 w.heap.size w (some ⟨b1, o1 + f, none⟩) ((zs.drop f).take m) := hr.sub hin
   generalize hBody : (zs.drop f).take m = body at hbody hbl hsub HYes HNo
   clear hBody
   have HBL := Hm hbl
   clear hbl
   rw [HX.out] at hin
   by_cases hcf : cap = f
   ·subst hcf
    obtain rfl : m = 0 := by omega
    go_wp2_with (at_builtin; refine wpList_append_src _ rfl _ _ 22 22 rfl w.heap.size 5 i0 (.int .u8 0) 1 1 Tryz.underlying22 hi hz0 hz1 hz2 rfl (.slice (some ⟨w.heap.size, 0, none⟩) 0 0) 0 [] rfl (own_drewN (d := d) (World.ownsRow_lit w #[] 0 rN (by decide) rfl)) 0 (body.map (Value.int .u8)) (Src.rd Tryz.underlying22 HBL.out (by rw [List.eq_nil_of_length_eq_zero HBL.out]; exact Rd.nil (B := 0))) (by unfold maxLen; omega) (by omega) (by simp) ?_)
    intro v3 w3 hown3 hgr3
    have hB3 : Below w.heap.size w w3 := (below_drewN (rB.alloc rN _) d).grown hgr3 (by simp) (fun k h => by simp [Value.ownBlock] at h; omega)
    have hown3' : w3.ownsRow w.heap.size 5 1 v3 body.length (body.map (Value.int .u8)) := own_congr hown3 (by have h := HBL.out; omega) (by simp)
    clear hown3 hgr3
    obtain ⟨a3, c3, rfl, _, hq3⟩ := own_rd rfl hown3'
    have hcb := crc_bd hbody
    have hrb := rd4_bd hb p
    go_wp2_with fail
    refine (specSum_any a3 body.length c3 body w3 w3.heap.size rfl (by rw [HBL.out]; omega) hbody hq3).mono ?_
    rintro e w4 ⟨rfl, rfl⟩
    by_cases hc : crc body = rd4 zs p
    ·have HV := HYes hc
     have hcb' : (crc body != rd4 zs p) = false := by simp [hc]
     clear HYes HNo hc
     generalize crc body = C1 at *
     generalize rd4 zs p = C2 at *
     go_wp2
     go_ret3
     rw [HV.out]
     exact ⟨_, rfl, hown3', hB3⟩
    ·have HV := HNo hc
     have hcb' : (crc body != rd4 zs p) = true := by simp [hc]
     clear HYes HNo hc
     generalize crc body = C1 at *
     generalize rd4 zs p = C2 at *
     go_wp2
     go_ret3
     rw [HV.out]
     exact unf_empty hB3
   ·go_wp2_with (at_builtin; (try rw [Nat.add_sub_cancel_left]); refine wpList_append_src _ rfl _ _ 22 22 rfl w.heap.size 5 i0 (.int .u8 0) 1 1 Tryz.underlying22 hi hz0 hz1 hz2 rfl (.slice (some ⟨w.heap.size, 0, none⟩) 0 0) 0 [] rfl (own_drewN (d := d) (World.ownsRow_lit w #[] 0 rN (by decide) rfl)) m (body.map (Value.int .u8)) (Src.rd Tryz.underlying22 HBL.out (hsub.below (hB.alloc (by simp) _))) (by unfold maxLen; omega) (by omega) (by simp) ?_)
    intro v3 w3 hown3 hgr3
    have hB3 : Below w.heap.size w w3 := (below_drewN (rB.alloc rN _) d).grown hgr3 (by simp) (fun k h => by simp [Value.ownBlock] at h; omega)
    have hown3' : w3.ownsRow w.heap.size 5 1 v3 body.length (body.map (Value.int .u8)) := own_congr hown3 (by have h := HBL.out; omega) (by simp)
    clear hown3 hgr3
    obtain ⟨a3, c3, rfl, _, hq3⟩ := own_rd rfl hown3'
    have hcb := crc_bd hbody
    have hrb := rd4_bd hb p
    go_wp2_with fail
    refine (specSum_any a3 body.length c3 body w3 w3.heap.size rfl (by rw [HBL.out]; omega) hbody hq3).mono ?_
    rintro e w4 ⟨rfl, rfl⟩
    by_cases hc : crc body = rd4 zs p
    ·have HV := HYes hc
     have hcb' : (crc body != rd4 zs p) = false := by simp [hc]
     clear HYes HNo hc
     generalize crc body = C1 at *
     generalize rd4 zs p = C2 at *
     go_wp2
     go_ret3
     rw [HV.out]
     exact ⟨_, rfl, hown3', hB3⟩
    ·have HV := HNo hc
     have hcb' : (crc body != rd4 zs p) = true := by simp [hc]
     clear HYes HNo hc
     generalize crc body = C1 at *
     generalize rd4 zs p = C2 at *
     go_wp2
     go_ret3
     rw [HV.out]
     exact unf_empty hB3
theorem getNum_on {b : List Int} {p : Int} (h : (getNum b p).2.2 = true) : p < (getNum b p).2.1 := by
 simp only [getNum] at h ⊢
 by_cases h1 : p < 0 ∨ (b.length : Int) <= p
 ·rw [if_pos h1] at h; simp [noNum] at h
 ·rw [if_neg h1] at h ⊢
  by_cases h2 : b.getD p.toNat 0 = 128
  ·rw [if_pos h2] at h; simp [noNum] at h
  ·rw [if_neg h2] at h ⊢
   have := gnS_bounds 5 _ 0 p (by omega) h
   omega
theorem unframe_bd {zs : List Int} (hb : BytesOk zs) {p : Int} (h : (unframe zs p).2.2 = true) :
  0 <= p /\ p < (unframe zs p).2.1 /\ (unframe zs p).2.1 <= zs.length /\ BytesOk (unframe zs p).1 /\ (unframe zs p).1.length <= zs.length := by
 unfold unframe at h ⊢
 by_cases h1 : p < 0 ∨ (zs.length : Int) - 4 < p
 ·rw [if_pos h1] at h; cases h
 ·rw [if_neg h1] at h ⊢
  by_cases h2 : (getText zs (p + 4)).2.2 = true /\ crc (getText zs (p + 4)).1 = rd4 zs p.toNat
  ·rw [if_pos h2]
   have h3 := h2.1
   have h4 : (getNum zs (p + 4)).2.2 = true := by
    unfold getText at h3
    by_cases h5 : (getNum zs (p + 4)).2.2 = true /\ (getNum zs (p + 4)).1 <= zs.length - (getNum zs (p + 4)).2.1
    ·exact h5.1
    ·rw [if_neg h5] at h3; cases h3
   have h5 := getNum_bounds h4
   have h6 := getNum_on h4
   unfold getText at h3 ⊢
   by_cases h7 : (getNum zs (p + 4)).2.2 = true /\ (getNum zs (p + 4)).1 <= zs.length - (getNum zs (p + 4)).2.1
   ·rw [if_pos h7]
    have h8 := h7.2
    refine ⟨by omega, ?_, ?_, getText_ok hb _ _, ?_⟩
    ·show p < (getNum zs (p + 4)).2.1 + (getNum zs (p + 4)).1
     omega
    ·show (getNum zs (p + 4)).2.1 + (getNum zs (p + 4)).1 <= (zs.length : Int)
     omega
    ·show ((zs.drop _).take _).length <= zs.length
     simp
     omega
   ·rw [if_neg h7] at h3; cases h3
  ·rw [if_neg h2] at h; cases h
theorem unframe_bad {zs : List Int} {p : Int} (h : (unframe zs p).2.2 = false) : unframe zs p = ([], p, false) := by
 unfold unframe at h ⊢
 by_cases h1 : p < 0 ∨ (zs.length : Int) - 4 < p
 ·rw [if_pos h1]
 ·rw [if_neg h1] at h ⊢
  by_cases h2 : (getText zs (p + 4)).2.2 = true /\ crc (getText zs (p + 4)).1 = rd4 zs p.toNat
  ·rw [if_pos h2] at h; cases h
  ·rw [if_neg h2]
def recsF : Nat -> List Int -> Int -> List (List Int) × Int
 | 0, _, p => ([], p)
 | f + 1, zs, p => if (unframe zs p).2.2 then ((unframe zs p).1 :: (recsF f zs (unframe zs p).2.1).1, (recsF f zs (unframe zs p).2.1).2) else ([], p)
def recsP (zs : List Int) : List (List Int) × Int := recsF (zs.length + 1) zs 0
def RecAt (zs : List Int) (out : List (List Int)) (p : Int) : Prop := ∃ f, zs.length + 1 <= f + p.toNat /\ recsP zs = (out ++ (recsF f zs p).1, (recsF f zs p).2)
theorem RecAt.start (zs : List Int) : RecAt zs [] 0 := ⟨zs.length + 1, by simp, by simp [recsP]⟩
theorem RecAt.on {zs : List Int} (hb : BytesOk zs) {out : List (List Int)} {p : Int} (h : RecAt zs out p) (hu : (unframe zs p).2.2 = true) : RecAt zs (out ++ [(unframe zs p).1]) (unframe zs p).2.1 := by
 obtain ⟨f, h1, h2⟩ := h
 have h3 := unframe_bd hb hu
 cases f with
 | zero => omega
 | succ f =>
  refine ⟨f, by omega, ?_⟩
  rw [h2, recsF, if_pos hu]
  simp
theorem RecAt.done {zs : List Int} {out : List (List Int)} {p : Int} (h : RecAt zs out p) (hp : p <= zs.length) (hu : (unframe zs p).2.2 = false) : recsP zs = (out, p) := by
 obtain ⟨f, h1, h2⟩ := h
 cases f with
 | zero => omega
 | succ f =>
  rw [h2, recsF, if_neg (by rw [hu]; simp)]
  simp
theorem Tryz.infoBS : (Tryz.prog.info? 22).map (fun i => (i.zero, i.size, i.bytes)) = some (some (.slice none 0 0), 1, 24) := by kernel_rfl
theorem ownBs_lit (w : World) : ownS 1 22 oBy (w.alloc (.cells #[] 22)) (.slice (some ⟨w.heap.size, 0, none⟩) 0 0) [] [w.heap.size] :=
 .inr ⟨w.heap.size, 0, #[], [], rfl, (show (w.heap.push _)[w.heap.size]? = _ from Array.getElem?_push_size), rN, by simp [maxLen], by simp, rfl, fun j h => by simp at h, by simp⟩
theorem newB_own {w : World} {base : Nat} {v : Value} {zs : List Int} (hb : BytesOk zs) (h : w.ownsRow base 5 1 v zs.length (zs.map (Value.int .u8))) : oBy w [v] zs v.ownBlock.toList :=
 ⟨v, rfl, own_base h (Nat.zero_le _), hb, rfl⟩
theorem ownS_in {α : Type} {size : Nat} {e : TypeId} {O : ORep α} {w : World} {v : Value} {l : List α} {F : List Nat} (h : ownS size e O w v l F) : ∀ k, v.ownBlock = some k -> k ∈ F := by
 intro k hk
 rcases h with ⟨rfl, _, _⟩ | ⟨g, cap, cur, Fs, rfl, _, _, _, _, _, _, rfl⟩
 ·simp [Value.ownBlock] at hk
 ·simp [Value.ownBlock] at hk
  simp [hk]
set_option maxHeartbeats 2000000 in
theorem specRecords_any (a : Option Addr) (n cap : Nat) (zs : List Int) (w : World) (hx : zs.length = n) (hlen : n <= 1048576) (hcap : n <= cap) (hb : BytesOk zs) (hr : Rd .u8 w.heap.size w a zs) :
  Calls Tryz.prog 23 #[.slice a n cap] w fun e w' => ∃ v F, e = .returned (.tuple #[v, .int .i64 (recsP zs).2]) /\ ownS 1 22 oBy w' v (recsP zs).1 F /\ F.Nodup /\ (∀ b, b ∈ F -> w.heap.size <= b) /\ Below w.heap.size w w' := by
 obtain ⟨i0, hi, hz0, hz1, hz2⟩ := info_parts Tryz.infoBS
 have HX := Hm hx
 have HB := Hm hb
 have HR := Hm hr
 clear hx hb hr
 go_enter Tryz.func23, Tryz.ntmps23
 go_wp2_with fail
 go_loopw [4, 5] (fun o pv wr => ∃ (p : Nat) (out : List (List Int)) (F : List Nat), p <= n /\ out.length <= p /\ pv = .int .i64 p /\ RecAt zs out p /\ ownS 1 22 oBy wr o out F /\ F.Nodup /\ (∀ b, b ∈ F -> w.heap.size <= b) /\ Below w.heap.size w wr) (fun _ pv _ => n + 1 - (intOf pv).toNat)
 case atStart => exact ⟨0, [], [w.heap.size], Nat.zero_le _, rN, rfl, RecAt.start zs, ownBs_lit w, by simp, by simp, rB.alloc rN _⟩
 case round =>
  obtain ⟨p, out, F, hp, hol, rfl, hra, how, hN, hge, hbk⟩ := hrel
  have HRA := Hm hra
  clear hra
  have hR1 := (HR.out.below hbk).mono hbk.size
  go_wp2_with fail
  refine (specUnframe_any a n cap zs p wr HX.out (by omega) hcap HB.out hR1).mono ?_
  rintro e w1 ⟨v1, rfl, ho1, hx1⟩
  have hB1 := hbk.trans (hx1.mono hbk.size)
  have how1 := ownS.frame oBy_good how (fun b hb => hx1.block b (ownS.lt oBy_good how b hb))
  cases hu : (unframe zs p).2.2 with
  | false =>
   have HD : Hid (recsP zs = (out, (p : Int))) := RecAt.done HRA.out (by rw [HX.out]; omega) hu
   have hbad := unframe_bad hu
   rw [hbad] at ho1 ⊢
   go_wp2_with fail
   go_ret2
   exact ⟨_, F, by rw [HD.out]; rfl, by rw [HD.out]; exact how1, hN, hge, hB1⟩
  | true =>
   have hbd := unframe_bd HB.out hu
   have HN := Hm (RecAt.on HB.out HRA.out hu)
   obtain ⟨bd, hbdd⟩ : ∃ x, x = (unframe zs p).1 := ⟨_, rfl⟩
   obtain ⟨nx, hnx⟩ : ∃ x : Nat, (x : Int) = (unframe zs p).2.1 := ⟨(unframe zs p).2.1.toNat, by omega⟩
   rw [<- hbdd] at ho1 hbd HN
   rw [<- hnx] at hbd HN ⊢
   have hln : (nx : Int) <= n := by have := hbd.2.2.1; rw [HX.out] at this; exact this
   have hon : (p : Int) < nx := hbd.2.1
   have hbl : bd.length <= n := by have := hbd.2.2.2.2; rw [HX.out] at this; exact this
   have hO1 := newB_own hbd.2.2.2.1 ho1
   have hF1 : ∀ b, b ∈ v1.ownBlock.toList -> wr.heap.size <= b := fun b hb => (ho1.lt b (by simpa using hb)).1
   obtain ⟨r1, q1, rfl, _, _⟩ := own_rd rfl ho1
   obtain ⟨xs, hxs, hpush⟩ := ownS.push oBy_good (ownS.frame oBy_good how1 (fun b hb => (show Below w1.heap.size w1 (w1.alloc (.cells #[.slice r1 bd.length q1] 22)) from rB.alloc rN _).block b (ownS.lt oBy_good how1 b hb))) hN
   obtain ⟨w2, hw2⟩ : ∃ x, x = w1.alloc (.cells #[.slice r1 bd.length q1] 22) := ⟨_, rfl⟩
   rw [<- hw2] at hxs hpush
   have hx2 : Below w1.heap.size w1 w2 := by rw [hw2]; exact rB.alloc rN _
   have hbx : Bx w2 w1.heap.size [.slice r1 bd.length q1] := by rw [hw2]; exact Bx.new _ _ _
   have hB2 := hB1.trans (hx2.mono hB1.size)
   have HLT : Hid (∀ b, b ∈ F -> b < wr.heap.size) := fun b hb => ownS.lt oBy_good how b hb
   have HOB := Hm (ownS_in how)
   clear hu hbd how how1 ho1 hbdd hnx
   go_wp2_with (at_builtin; rw [<- hw2]; refine wpList_append_own_at _ rfl _ _ 30 rfl 0 22 i0 (.slice none 0 0) 1 24 Tryz.underlying30 hi hz0 hz1 hz2 rfl (by decide) _ _ _ rfl hxs ⟨w1.heap.size, 0, none⟩ 1 1 [.slice r1 bd.length q1] rfl rfl (bx_news hbx) (by intro u hu; simp at hu; subst hu; rfl) (by unfold maxLen; omega) (by omega) (by omega) ?_; intro v3 w3 hown3 hgrow3 hnil3 hloc3)
   have hO2 := oBy_good.frame hO1 (fun b hb => hx2.block b (oBy_good.lt hO1 b hb))
   obtain ⟨F', hF', hN', hin⟩ := hpush w3 v3 _ bd _ hown3 hgrow3 hloc3 hO2 (by cases (Value.ownBlock _) <;> simp) (fun b hb hbF => by have h1 := hF1 b hb; have h2 := HLT.out b hbF; omega)
   have hB3 := hB2.grown hgrow3 hB2.size (fun k h => hge k (HOB.out k h))
   have hge' : ∀ b, b ∈ F' -> w.heap.size <= b := fun b hb => by
    rcases hin b hb with h | h | h
    ·exact hge b h
    ·exact Nat.le_trans hbk.size (hF1 b h)
    ·rw [h]; exact hB2.size
   clear hpush hown3 hgrow3 hnil3 hloc3 hxs hO1 hO2 hbx
   go_wp2_with fail
   go_roundw
   case rel => exact ⟨nx, out ++ [bd], F', by omega, by simp; omega, rfl, HN.out, hF', hN', hge', hB3⟩
   case measure => simp [intOf]; omega
theorem unframe_more {zs : List Int} {p : Int} (h : (unframe zs p).2.2 = true) : p + 1 + (unframe zs p).1.length <= (unframe zs p).2.1 := by
 unfold unframe at h ⊢
 by_cases h1 : p < 0 ∨ (zs.length : Int) - 4 < p
 ·rw [if_pos h1] at h; cases h
 ·rw [if_neg h1] at h ⊢
  by_cases h2 : (getText zs (p + 4)).2.2 = true /\ crc (getText zs (p + 4)).1 = rd4 zs p.toNat
  ·rw [if_pos h2]
   have h3 := h2.1
   unfold getText at h3 ⊢
   by_cases h7 : (getNum zs (p + 4)).2.2 = true /\ (getNum zs (p + 4)).1 <= zs.length - (getNum zs (p + 4)).2.1
   ·rw [if_pos h7]
    have h5 := getNum_bounds h7.1
    have h6 := getNum_on h7.1
    show p + 1 + (((zs.drop _).take _).length : Int) <= (getNum zs (p + 4)).2.1 + (getNum zs (p + 4)).1
    have h8 : (((zs.drop (getNum zs (p + 4)).2.1.toNat).take (getNum zs (p + 4)).1.toNat).length : Int) <= (getNum zs (p + 4)).1 := by
     rw [List.length_take]
     omega
    omega
   ·rw [if_neg h7] at h3; cases h3
  ·rw [if_neg h2] at h; cases h
theorem recsF_bound {zs : List Int} (hb : BytesOk zs) : ∀ (f : Nat) (p : Int), 0 <= p -> p <= zs.length -> ((recsF f zs p).1.length + sumW List.length (recsF f zs p).1 : Nat) <= zs.length - p
 | 0, p, h0, h1 => by simp [recsF, sumW]; omega
 | f + 1, p, h0, h1 => by
  rw [recsF]
  by_cases hu : (unframe zs p).2.2 = true
  ·rw [if_pos hu]
   have h2 := unframe_bd hb hu
   have h3 := unframe_more hu
   have h4 := recsF_bound hb f (unframe zs p).2.1 (by omega) h2.2.2.1
   simp only [List.length_cons, sumW, List.map_cons, List.sum_cons] at h4 ⊢
   omega
  ·rw [if_neg hu]
   simp [sumW]
   omega
theorem boundRecords_0 (zs : List Int) (hb : BytesOk zs) (hw : zs.length <= 1048576) : wBs (recsP zs).1 <= 1099511627776 := by
 have h := recsF_bound hb (zs.length + 1) 0 (by omega) (by omega)
 unfold wBs recsP
 omega
theorem recsF_place {zs : List Int} (hb : BytesOk zs) : ∀ (f : Nat) (p : Int), 0 <= p -> p <= zs.length -> 0 <= (recsF f zs p).2 /\ (recsF f zs p).2 <= zs.length
 | 0, p, h0, h1 => ⟨h0, h1⟩
 | f + 1, p, h0, h1 => by
  rw [recsF]
  by_cases hu : (unframe zs p).2.2 = true
  ·rw [if_pos hu]
   have h2 := unframe_bd hb hu
   exact recsF_place hb f (unframe zs p).2.1 (by omega) h2.2.2.1
  ·rw [if_neg hu]
   exact ⟨h0, h1⟩
theorem recs_place {zs : List Int} (hb : BytesOk zs) : 0 <= (recsP zs).2 /\ (recsP zs).2 <= zs.length := recsF_place hb _ 0 (by omega) (by omega)
theorem Rd.front {k : IntKind} {B : Nat} {w : World} {a : Option Addr} {zs : List Int} (h : Rd k B w a zs) (q : Nat) : Rd k B w a (zs.take q) := by
 intro j hj
 have hjq : j < q /\ j < zs.length := by simp at hj; omega
 obtain ⟨b, o, e, hB, hc⟩ := h j hjq.2
 refine ⟨b, o, e, hB, ?_⟩
 rw [hc]
 congr 2
 simp [List.getD_eq_getElem?_getD, List.getElem?_take, hjq.1]
end Go.Proofs.YtegonncmopecnaaGreatDoor

namespace Go.Proofs.YtegonncmopecnaaGreatDoor
theorem gnS_lo (f : Nat) (c : Int) (r : List Int) (n p : Int) (h : c < 128) (hn : ¬ 1000000000 < n * 128 + c % 128) : gnS (f + 1) (c :: r) n p = (n * 128 + c % 128, p + 1, true) := by
 simp only [gnS]; rw [if_pos h, if_neg hn]
theorem gnS_hi (f : Nat) (c : Int) (r : List Int) (n p : Int) (h : ¬ c < 128) : gnS (f + 1) (c :: r) n p = gnS f r (n * 128 + c % 128) (p + 1) := by
 simp only [gnS]; rw [if_neg h]
theorem putNum_cases {N : Int} (h0 : 0 <= N) (h1 : N <= 1000000000) :
  (N < 128 /\ putNum N = [N % 128]) ∨
  (128 <= N /\ N < 16384 /\ putNum N = [N / 128 % 128 + 128, N % 128]) ∨
  (16384 <= N /\ N < 2097152 /\ putNum N = [N / 16384 % 128 + 128, N / 128 % 128 + 128, N % 128]) ∨
  (2097152 <= N /\ N < 268435456 /\ putNum N = [N / 2097152 % 128 + 128, N / 16384 % 128 + 128, N / 128 % 128 + 128, N % 128]) ∨
  (268435456 <= N /\ putNum N = [N / 268435456 % 128 + 128, N / 2097152 % 128 + 128, N / 16384 % 128 + 128, N / 128 % 128 + 128, N % 128]) := by
 by_cases a : N < 128
 ·left
  refine ⟨a, ?_⟩
  simp only [putNum, hiTo]
  rw [hiG_no (by omega), hiG_no (by omega), hiG_no (by omega), hiG_no (by omega)]
  rfl
 ·right
  by_cases b : N < 16384
  ·left
   refine ⟨by omega, b, ?_⟩
   simp only [putNum, hiTo]
   rw [hiG_no (by omega), hiG_no (by omega), hiG_no (by omega), hiG_yes (by omega)]
   rfl
  ·right
   by_cases c : N < 2097152
   ·left
    refine ⟨by omega, c, ?_⟩
    simp only [putNum, hiTo]
    rw [hiG_no (by omega), hiG_no (by omega), hiG_yes (by omega), hiG_yes (by omega)]
    rfl
   ·right
    by_cases d : N < 268435456
    ·left
     refine ⟨by omega, d, ?_⟩
     simp only [putNum, hiTo]
     rw [hiG_no (by omega), hiG_yes (by omega), hiG_yes (by omega), hiG_yes (by omega)]
     rfl
    ·right
     refine ⟨by omega, ?_⟩
     simp only [putNum, hiTo]
     rw [hiG_yes (by omega), hiG_yes (by omega), hiG_yes (by omega), hiG_yes (by omega)]
     rfl
theorem num_eq {a b : Int × Int × Bool} (h1 : a.1 = b.1) (h2 : a.2.1 = b.2.1) (h3 : a.2.2 = b.2.2) : a = b := by
 obtain ⟨a1, a2, a3⟩ := a
 obtain ⟨b1, b2, b3⟩ := b
 simp only at h1 h2 h3
 subst h1 h2 h3
 rfl
theorem gnS_put {N : Int} (h0 : 0 <= N) (h1 : N <= 1000000000) (r : List Int) (p : Int) : gnS 5 (putNum N ++ r) 0 p = (N, p + (putNum N).length, true) := by
 rcases putNum_cases h0 h1 with ⟨a, e⟩ | ⟨a, b, e⟩ | ⟨a, b, e⟩ | ⟨a, b, e⟩ | ⟨a, e⟩
 all_goals rw [e]; simp only [List.cons_append, List.nil_append, List.length_cons, List.length_nil]
 ·rw [gnS_lo _ _ _ _ _ (by omega) (by omega)]
  refine num_eq ?_ ?_ rfl <;> simp only <;> omega
 ·rw [gnS_hi _ _ _ _ _ (by omega), gnS_lo _ _ _ _ _ (by omega) (by omega)]
  refine num_eq ?_ ?_ rfl <;> simp only <;> omega
 ·rw [gnS_hi _ _ _ _ _ (by omega), gnS_hi _ _ _ _ _ (by omega), gnS_lo _ _ _ _ _ (by omega) (by omega)]
  refine num_eq ?_ ?_ rfl <;> simp only <;> omega
 ·rw [gnS_hi _ _ _ _ _ (by omega), gnS_hi _ _ _ _ _ (by omega), gnS_hi _ _ _ _ _ (by omega), gnS_lo _ _ _ _ _ (by omega) (by omega)]
  refine num_eq ?_ ?_ rfl <;> simp only <;> omega
 ·rw [gnS_hi _ _ _ _ _ (by omega), gnS_hi _ _ _ _ _ (by omega), gnS_hi _ _ _ _ _ (by omega), gnS_hi _ _ _ _ _ (by omega), gnS_lo _ _ _ _ _ (by omega) (by omega)]
  refine num_eq ?_ ?_ rfl <;> simp only <;> omega
theorem put_head {N : Int} (h0 : 0 <= N) (h1 : N <= 1000000000) : (putNum N).getD 0 0 ≠ 128 := by
 rcases putNum_cases h0 h1 with ⟨a, e⟩ | ⟨a, b, e⟩ | ⟨a, b, e⟩ | ⟨a, b, e⟩ | ⟨a, e⟩
 all_goals rw [e]; simp only [List.getD_cons_zero]; omega
theorem getD_append_at (zs l : List Int) : (zs ++ l).getD zs.length 0 = l.getD 0 0 := by
 rw [List.getD_eq_getElem?_getD, List.getD_eq_getElem?_getD, List.getElem?_append_right rN, Nat.sub_self]
theorem getNum_put {N : Int} (h0 : 0 <= N) (h1 : N <= 1000000000) (zs r : List Int) : getNum (zs ++ putNum N ++ r) zs.length = (N, ((zs ++ putNum N).length : Int), true) := by
 have hl := putNum_length N
 rw [List.append_assoc]
 have hd : (zs ++ (putNum N ++ r)).getD zs.length 0 = (putNum N).getD 0 0 := by
  rw [getD_append_at]
  cases hp : putNum N with
  | nil => rw [hp] at hl; simp at hl
  | cons a b => rfl
 rw [getNum_S (by simp; omega) (by rw [hd]; exact put_head h0 h1), List.drop_left, gnS_put h0 h1]
 refine num_eq rfl ?_ rfl
 simp
end Go.Proofs.YtegonncmopecnaaGreatDoor

namespace Go.Proofs.YtegonncmopecnaaGreatDoor
open Go.RowKit
theorem putNum_fin : ∀ n : Fin 128, putNum ((n.val : Nat) : Int) = [((n.val : Nat) : Int)] := by decide +kernel
theorem putNum_small {n : Nat} (h : n < 128) : putNum (n : Int) = [(n : Int)] := putNum_fin ⟨n, h⟩
def sumOf (a b c d : Int) : Int := a * 16777216 + b * 65536 + c * 256 + d
theorem unframe_lay (pre body t : List Int) (a b c d : Int) (hm : body.length < 128) :
  unframe (pre ++ ([a, b, c, d] ++ ((body.length : Int) :: (body ++ t)))) (pre.length : Nat) =
   if crc body = sumOf a b c d then (body, ((pre.length + 5 + body.length : Nat) : Int), true) else ([], (pre.length : Int), false) := by
 obtain ⟨zs, hzs⟩ : ∃ zs, zs = pre ++ ([a, b, c, d] ++ ((body.length : Int) :: (body ++ t))) := ⟨_, rfl⟩
 have hlen : zs.length = pre.length + 5 + body.length + t.length := by rw [hzs]; simp; omega
 have hn : getNum zs ((pre.length : Int) + 4) = ((body.length : Int), ((pre.length + 5 : Nat) : Int), true) := by
  have h := getNum_put (N := (body.length : Int)) (by omega) (by omega) (pre ++ [a, b, c, d]) (body ++ t)
  rw [putNum_small hm] at h
  have e1 : pre ++ [a, b, c, d] ++ [(body.length : Int)] ++ (body ++ t) = zs := by rw [hzs]; simp
  rw [e1] at h
  have e2 : (((pre ++ [a, b, c, d]).length : Nat) : Int) = (pre.length : Int) + 4 := by simp
  rw [e2] at h
  rw [h]
  simp
 have ht : getText zs ((pre.length : Int) + 4) = (body, ((pre.length + 5 + body.length : Nat) : Int), true) := by
  rw [getText_yes (m := body.length) (f := pre.length + 5) hn (by rw [hlen]; omega)]
  have e : (zs.drop (pre.length + 5)).take body.length = body := by
   have e3 : zs = (pre ++ [a, b, c, d, (body.length : Int)]) ++ (body ++ t) := by rw [hzs]; simp
   rw [e3, List.drop_left' (by simp), List.take_left' rfl]
  rw [e]
 have hr : rd4 zs pre.length = sumOf a b c d := by
  unfold rd4 sumOf
  have g : ∀ j, zs.getD (pre.length + j) 0 = ([a, b, c, d] ++ ((body.length : Int) :: (body ++ t))).getD j 0 := by
   intro j
   rw [hzs, List.getD_eq_getElem?_getD, List.getD_eq_getElem?_getD, List.getElem?_append_right (by omega)]
   congr 2
   omega
  have g0 := g 0
  have g1 := g 1
  have g2 := g 2
  have g3 := g 3
  rw [Nat.add_zero] at g0
  rw [g0, g1, g2, g3]
  rfl
 rw [<- hzs]
 by_cases hc : crc body = sumOf a b c d
 ·rw [if_pos hc]
  exact unframe_yes (by omega) ht (by rw [hr]; exact hc)
 ·rw [if_neg hc]
  exact unframe_sum (by omega) ht (by rw [hr]; exact hc)
theorem frame_small {bs : List Int} (h : bs.length < 128) : frame bs = four (crc bs) ++ ((bs.length : Int) :: bs) := by
 unfold frame
 rw [clampN_in (by omega) (by omega), putNum_small h]
 simp
theorem frame_len {bs : List Int} (h : bs.length < 128) : (frame bs).length = 5 + bs.length := by
 rw [frame_small h]
 simp [four]
 omega
theorem sum_four {x : Int} (h0 : 0 <= x) (h1 : x < 4294967296) : sumOf (x / 16777216) (x / 65536 % 256) (x / 256 % 256) (x % 256) = x := by
 unfold sumOf
 omega
theorem unframe_frame (pre t : List Int) {bs : List Int} (hb : BytesOk bs) (h : bs.length < 128) : unframe (pre ++ (frame bs ++ t)) (pre.length : Nat) = (bs, ((pre.length + (frame bs).length : Nat) : Int), true) := by
 have h1 := unframe_lay pre bs t (crc bs / 16777216) (crc bs / 65536 % 256) (crc bs / 256 % 256) (crc bs % 256) h
 have h2 := crc_bd hb
 rw [sum_four h2.1 h2.2, if_pos rfl] at h1
 rw [frame_small h]
 have e : four (crc bs) ++ (bs.length : Int) :: bs ++ t = [crc bs / 16777216, crc bs / 65536 % 256, crc bs / 256 % 256, crc bs % 256] ++ ((bs.length : Int) :: (bs ++ t)) := by simp [four]
 rw [e, h1]
 simp [four]
 omega
theorem gn_on : ∀ (f : Nat) (l : List Int) (n p : Int), (gnS f l n p).2.2 = true -> p < (gnS f l n p).2.1
 | 0, l, n, p, h => by simp [gnS, noNum] at h
 | f + 1, [], n, p, h => by simp [gnS, noNum] at h
 | f + 1, c :: r, n, p, h => by
  simp only [gnS] at h ⊢
  by_cases hc : c < 128
  ·rw [if_pos hc] at h ⊢
   by_cases hn : 1000000000 < n * 128 + c % 128
   ·rw [if_pos hn] at h; simp [noNum] at h
   ·rw [if_neg hn]; simp; omega
  ·rw [if_neg hc] at h ⊢
   have := gn_on f r _ _ h
   omega
theorem gn_same (r r' : List Int) : ∀ (f : Nat) (c : List Int) (n p : Int), (gnS f (c ++ r) n p).2.2 = true -> (gnS f (c ++ r) n p).2.1 <= p + c.length -> gnS f (c ++ r') n p = gnS f (c ++ r) n p
 | 0, c, n, p, h, _ => by simp [gnS, noNum] at h
 | f + 1, [], n, p, h, hl => by
  have := gn_on _ _ _ _ h
  simp only [List.length_nil] at hl
  omega
 | f + 1, a :: c, n, p, h, hl => by
  simp only [List.cons_append, gnS] at h hl ⊢
  by_cases hc : a < 128
  ·rw [if_pos hc, if_pos hc]
  ·rw [if_neg hc] at h hl ⊢
   rw [if_neg hc]
   exact gn_same r r' f c _ _ h (by simp only [List.length_cons] at hl; omega)
theorem num_at {c : List Int} (t : List Int) {p : Int} (h0 : 0 <= p) (hp : p < c.length) : getNum (c ++ t) p = if c.getD p.toNat 0 = 128 then noNum else gnS 5 (c.drop p.toNat ++ t) 0 p := by
 have hg : (c ++ t).getD p.toNat 0 = c.getD p.toNat 0 := by rw [List.getD_eq_getElem?_getD, List.getD_eq_getElem?_getD, List.getElem?_append_left (by omega)]
 have hd : (c ++ t).drop p.toNat = c.drop p.toNat ++ t := by rw [List.drop_append_of_le_length (by omega)]
 simp only [getNum]
 rw [if_neg (by simp only [List.length_append]; omega), hg, hd]
theorem num_same {c r r' : List Int} {p : Int} (h : (getNum (c ++ r) p).2.2 = true) (hl : (getNum (c ++ r) p).2.1 <= c.length) : getNum (c ++ r') p = getNum (c ++ r) p := by
 have hon := getNum_on h
 have hp : p < c.length := by omega
 have h0 : 0 <= p := by
  by_cases h0 : p < 0
  ·rw [getNum_out (.inl h0)] at h; simp [noNum] at h
  ·omega
 rw [num_at r h0 hp] at h hl ⊢
 rw [num_at r' h0 hp]
 by_cases h8 : c.getD p.toNat 0 = 128
 ·rw [if_pos h8, if_pos h8]
 ·rw [if_neg h8] at h hl ⊢
  rw [if_neg h8]
  exact gn_same r r' 5 _ _ _ h (by rw [List.length_drop]; omega)
theorem text_same {c r r' : List Int} {p : Int} (hb : 0 <= (getNum (c ++ r) p).1) (h : (getText (c ++ r) p).2.2 = true) (hl : (getText (c ++ r) p).2.1 <= c.length) : getText (c ++ r') p = getText (c ++ r) p := by
 simp only [getText] at h hl ⊢
 by_cases h1 : (getNum (c ++ r) p).2.2 = true /\ (getNum (c ++ r) p).1 <= (c ++ r).length - (getNum (c ++ r) p).2.1
 ·rw [if_pos h1] at h hl ⊢
  simp only at hl
  have hon := getNum_on h1.1
  have hs : getNum (c ++ r') p = getNum (c ++ r) p := num_same h1.1 (by omega)
  rw [hs]
  have hp : 0 <= p := by
   by_cases h0 : p < 0
   ·have := h1.1; rw [getNum_out (.inl h0)] at this; simp [noNum] at this
   ·omega
  rw [if_pos ⟨h1.1, by simp only [List.length_append]; omega⟩]
  have hd : ∀ t : List Int, ((c ++ t).drop (getNum (c ++ r) p).2.1.toNat).take (getNum (c ++ r) p).1.toNat = (c.drop (getNum (c ++ r) p).2.1.toNat).take (getNum (c ++ r) p).1.toNat := fun t => by
   rw [List.drop_append_of_le_length (by omega), List.take_append_of_le_length (by rw [List.length_drop]; omega)]
  rw [hd, hd]
 ·rw [if_neg h1] at h; cases h
theorem unframe_same {c r r' : List Int} (hb : BytesOk (c ++ r)) {p : Int} (h : (unframe (c ++ r) p).2.2 = true) (hl : (unframe (c ++ r) p).2.1 <= c.length) : unframe (c ++ r') p = unframe (c ++ r) p := by
 have hbd := unframe_bd hb h
 simp only [unframe] at h hl hbd ⊢
 by_cases h1 : p < 0 ∨ ((c ++ r).length : Int) - 4 < p
 ·rw [if_pos h1] at h; cases h
 ·rw [if_neg h1] at h hl hbd ⊢
  by_cases h2 : (getText (c ++ r) (p + 4)).2.2 = true /\ crc (getText (c ++ r) (p + 4)).1 = rd4 (c ++ r) p.toNat
  ·rw [if_pos h2] at h hl hbd ⊢
   simp only at hl hbd
   have hgt := h2.1
   have hnum : (getNum (c ++ r) (p + 4)).2.2 = true := by
    simp only [getText] at hgt
    by_cases h3 : (getNum (c ++ r) (p + 4)).2.2 = true /\ (getNum (c ++ r) (p + 4)).1 <= (c ++ r).length - (getNum (c ++ r) (p + 4)).2.1
    ·exact h3.1
    ·rw [if_neg h3] at hgt; cases hgt
   have hbn := getNum_bounds hnum
   have hon := getNum_on hnum
   have hle : (getNum (c ++ r) (p + 4)).2.1 <= (getText (c ++ r) (p + 4)).2.1 := by
    simp only [getText] at hgt ⊢
    by_cases h3 : (getNum (c ++ r) (p + 4)).2.2 = true /\ (getNum (c ++ r) (p + 4)).1 <= (c ++ r).length - (getNum (c ++ r) (p + 4)).2.1
    ·rw [if_pos h3]; show _ <= (getNum (c ++ r) (p + 4)).2.1 + (getNum (c ++ r) (p + 4)).1; omega
    ·rw [if_neg h3] at hgt; cases hgt
   have hts : getText (c ++ r') (p + 4) = getText (c ++ r) (p + 4) := text_same hbn.1 h2.1 hl
   have hg : ∀ (t : List Int) (j : Nat), j < c.length -> (c ++ t).getD j 0 = c.getD j 0 := fun t j hj => by
    rw [List.getD_eq_getElem?_getD, List.getD_eq_getElem?_getD, List.getElem?_append_left hj]
   have hrd : rd4 (c ++ r') p.toNat = rd4 (c ++ r) p.toNat := by
    unfold rd4
    rw [hg _ _ (by omega), hg _ _ (by omega), hg _ _ (by omega), hg _ _ (by omega), hg _ _ (by omega), hg _ _ (by omega), hg _ _ (by omega), hg _ _ (by omega)]
   rw [if_neg (by simp only [List.length_append]; omega), hts, hrd, if_pos h2]
  ·rw [if_neg h2] at h; cases h
theorem recsF_mono {zs : List Int} (hb : BytesOk zs) : ∀ (f : Nat) (p : Int), p <= (recsF f zs p).2
 | 0, p => Int.le_refl _
 | f + 1, p => by
  simp only [recsF]
  by_cases h : (unframe zs p).2.2 = true
  ·rw [if_pos h]
   have h1 := recsF_mono hb f (unframe zs p).2.1
   have h2 := unframe_bd hb h
   show p <= (recsF f zs (unframe zs p).2.1).2
   omega
  ·rw [if_neg h]; exact Int.le_refl _
theorem recsF_same {c r r' : List Int} (hb : BytesOk (c ++ r)) : ∀ (f : Nat) (p : Int), (recsF f (c ++ r) p).2 <= c.length -> ∀ f', recsF (f' + (recsF f (c ++ r) p).1.length) (c ++ r') p = ((recsF f (c ++ r) p).1 ++ (recsF f' (c ++ r') (recsF f (c ++ r) p).2).1, (recsF f' (c ++ r') (recsF f (c ++ r) p).2).2)
 | 0, p, h, f' => by simp [recsF]
 | f + 1, p, h, f' => by
  simp only [recsF] at h ⊢
  by_cases hu : (unframe (c ++ r) p).2.2 = true
  ·rw [if_pos hu] at h ⊢
   simp only at h ⊢
   have hm := recsF_mono hb f (unframe (c ++ r) p).2.1
   have hs : unframe (c ++ r') p = unframe (c ++ r) p := unframe_same hb hu (by omega)
   have ih := recsF_same (r' := r') hb f (unframe (c ++ r) p).2.1 h f'
   rw [List.length_cons, <- Nat.add_assoc]
   simp only [recsF]
   rw [hs, if_pos hu, ih]
   rfl
  ·rw [if_neg hu] at h ⊢
   simp
theorem recsF_len {zs : List Int} (hb : BytesOk zs) : ∀ (f : Nat) (p : Int), p + ((recsF f zs p).1.length : Int) <= (recsF f zs p).2
 | 0, p => by simp [recsF]
 | f + 1, p => by
  simp only [recsF]
  by_cases h : (unframe zs p).2.2 = true
  ·rw [if_pos h]
   have h1 := recsF_len hb f (unframe zs p).2.1
   have h2 := unframe_bd hb h
   simp only [List.length_cons]
   omega
  ·rw [if_neg h]; simp
theorem recs_len {zs : List Int} (hb : BytesOk zs) : ((recsP zs).1.length : Int) <= (recsP zs).2 := by
 have := recsF_len hb (zs.length + 1) 0
 unfold recsP
 omega
theorem recs_cut {c r : List Int} (hb : BytesOk (c ++ r)) (h : (recsP (c ++ r)).2 = c.length) : recsP c = ((recsP (c ++ r)).1, (c.length : Int)) := by
 have hl := recs_len hb
 rw [h] at hl
 have hs := recsF_same (r' := []) hb ((c ++ r).length + 1) 0 (by show (recsP (c ++ r)).2 <= _; omega) (c.length + 1 - (recsP (c ++ r)).1.length)
 rw [List.append_nil] at hs
 have e : c.length + 1 - (recsP (c ++ r)).1.length + (recsF ((c ++ r).length + 1) (c ++ r) 0).1.length = c.length + 1 := by show _ - _ + (recsP (c ++ r)).1.length = _; omega
 rw [e] at hs
 show recsF (c.length + 1) c 0 = _
 rw [hs]
 have hq : (recsF ((c ++ r).length + 1) (c ++ r) 0).2 = c.length := h
 rw [hq]
 obtain ⟨f', hf⟩ : ∃ f', c.length + 1 - (recsP (c ++ r)).1.length = f' + 1 := ⟨c.length - (recsP (c ++ r)).1.length, by omega⟩
 rw [hf]
 have ho : unframe c (c.length : Int) = ([], (c.length : Int), false) := unframe_out (.inr (by omega))
 have e2 : recsF (f' + 1) c (c.length : Int) = ([], (c.length : Int)) := by simp only [recsF]; rw [ho]; simp
 rw [e2, List.append_nil]
 rfl
theorem recs_more {c : List Int} (hb : BytesOk c) (h : (recsP c).2 = c.length) {bs : List Int} (hbs : BytesOk bs) (h8 : bs.length < 128) : (recsP (c ++ frame bs)).1 = (recsP c).1 ++ [bs] := by
 have hl := recs_len hb
 rw [h] at hl
 have hfl := frame_len h8
 have hb' : BytesOk (c ++ []) := by rw [List.append_nil]; exact hb
 have hs := recsF_same (c := c) (r := []) (r' := frame bs) hb' (c.length + 1) 0 (by rw [List.append_nil]; show (recsP c).2 <= _; omega) ((c ++ frame bs).length + 1 - (recsP c).1.length)
 rw [List.append_nil] at hs
 have e : (c ++ frame bs).length + 1 - (recsP c).1.length + (recsF (c.length + 1) c 0).1.length = (c ++ frame bs).length + 1 := by show _ - _ + (recsP c).1.length = _; rw [List.length_append]; omega
 rw [e] at hs
 show (recsF ((c ++ frame bs).length + 1) (c ++ frame bs) 0).1 = _
 rw [hs]
 have hq : (recsF (c.length + 1) c 0).2 = c.length := h
 rw [hq]
 obtain ⟨f', hf⟩ : ∃ f', (c ++ frame bs).length + 1 - (recsP c).1.length = f' + 2 := ⟨(c ++ frame bs).length - 1 - (recsP c).1.length, by rw [List.length_append]; omega⟩
 rw [hf]
 have hu := unframe_frame c [] hbs h8
 rw [List.append_nil] at hu
 have ho : unframe (c ++ frame bs) ((c.length + (frame bs).length : Nat) : Int) = ([], ((c.length + (frame bs).length : Nat) : Int), false) := unframe_out (.inr (by rw [List.length_append]; omega))
 have e2 : (recsF (f' + 2) (c ++ frame bs) (c.length : Int)).1 = [bs] := by
  simp only [recsF]
  rw [hu]
  simp only [if_true]
  rw [ho]
  simp
 show (recsF (c.length + 1) c 0).1 ++ (recsF (f' + 2) (c ++ frame bs) (c.length : Int)).1 = _
 rw [e2]
 rfl
def mendN : ByteArray := ⟨#[109, 101, 110, 100]⟩
def foreP (m : MDisk) (s : ByteArray) : List Int := (dataOf m s).take (recsP (dataOf m s)).2.toNat
def mendR (m : MDisk) (s : ByteArray) : MDisk × List (List Int) × Int :=
 if callP m s ≠ 0 then (m, [], callP m s)
 else if (recsP (dataOf m s)).2 = ((dataOf m s).length : Int) then (m, (recsP (dataOf m s)).1, 0)
 else if (switchP m mendN (foreP m s) s).2 = 0 then ((switchP m mendN (foreP m s) s).1, (recsP (dataOf m s)).1, 0)
 else (m, [], (switchP m mendN (foreP m s) s).2)
def mendD (m : MDisk) (s : ByteArray) : MDisk := (mendR m s).1
def mendL (m : MDisk) (s : ByteArray) : List (List Int) := (mendR m s).2.1
def mendC (m : MDisk) (s : ByteArray) : Int := (mendR m s).2.2
theorem mend_no {m : MDisk} {s : ByteArray} (h : callP m s ≠ 0) : mendR m s = (m, [], callP m s) := by unfold mendR; rw [if_pos h]
theorem mend_whole {m : MDisk} {s : ByteArray} (h : callP m s = 0) (h2 : (recsP (dataOf m s)).2 = ((dataOf m s).length : Int)) : mendR m s = (m, (recsP (dataOf m s)).1, 0) := by
 unfold mendR; rw [if_neg (by simp [h]), if_pos h2]
theorem mend_good {m : MDisk} {s : ByteArray} (h : callP m s = 0) (h2 : (recsP (dataOf m s)).2 ≠ ((dataOf m s).length : Int)) (h3 : (switchP m mendN (foreP m s) s).2 = 0) : mendR m s = ((switchP m mendN (foreP m s) s).1, (recsP (dataOf m s)).1, 0) := by
 unfold mendR; rw [if_neg (by simp [h]), if_neg h2, if_pos h3]
theorem mend_bad {m : MDisk} {s : ByteArray} (h : callP m s = 0) (h2 : (recsP (dataOf m s)).2 ≠ ((dataOf m s).length : Int)) (h3 : (switchP m mendN (foreP m s) s).2 ≠ 0) : mendR m s = (m, [], (switchP m mendN (foreP m s) s).2) := by
 unfold mendR; rw [if_neg (by simp [h]), if_neg h2, if_neg h3]
theorem upd_ids {f : MInode -> MInode} (hf : ∀ n, (f n).fId = n.fId) (l : List MInode) (k : Nat) : (updI l k f).map (·.fId) = l.map (·.fId) := by
 unfold updI
 split
 ·rename_i n hn
  rw [List.map_set]
  apply List.ext_getElem?
  intro j
  rw [List.getElem?_set]
  split
  ·rename_i hj
   subst hj
   obtain ⟨hk, rfl⟩ := List.getElem?_eq_some_iff.1 hn
   rw [if_pos (by simpa using hk), List.getElem?_map, List.getElem?_eq_getElem hk]
   simp [hf]
  ·rfl
 ·rfl
theorem hasId_ids (l : List MInode) (i : Int) : hasId l i = (l.map (·.fId)).any (fun z => decide (z = i)) := by
 unfold hasId
 rw [List.any_map]
 rfl
theorem hasId_upd {f : MInode -> MInode} (hf : ∀ n, (f n).fId = n.fId) (l : List MInode) (k : Nat) (i : Int) : hasId (updI l k f) i = hasId l i := by rw [hasId_ids, hasId_ids, upd_ids hf]
theorem upd_ok {m : MDisk} {k : Nat} {f : MInode -> MInode} (h : diskOk m = true) (hf : ∀ n, (f n).fId = n.fId) (hs : ∀ n, n ∈ m.fInodes -> 0 <= (f n).fSure /\ (f n).fSure <= (f n).fData.length) (hsz : sumW wInode (updI m.fInodes k f) <= 60000) :
  diskOk { m with fInodes := updI m.fInodes k f } = true := by
 have hr := diskOk_iff.1 h
 refine diskOk_iff.2 ⟨hr.next, ?_, ?_, hsz, hr.few, hr.few', ?_, ?_, ?_⟩
 ·intro n hn
  rcases updI_mem (show n ∈ updI m.fInodes k f from hn) with hn | ⟨x, hx, rfl⟩
  ·exact hr.each n hn
  ·have h1 := hr.each x hx
   have h2 := hs x hx
   rw [hf]
   exact ⟨h1.1, h1.2.1, h2.1, h2.2⟩
 ·have h1 := hr.rise
  have e : ∀ l : List MInode, l.Pairwise (fun x y => x.fId < y.fId) ↔ (l.map (·.fId)).Pairwise (· < ·) := fun l => (List.pairwise_map (f := fun n : MInode => n.fId) (R := (· < ·)) (l := l)).symm
  rw [e] at h1 ⊢
  rw [upd_ids hf]
  exact h1
 ·exact ⟨fun e he => by rw [hasId_upd hf]; exact hr.names.1 e he, hr.names.2⟩
 ·exact ⟨fun e he => by rw [hasId_upd hf]; exact hr.safe.1 e he, hr.safe.2⟩
 ·intro n hn
  rcases updI_mem (show n ∈ updI m.fInodes k f from hn) with hn | ⟨x, hx, rfl⟩
  ·exact hr.all n hn
  ·have h1 := isNamed_iff.1 (hr.all x hx)
   refine isNamed_iff.2 ?_
   rw [hf]
   exact h1
theorem sync_ok {m : MDisk} {s : ByteArray} (h : callP m s = 0) : diskOk { m with fInodes := updI m.fInodes (fileAt m s) sureI } = true := by
 have h1 := (call_good h).1
 have hr := diskOk_iff.1 h1
 have h2 := sumW_updI (l := m.fInodes) (k := fileAt m s) (f := sureI) (c := 0) (fun n => rN)
 exact upd_ok h1 (fun n => rfl) (fun n hn => by simp [sureI]) (Nat.le_trans h2 hr.size)
def FileIs (m : MDisk) (s : ByteArray) (P : MInode -> Prop) : Prop := callP m s = 0 /\ ∃ x, x ∈ m.fInodes /\ x.fId = idOf m.fNames s /\ P x
theorem call_of {m : MDisk} {s : ByteArray} (h1 : diskOk m = true) (h2 : nameOk s = true) (h3 : hasName m.fNames s = true) : callP m s = 0 := by
 unfold callP
 rw [h1, h2, h3]
 rfl
section
variable {m : MDisk} {s : ByteArray} {P : MInode -> Prop} {b : List Int} {k : Int}
theorem FileIs.data (h : FileIs m s P) : ∃ x, P x /\ dataOf m s = x.fData := by
 obtain ⟨hc, x, hx, hid, hp⟩ := h
 exact ⟨x, hp, data_eq hc hx hid⟩
theorem create_good (h : createC m s = 0) : callP m s = 2 /\ diskOk (createD m s) = true /\ createP m s = createD m s := by
 unfold createC at h
 by_cases h1 : callP m s = 2
 ·rw [if_pos h1] at h
  by_cases h2 : diskOk (createD m s) = true
  ·exact ⟨h1, h2, by unfold createP; rw [if_pos ⟨h1, h2⟩]⟩
  ·rw [if_neg h2] at h; cases h
 ·rw [if_neg h1] at h
  split at h <;> cases h
theorem file_create (h : createC m s = 0) : FileIs (createP m s) s (fun x => x.fData = [] /\ x.fSure = 0) := by
 obtain ⟨h1, h2, h3⟩ := create_good h
 obtain ⟨_, hs, _⟩ := call_none h1
 rw [h3]
 have hmem : (⟨s, m.fNext⟩ : MEntry) ∈ (createD m s).fNames := mem_withE.2 (.inl rfl)
 have hc : callP (createD m s) s = 0 := call_of h2 hs (hasName_iff.2 ⟨_, hmem, rfl⟩)
 refine ⟨hc, newI m, List.mem_append_right _ (by simp), ?_, rfl, rfl⟩
 exact (idOf_eq (diskOk_iff.1 h2).names.rise hmem).symm
theorem file_upd {f : MInode -> MInode} (h : FileIs m s P) (hf : ∀ n, (f n).fId = n.fId) (hok : diskOk { m with fInodes := updI m.fInodes (fileAt m s) f } = true) : FileIs { m with fInodes := updI m.fInodes (fileAt m s) f } s (fun x => ∃ y, P y /\ x = f y) := by
 obtain ⟨hc, x, hx, hid, hp⟩ := h
 obtain ⟨h1, h2, h3⟩ := call_good hc
 refine ⟨call_of hok h2 h3, f x, ?_, (hf x).trans hid, x, hp, rfl⟩
 obtain ⟨p, hpl, rfl⟩ := List.mem_iff_getElem.1 hx
 have hpp := file_only hc hpl hid
 subst hpp
 show _ ∈ updI m.fInodes (fileAt m s) f
 rw [updI_at hpl]
 exact List.mem_iff_getElem.2 ⟨fileAt m s, by simpa using hpl, by simp⟩
theorem file_sync (h : FileIs m s P) : FileIs (syncP m s) s (fun x => ∃ y, P y /\ x = sureI y) := by
 have : syncP m s = { m with fInodes := updI m.fInodes (fileAt m s) sureI } := by unfold syncP; rw [if_pos h.1]
 rw [this]
 exact file_upd h (fun n => rfl) (sync_ok h.1)
theorem file_syncDir (h : FileIs m s P) : FileIs (syncDirP m) s P /\ (syncDirP m).fSafe = (syncDirP m).fNames := by
 obtain ⟨hc, x, hx, hid, hp⟩ := h
 obtain ⟨h1, h2, h3⟩ := call_good hc
 have : syncDirP m = keepD { m with fSafe := m.fNames } := by unfold syncDirP; rw [if_pos h1]
 rw [this]
 refine ⟨⟨call_of (syncDir_ok h1) h2 h3, x, ?_, hid, hp⟩, rfl⟩
 show x ∈ keepI { m with fSafe := m.fNames }
 refine List.mem_filter.2 ⟨hx, isNamed_iff.2 (List.mem_append_left _ (List.mem_map.2 ⟨⟨s, idOf m.fNames s⟩, entry_of h3, hid.symm⟩))⟩
end
structure FilesOk (m : MDisk) (s : ByteArray) (b c : List Int) (k : Int) : Prop where
 lost : callP (fallP (syncP (appendP (createP m s) s b) s) k) s ≠ 0
 lostOk : diskOk (fallP (syncP (appendP (createP m s) s b) s) k) = true
 kept : callP (fallP (appendP (syncDirP (syncP (appendP (createP m s) s b) s)) s c) k) s = 0
 keptOk : diskOk (fallP (appendP (syncDirP (syncP (appendP (createP m s) s b) s)) s c) k) = true
 len : b.length <= (bytesP (fallP (appendP (syncDirP (syncP (appendP (createP m s) s b) s)) s c) k) s).length
 take : (bytesP (fallP (appendP (syncDirP (syncP (appendP (createP m s) s b) s)) s c) k) s).take b.length = b
end Go.Proofs.YtegonncmopecnaaGreatDoor
