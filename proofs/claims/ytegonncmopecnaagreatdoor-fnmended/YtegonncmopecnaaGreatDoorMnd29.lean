/-
  Part 30 of the texts that the proof leans on.
-/
import Derived.Test.YtegonncmopecnaaGreatDoorMnd21
import Derived.Test.YtegonncmopecnaaGreatDoorMnd23
import Derived.Test.YtegonncmopecnaaGreatDoorMnd26
import Derived.Test.YtegonncmopecnaaGreatDoorMnd28
import Derived.Test.YtegonncmopecnaaGreatDoorMnd27
import Derived.Test.YtegonncmopecnaaGreatDoorMnd0
import Derived.Deep.DeepCutAuto
set_option linter.unusedVariables false
set_option linter.unusedSimpArgs false
set_option maxRecDepth 10000

namespace Go.Proofs.YtegonncmopecnaaGreatDoor
open Go.RowKit Go.Maps
abbrev q789_3_19_0 : Oper := ⟨some 114, .move (.tmp 17), 30, "laws.go:260", #[], none⟩
abbrev q789_3_19_1 : Oper := ⟨some 115, .move (.tmp 19), 3, "laws.go:260", #[], none⟩
abbrev q789_3_19_2 : Oper := ⟨some 116, .indexAddr 30 (.tmp 114) (.tmp 115), 0, "laws.go:260", #[⟨0, .data⟩, ⟨1, .data⟩], none⟩
abbrev q789_3_19_3 : Oper := ⟨some 117, .load 22 (.tmp 116), 22, "laws.go:260", #[⟨2, .data⟩], none⟩
abbrev q789_3_19_4 : Oper := ⟨some 118, .move (.tmp 13), 30, "laws.go:260", #[], none⟩
abbrev q789_3_19_5 : Oper := ⟨some 119, .move (.tmp 19), 3, "laws.go:260", #[], none⟩
abbrev q789_3_19_6 : Oper := ⟨some 120, .indexAddr 30 (.tmp 118) (.tmp 119), 0, "laws.go:260", #[⟨4, .data⟩, ⟨5, .data⟩], none⟩
abbrev q789_3_19_7 : Oper := ⟨some 121, .load 22 (.tmp 120), 22, "laws.go:260", #[⟨6, .data⟩], none⟩
abbrev q789_3_19_8 : Oper := ⟨some 122, .call { callee := .value (.func 11), args := #[.tmp 117, .tmp 121], argTypes := #[22, 22] }, 4, "laws.go:260", #[⟨3, .data⟩, ⟨7, .data⟩], none⟩
abbrev q789_3_19_9 : Oper := ⟨some 123, .unOp .not 4 (.tmp 122), 4, "laws.go:260", #[⟨8, .data⟩], none⟩
abbrev q789_3_19_10 : Oper := ⟨some 124, .move (.tmp 123), 4, "laws.go:260", #[⟨9, .data⟩, ⟨8, .chain⟩], none⟩
abbrev q789_3_19_11 : Oper := ⟨some 125, .move (.tmp 6), 30, "laws.go:260", #[⟨10, .guard⟩], some (10, false)⟩
abbrev q789_3_19_12 : Oper := ⟨some 126, .move (.tmp 19), 3, "laws.go:260", #[⟨10, .guard⟩], some (10, false)⟩
abbrev q789_3_19_13 : Oper := ⟨some 127, .indexAddr 30 (.tmp 125) (.tmp 126), 0, "laws.go:260", #[⟨11, .data⟩, ⟨12, .data⟩, ⟨10, .guard⟩], some (10, false)⟩
abbrev q789_3_19_14 : Oper := ⟨some 128, .load 22 (.tmp 127), 22, "laws.go:260", #[⟨13, .data⟩, ⟨10, .guard⟩], some (10, false)⟩
abbrev q789_3_19_15 : Oper := ⟨some 129, .move (.tmp 13), 30, "laws.go:260", #[⟨10, .guard⟩], some (10, false)⟩
abbrev q789_3_19_16 : Oper := ⟨some 130, .move (.tmp 19), 3, "laws.go:260", #[⟨10, .guard⟩], some (10, false)⟩
abbrev q789_3_19_17 : Oper := ⟨some 131, .indexAddr 30 (.tmp 129) (.tmp 130), 0, "laws.go:260", #[⟨15, .data⟩, ⟨16, .data⟩, ⟨10, .guard⟩], some (10, false)⟩
abbrev q789_3_19_18 : Oper := ⟨some 132, .load 22 (.tmp 131), 22, "laws.go:260", #[⟨17, .data⟩, ⟨10, .guard⟩], some (10, false)⟩
abbrev q789_3_19_19 : Oper := ⟨some 133, .call { callee := .value (.func 11), args := #[.tmp 128, .tmp 132], argTypes := #[22, 22] }, 4, "laws.go:260", #[⟨14, .data⟩, ⟨18, .data⟩, ⟨10, .chain⟩, ⟨10, .guard⟩], some (10, false)⟩
abbrev q789_3_19_20 : Oper := ⟨some 134, .unOp .not 4 (.tmp 133), 4, "laws.go:260", #[⟨19, .data⟩, ⟨10, .guard⟩], some (10, false)⟩
abbrev q789_3_19_21 : Oper := ⟨some 135, .pick (.tmp 124) (.const (.bool true)) (.tmp 134), 4, "laws.go:260", #[⟨10, .data⟩, ⟨20, .data⟩], none⟩
set_option maxHeartbeats 400000 in
theorem bigF_any (a : Option Addr) (n cap : Nat) (w : World) :
  Calls Tryz.prog 4 #[.slice a n cap] w fun e w' => e = .returned (.bool (decide (1048576 < (n : Int)))) /\ w' = w := by
 go_enter Tryz.func4, Tryz.ntmps4
 go_wp2_with fail
 go_ret
 exact ⟨rfl, rfl⟩
set_option maxHeartbeats 400000 in
theorem sameBytes_yes (a b : Option Addr) (n ca cb : Nat) (xs : List Int) (w : World) (B : Nat) (hx : xs.length = n) (hlen : n <= 1099511627776) (hra : Rd .u8 B w a xs) (hrb : Rd .u8 B w b xs) :
  Calls Tryz.prog 11 #[.slice a n ca, .slice b n cb] w fun e w' => e = .returned (.bool true) /\ ∃ d, w' = w.drewN d := by
 have HX : Hid (xs.length = n) := hx
 clear hx
 go_enter Tryz.func11, Tryz.ntmps11
 go_wp2
 go_loopw [5] (fun i wr => ∃ k : Nat, k <= n /\ i = .int .i64 k /\ ∃ d, wr = w.drewN d) (fun i _ => n - (intOf i).toNat)
 case atStart => exact ⟨0, Nat.zero_le _, rfl, 0, rfl⟩
 case round =>
  obtain ⟨k, hk, rfl, d, rfl⟩ := hrel
  by_cases hlt : k < n
  ·obtain ⟨b1, o1, rfl, _, hc1⟩ := hra k (by rw [HX.out]; exact hlt)
   obtain ⟨b2, o2, rfl, _, hc2⟩ := hrb k (by rw [HX.out]; exact hlt)
   clear hra hrb
   generalize xs.getD k 0 = x at hc1 hc2
   go_wp2
   go_quiet (fail)
   go_wp2
   go_roundw
   case rel => exact ⟨k + 1, by omega, by go_num, _, rfl⟩
   case measure => simp [intOf]; omega
  ·go_wp2
   go_ret
   exact ⟨rfl, d, rfl⟩
theorem below_drewM (w : World) (d : Nat) : Below w.heap.size w (w.drewN d) := ⟨rfl, rfl, rfl, rN, fun _ _ => rfl⟩
theorem sameBytes_b (a b : Option Addr) (n ca cb : Nat) (xs : List Int) (w : World) (B : Nat) (hx : xs.length = n) (hlen : n <= 1099511627776) (hra : Rd .u8 B w a xs) (hrb : Rd .u8 B w b xs) :
  Calls Tryz.prog 11 #[.slice a n ca, .slice b n cb] w fun e w' => e = .returned (.bool true) /\ Below w.heap.size w w' := by
 refine (sameBytes_yes a b n ca cb xs w B hx hlen hra hrb).mono ?_
 rintro e w' ⟨rfl, d, rfl⟩
 exact ⟨rfl, below_drewM _ _⟩
structure DB (W : World) (b : Nat) (cs : List Value) (m : MDisk) : Prop where
 b : Bw W b 27 cs
 r : rDisk W.heap.size W cs m
theorem DB.under {W W' : World} {b : Nat} {cs : List Value} {m : MDisk} (h : DB W b cs m) (hx : Below W.heap.size W W') : DB W' b cs m := ⟨h.b.under hx, rDisk_good.mono (rDisk_good.below h.r hx) hx.size⟩
theorem DB.new {W : World} {cs : List Value} {m : MDisk} (h : rDisk W.heap.size W cs m) : DB (W.alloc (.cells cs.toArray 27)) W.heap.size cs m :=
 have hx : Below W.heap.size W (W.alloc (.cells cs.toArray 27)) := rB.alloc rN _
 ⟨Bw.new _ _ _, rDisk_good.mono (rDisk_good.below h hx) hx.size⟩
theorem rdB.under {W W' : World} {v : Value} {zs : List Int} (h : rdB W.heap.size W v zs) (hx : Below W.heap.size W W') : rdB W'.heap.size W' v zs := by
 obtain ⟨a, c, rfl, hl⟩ := h
 exact ⟨a, c, rfl, (hl.below hx).mono hx.size⟩
theorem rdBs.under {W W' : World} {v : Value} {l : List (List Int)} (h : rdBs W.heap.size W v l) (hx : Below W.heap.size W W') : rdBs W'.heap.size W' v l := (h.below hx).mono hx.size
theorem bytes_small {m : MDisk} {s : ByteArray} (h : wDisk m <= 1048576) : (bytesP m s).length <= 1048576 := by
 unfold bytesP
 split
 ·rename_i hc
  obtain ⟨x, hx, _, hd⟩ := data_has hc
  rw [hd]
  obtain ⟨p, hp, rfl⟩ := List.mem_iff_getElem.1 hx
  have h1 := sumW_le (f := wInode) hp
  rw [wDisk_eq] at h
  show wInode _ <= _
  omega
 ·simp
theorem data_bytes {B : Nat} {w : World} {cs : List Value} {m : MDisk} {s : ByteArray} (h : rDisk B w cs m) (hc : callP m s = 0) : BytesOk (dataOf m s) := by
 obtain ⟨x, hx, _, hd⟩ := data_has hc
 rw [hd]
 obtain ⟨a0, c0, a1, c1, a2, c2, rfl, h0, _⟩ := h
 obtain ⟨j, hj, rfl⟩ := List.mem_iff_getElem.1 hx
 obtain ⟨_, _, _, _, _, _, _, _, _, _, _, hl, _⟩ := h0.2.2 j hj
 exact hl.2.2.2
theorem mend_right {B : Nat} {w : World} {cs : List Value} {m : MDisk} {s : ByteArray} (h : rDisk B w cs m) (hc : mendC m s = 0) : MendOk m s := by
 refine mend_ok (data_bytes h ?_) hc
 by_cases hq : callP m s = 0
 ·exact hq
 ·unfold mendC at hc
  rw [mend_no hq] at hc
  exact hc
theorem rdBs_at {W : World} {a : Option Addr} {n c : Nat} {l : List (List Int)} (h : rdBs W.heap.size W (.slice a n c) l) (k : Nat) (hk : k < l.length) : ∃ b o a1 c1, a = some ⟨b, o, none⟩ /\ b < W.heap.size /\ W.cell? ⟨b, o + k, none⟩ = some (.slice a1 l[k].length c1) /\ Rd .u8 W.heap.size W a1 l[k] := by
 obtain ⟨a', c', e, hL⟩ := h
 injection e with e1 e2 e3
 subst e1
 obtain ⟨b, o, rfl, hB, cs, _, hcell, a1, c1, rfl, hl⟩ := hL.2.2 k hk
 have h0 := hcell 0 _ rfl
 simp only [Nat.mul_one, Nat.add_zero] at h0
 exact ⟨b, o, a1, c1, rfl, hB, h0, hl.2.2.1⟩
theorem recs_c (v : Value) (zs : List Int) (w : World) (l : List (List Int)) (p : Int) (h : recsP zs = (l, p)) (hr : rdB w.heap.size w v zs) (hw : zs.length <= 1048576) (ht : TabAt w) :
  Calls Tryz.prog 9 #[v] w fun e w' => ∃ a c, e = .returned (.tuple #[.slice a l.length c, .int .i64 p]) /\ rdBs w'.heap.size w' (.slice a l.length c) l /\ Below w.heap.size w w' := by
 refine (implRecords_c v zs w hr hw ht).mono ?_
 rw [h]
 rintro e w' ⟨v', F, rfl, ho, _, _, hx⟩
 have hL := rdBs_own ho
 obtain ⟨a, c, hv, _⟩ := id hL
 subst hv
 exact ⟨a, c, rfl, hL, hx⟩
theorem bytes_c (cs : List Value) (m : MDisk) (s : ByteArray) (w : World) (q : Bool) (zs : List Int) (hq : decide (callP m s = 0) = q) (hz : bytesP m s = zs) (hr : rDisk w.heap.size w cs m) (hs : s.size <= 9223372036854775807) (hw : wDisk m <= 1048576) (hw1 : s.size <= 1048576) :
  Calls Tryz.prog 8 #[.agg cs.toArray, .string s] w fun e w' => ∃ a c, e = .returned (.tuple #[.slice a zs.length c, .bool q]) /\ rdB w'.heap.size w' (.slice a zs.length c) zs /\ Below w.heap.size w w' := by
 refine (implBytes_c cs m s w hr hs hw hw1).mono ?_
 rw [hq, hz]
 rintro e w' ⟨v', F, rfl, ho, _, _, hx⟩
 have hL : rdB w'.heap.size w' v' zs := ownB.read ho
 obtain ⟨a, c, hv, _⟩ := id hL
 subst hv
 exact ⟨a, c, rfl, hL, hx⟩
set_option maxHeartbeats 8000000 in
theorem law_FnMended_r (a : Option Addr) (n cap : Nat) (zs : List Int) (w : World) (hx : zs.length = n) (hr : Rd .u8 w.heap.size w a zs) (hT : TabAt w) :
  Calls Tryz.prog 3 #[.slice a n cap] w fun e w' => e = .returned (.bool true) /\ Below w.heap.size w w' := by
 have hsz := hT.size
 have HX := Hm hx
 have HRZ := Hm hr
 have HTB : Hid (∀ W : World, Below w.heap.size w W -> TabAt W) := fun W h => hT.below h hsz
 clear hx hr hT
 go_enter Tryz.func3, Tryz.ntmps3
 go_wp2_with fail
 refine (bigF_any a n cap w).mono ?_
 rintro e w0 ⟨rfl, hw0⟩
 have hw0' := hw0.symm
 clear hw0
 subst hw0'
 by_cases hbig : 1048576 < (n : Int)
 ·rw [decide_eq_true hbig]
  go_wp2_with fail
  go_ret
  exact ⟨rfl, rB⟩
 rw [decide_eq_false hbig]
 have hn20 : n <= 1048576 := by omega
 clear hbig
 go_wp2_with fail
 refine (drawMend_ok a n cap zs w HX.out hn20 HRZ.out).mono ?_
 rintro e w1 ⟨cs1, m, s, rfl, hk1, hsm, hs20, hB⟩
 obtain ⟨d0, dn0, dc0, d1, dn1, dc1, d2, dn2, dc2, dz, hcs⟩ := rdisk_four hk1
 subst hcs
 have HR := Hm hk1
 have HSM := Hm hsm
 have hs1 : s.size <= 1048576 := by omega
 have hs2 : s.size <= 9223372036854775807 := by omega
 clear hk1 hsm HX HRZ
 go_wp2_with fail
 obtain ⟨w2, hq⟩ : ∃ x, x = w1.alloc (.cells #[.slice d0 dn0 dc0, .slice d1 dn1 dc1, .slice d2 dn2 dc2, .int .i64 dz] 27) := ⟨_, rfl⟩
 have hx : Below w1.heap.size w1 w2 := by rw [hq]; exact rB.alloc rN _
 have HDd : Hid (DB w2 w1.heap.size [.slice d0 dn0 dc0, .slice d1 dn1 dc1, .slice d2 dn2 dc2, .int .i64 dz] m) := by unfold Hid; rw [hq]; exact DB.new HR.out
 rw [<- hq]
 clear hq HR
 obtain ⟨bd, hbq⟩ : ∃ x, x = w1.heap.size := ⟨_, rfl⟩
 rw [<- hbq] at HDd ⊢
 clear hbq
 replace hB := bthen hB hx
 clear hx
 obtain ⟨y0, y1, y2, y3⟩ := HDd.out.b.c4
 go_wp2_with fail
 clear y0 y1 y2 y3
 refine (implMend_c _ m s w2 HDd.out.r hs2 HSM.out hs1 (HTB.out _ hB)).mono ?_
 rintro e w3 ⟨cs3, F3, vl, G3, rfl, ho3, _, _, hl3, _, _, _, hx⟩
 have HR := Hm (oDisk_good.read ho3)
 obtain ⟨n0, nn0, nc0, n1, nn1, nc1, n2, nn2, nc2, nz, hcs⟩ := rdisk_four HR.out
 subst hcs
 have HLl := Hm (rdBs_own hl3)
 obtain ⟨al, cl, hvl, _⟩ := id HLl.out
 subst hvl
 clear ho3 hl3
 obtain ⟨mc, hmc⟩ : ∃ x, x = mendC m s := ⟨_, rfl⟩
 rw [<- hmc]
 obtain ⟨L, hL⟩ : ∃ x, x = mendL m s := ⟨_, rfl⟩
 rw [<- hL] at HLl ⊢
 replace HDd := Hm (HDd.out.under hx)
 replace hB := bthen hB hx
 clear hx
 obtain ⟨y0, y1, y2, y3⟩ := HDd.out.b.c4
 have hlt3 := HDd.out.b.lt
 have hne3 : bd ≠ w3.heap.size := Nat.ne_of_lt hlt3
 go_wp2_with fail
 clear y0 y1 y2 y3 hlt3 hne3
 obtain ⟨w4, hq⟩ : ∃ x, x = w3.alloc (.cells #[.slice n0 nn0 nc0, .slice n1 nn1 nc1, .slice n2 nn2 nc2, .int .i64 nz] 27) := ⟨_, rfl⟩
 have hx : Below w3.heap.size w3 w4 := by rw [hq]; exact rB.alloc rN _
 have HDn : Hid (DB w4 w3.heap.size [.slice n0 nn0 nc0, .slice n1 nn1 nc1, .slice n2 nn2 nc2, .int .i64 nz] (mendD m s)) := by unfold Hid; rw [hq]; exact DB.new HR.out
 rw [<- hq]
 clear hq HR
 obtain ⟨bn, hbq⟩ : ∃ x, x = w3.heap.size := ⟨_, rfl⟩
 rw [<- hbq] at HDn ⊢
 clear hbq
 replace HDd := Hm (HDd.out.under hx)
 replace HLl := Hm (rdBs.under HLl.out hx)
 replace hB := bthen hB hx
 clear hx
 refine (specMend_c _ m s w4 HDd.out.r hs2 HSM.out hs1 (HTB.out _ hB)).mono ?_
 rw [<- hmc, <- hL]
 rintro e w5 ⟨cs5, vk, rfl, hr5, hl5, hx⟩
 obtain ⟨u0, un0, uc0, u1, un1, uc1, u2, un2, uc2, uz, hcs⟩ := rdisk_four hr5
 subst hcs
 obtain ⟨ak, ck, hvk, _⟩ := hl5
 subst hvk
 clear hr5
 replace HDd := Hm (HDd.out.under hx)
 replace HDn := Hm (HDn.out.under hx)
 replace HLl := Hm (rdBs.under HLl.out hx)
 replace hB := bthen hB hx
 clear hx
 have HMC := Hm hmc
 have HML := Hm hL
 clear hmc hL
 by_cases hc : mc = 0
 rotate_left
 ·have hL0 : L = [] := by rw [HML.out]; exact mend_none (fun h => hc (HMC.out.trans h))
  subst hL0
  have hself : (mc != mc) = false := by simp
  have hcn : (mc != 0) = true := by simp [hc]
  go_wp2_with fail
  go_ret
  exact ⟨by simp, bthen hB (rB.alloc rN _)⟩
 subst hc
 have HM : Hid (MendOk m s) := mend_right HDd.out.r HMC.out.symm
 obtain ⟨y0, y1, y2, y3⟩ := HDd.out.b.c4
 have hlt3 := HDd.out.b.lt
 have hne3 : bd ≠ w5.heap.size := Nat.ne_of_lt hlt3
 go_wp2_with fail
 clear y0 y1 y2 y3 hlt3 hne3
 obtain ⟨w6, hq⟩ : ∃ x, x = w5.alloc (.cells #[.slice u0 un0 uc0, .slice u1 un1 uc1, .slice u2 un2 uc2, .int .i64 uz] 27) := ⟨_, rfl⟩
 have hx : Below w5.heap.size w5 w6 := by rw [hq]; exact rB.alloc rN _
 rw [<- hq]
 clear hq
 replace HDd := Hm (HDd.out.under hx)
 replace HDn := Hm (HDn.out.under hx)
 replace HLl := Hm (rdBs.under HLl.out hx)
 replace hB := bthen hB hx
 clear hx
 obtain ⟨zb, hzb⟩ : ∃ x, bytesP m s = x := ⟨_, rfl⟩
 have hlb : zb.length <= 1048576 := by rw [<- hzb]; exact bytes_small HSM.out
 obtain ⟨p0, hrb⟩ : ∃ p, recsP zb = (L, p) := ⟨(recsP zb).2, by rw [HML.out, <- HM.out.old, hzb]⟩
 have HSN : Hid (wDisk (mendD m s) <= 1048576) := ok_small HM.out.ok
 obtain ⟨zx, hzx⟩ : ∃ x, bytesP (mendD m s) s = x := ⟨_, rfl⟩
 have hlx : zx.length <= 1048576 := by rw [<- hzx]; exact bytes_small HSN.out
 have hrx : recsP zx = (L, (zx.length : Int)) := by rw [HML.out, <- hzx]; exact HM.out.recs
 have HZB := Hm hzb
 have HZX := Hm hzx
 have HRB := Hm hrb
 have HRX := Hm hrx
 clear hzb hzx hrb hrx
 obtain ⟨nb, hnb⟩ : ∃ x, x = zb.length := ⟨_, rfl⟩
 obtain ⟨nx, hnx⟩ : ∃ x, x = zx.length := ⟨_, rfl⟩
 obtain ⟨nL, hnL⟩ : ∃ x, x = L.length := ⟨_, rfl⟩
 rw [<- hnb] at hlb
 rw [<- hnx] at hlx HRX
 have HNB := Hm hnb
 have HNX := Hm hnx
 have HNL := Hm hnL
 clear hnb hnx hnL
 refine (bytes_c _ m s w6 true zb (decide_eq_true HM.out.was) HZB.out HDd.out.r hs2 HSM.out hs1).mono ?_
 rw [<- HNB.out]
 rintro e w7 ⟨ab, cb, rfl, hyb, hx⟩
 have HYb := Hm hyb
 clear hyb
 have HWL : Hid (wBs L <= 1099511627776) := by
  obtain ⟨_, _, _, _, _, _, hbo⟩ := HYb.out
  have h := boundRecords_0 zb hbo (by rw [<- HNB.out]; exact hlb)
  rw [HRB.out] at h
  exact h
 have hLb : nL <= 1099511627776 := by have h1 := HWL.out; unfold wBs at h1; have h2 := HNL.out; omega
 replace HDn := Hm (HDn.out.under hx)
 replace HLl := Hm (rdBs.under HLl.out hx)
 replace hB := bthen hB hx
 clear hx
 clear HDd
 go_wp2_with fail
 refine (recs_c _ zb w7 L p0 HRB.out HYb.out (by rw [<- HNB.out]; exact hlb) (HTB.out _ hB)).mono ?_
 rintro e w8 ⟨ao, co, rfl, hlo, hx⟩
 have HLo := Hm hlo
 clear hlo HYb hlb
 replace HDn := Hm (HDn.out.under hx)
 replace HLl := Hm (rdBs.under HLl.out hx)
 replace hB := bthen hB hx
 clear hx
 obtain ⟨y0, y1, y2, y3⟩ := HDn.out.b.c4
 go_wp2_with fail
 clear y0 y1 y2 y3
 refine (bytes_c _ (mendD m s) s w8 true zx (decide_eq_true HM.out.now) HZX.out HDn.out.r hs2 HSN.out hs1).mono ?_
 rw [<- HNX.out]
 rintro e w9 ⟨ax, cx, rfl, hyx, hx⟩
 have HYx := Hm hyx
 clear hyx
 replace HDn := Hm (HDn.out.under hx)
 replace HLl := Hm (rdBs.under HLl.out hx)
 replace HLo := Hm (rdBs.under HLo.out hx)
 replace hB := bthen hB hx
 clear hx
 go_wp2_with fail
 refine (recs_c _ zx w9 L nx HRX.out HYx.out (by rw [<- HNX.out]; exact hlx) (HTB.out _ hB)).mono ?_
 rintro e w10 ⟨an, cn, rfl, hln, hx⟩
 have HLn := Hm hln
 clear hln HYx
 replace HDn := Hm (HDn.out.under hx)
 replace HLl := Hm (rdBs.under HLl.out hx)
 replace HLo := Hm (rdBs.under HLo.out hx)
 replace hB := bthen hB hx
 clear hx
 have hE1 : ((nL : Int) != (nL : Int)) = false := by simp
 have hE2 : ((nx : Int) != (nx : Int)) = false := by simp
 obtain ⟨y0, y1, y2, y3⟩ := HDn.out.b.c4
 simp only [<- HNL.out] at HLl HLo HLn ⊢
 go_wp2_with fail
 clear y0 y1 y2 y3
 refine (implDiskOk_c _ (mendD m s) w10 HDn.out.r HSN.out).mono ?_
 rw [HM.out.ok]
 rintro e w11 ⟨rfl, hx⟩
 replace HDn := Hm (HDn.out.under hx)
 replace HLl := Hm (rdBs.under HLl.out hx)
 replace HLo := Hm (rdBs.under HLo.out hx)
 replace HLn := Hm (rdBs.under HLn.out hx)
 replace hB := bthen hB hx
 clear hx
 go_wp2_with fail
 go_loopw [19] (fun i wr => ∃ k : Nat, k <= nL /\ i = .int .i64 k /\ Below w11.heap.size w11 wr) (fun i _ => nL - (intOf i).toNat)
 case atStart => exact ⟨0, Nat.zero_le _, rfl, rB⟩
 case round =>
  obtain ⟨k, hk, rfl, hbk⟩ := hrel
  by_cases hlt : k < nL
  ·have hkl : k < L.length := by rw [<- HNL.out]; exact hlt
   obtain ⟨b1, o1, a1, c1, rfl, hB1, k1, hr1⟩ := rdBs_at (HLn.out.under hbk) k hkl
   obtain ⟨b2, o2, a2, c2, rfl, hB2, k2, hr2⟩ := rdBs_at (HLo.out.under hbk) k hkl
   obtain ⟨b3, o3, a3, c3, rfl, hB3, k3, hr3⟩ := rdBs_at (HLl.out.under hbk) k hkl
   have hlL : L[k].length <= 1099511627776 := Nat.le_trans (wBs_mem hkl) HWL.out
   generalize L[k] = xs at k1 hr1 k2 hr2 k3 hr3 hlL
   have y1 : ∀ W, Below wr.heap.size wr W -> W.cell? ⟨b1, o1 + k, none⟩ = some (.slice a1 xs.length c1) := fun W h => (h.cell (p := ⟨b1, o1 + k, none⟩) hB1).trans k1
   have y2 : ∀ W, Below wr.heap.size wr W -> W.cell? ⟨b2, o2 + k, none⟩ = some (.slice a2 xs.length c2) := fun W h => (h.cell (p := ⟨b2, o2 + k, none⟩) hB2).trans k2
   have y3 : ∀ W, Below wr.heap.size wr W -> W.cell? ⟨b3, o3 + k, none⟩ = some (.slice a3 xs.length c3) := fun W h => (h.cell (p := ⟨b3, o3 + k, none⟩) hB3).trans k3
   have HC1 := Hm (fun (W : World) (h : Below wr.heap.size wr W) => sameBytes_b a1 a2 xs.length c1 c2 xs W wr.heap.size rfl hlL (hr1.below h) (hr2.below h))
   have HC2 := Hm (fun (W : World) (h : Below wr.heap.size wr W) => sameBytes_b a3 a2 xs.length c3 c2 xs W wr.heap.size rfl hlL (hr3.below h) (hr2.below h))
   obtain ⟨nk, hnk⟩ : ∃ x, x = xs.length := ⟨_, rfl⟩
   rw [<- hnk] at y1 y2 y3 HC1 HC2
   have hk1 : (0 : Int) <= (k : Int) := by omega
   have hk2 : (k : Int) < (nL : Int) := by omega
   clear hr1 hr2 hr3 k1 k2 k3 hnk hlL hkl
   go_wp2_with fail
   refine wp_region_held_drew (S := fun W => Below wr.heap.size wr W) (by kernel_rfl) (Below.drew rB) (fun hZ => ?_)
   refine uq 0 q789_3_19_0 114 hZ ?_
   refine uq 1 q789_3_19_1 115 hZ ?_
   refine uq 2 q789_3_19_2 116 hZ ?_
   refine uq 3 q789_3_19_3 117 hZ ?_
   refine uq 4 q789_3_19_4 118 hZ ?_
   refine uq 5 q789_3_19_5 119 hZ ?_
   refine uq 6 q789_3_19_6 120 hZ ?_
   refine uq 7 q789_3_19_7 121 hZ ?_
   refine ar1 8 q789_3_19_8 fun K hK => ?_
   go_simp
   refine (HC1.out _ hZ).mono ?_
   rintro e v1 ⟨rfl, hx1⟩
   go_wp2_with fail
   refine hK.out _ _ (bthen hZ hx1) (fun hZ => ?_)
   clear hK K
   try simp only[Act.put,sa,s0,s1]
   refine uq 9 q789_3_19_9 123 hZ ?_
   refine uq 10 q789_3_19_10 124 hZ ?_
   refine uq 11 q789_3_19_11 125 hZ ?_
   refine uq 12 q789_3_19_12 126 hZ ?_
   refine uq 13 q789_3_19_13 127 hZ ?_
   refine uq 14 q789_3_19_14 128 hZ ?_
   refine uq 15 q789_3_19_15 129 hZ ?_
   refine uq 16 q789_3_19_16 130 hZ ?_
   refine uq 17 q789_3_19_17 131 hZ ?_
   refine uq 18 q789_3_19_18 132 hZ ?_
   refine ar1 19 q789_3_19_19 fun K hK => ?_
   go_simp
   refine (HC2.out _ hZ).mono ?_
   rintro e v2 ⟨rfl, hx2⟩
   go_wp2_with fail
   refine hK.out _ _ (bthen hZ hx2) (fun hZ => ?_)
   clear hK K
   try simp only[Act.put,sa,s0,s1]
   refine uq 20 q789_3_19_20 134 hZ ?_
   refine uq 21 q789_3_19_21 135 hZ ?_
   refine wpAnyH_done (by kernel_rfl) ?_ _
   go_wp2_with fail
   go_roundw
   case rel => exact ⟨k + 1, by omega, by go_num, bthen hbk hZ⟩
   case measure => simp [intOf]; omega
  ·have hx := hbk
   clear hbk hk
   replace HDn := Hm (HDn.out.under hx)
   replace hB := bthen hB hx
   clear hx
   obtain ⟨y0, y1, y2, y3⟩ := HDn.out.b.c4
   have hkn : ¬ (k : Int) < (nL : Int) := by omega
   clear HLl HLo HLn HWL hlt
   go_wp2_with fail
   clear y0 y1 y2 y3
   have ho5 : (wr.alloc (.cells #[.int .u8 5] 5)).ownsRow wr.heap.size 5 1 (.slice (some ⟨wr.heap.size, 0, none⟩) 1 1) 1 (([5] : List Int).map (Value.int .u8)) := World.ownsRow_lit wr #[.int .u8 5] 1 rN (by decide) rfl
   obtain ⟨w12, hq⟩ : ∃ x, x = wr.alloc (.cells #[.int .u8 5] 5) := ⟨_, rfl⟩
   have hx : Below wr.heap.size wr w12 := by rw [hq]; exact rB.alloc rN _
   rw [<- hq] at ho5 ⊢
   clear hq
   have HY5 : Hid (rdB w12.heap.size w12 (.slice (some ⟨wr.heap.size, 0, none⟩) 1 1) [5]) := ownB.read (e := 5) (F := _) ⟨own_base ho5 (Nat.zero_le _), (by intro z hz; simp at hz; omega), rfl⟩
   clear ho5
   replace HDn := Hm (HDn.out.under hx)
   replace hB := bthen hB hx
   clear hx
   obtain ⟨b5, hb5⟩ : ∃ x, x = wr.heap.size := ⟨_, rfl⟩
   rw [<- hb5] at HY5 ⊢
   clear hb5
   refine (implLog_c _ (mendD m s) s _ [5] w12 HDn.out.r hs2 HY5.out HSN.out hs1 (by simp) (HTB.out _ hB)).mono ?_
   rintro e w13 ⟨cs13, F13, rfl, ho13, _, _, hx⟩
   have HR := Hm (oDisk_good.read ho13)
   obtain ⟨q0, qn0, qc0, q1, qn1, qc1, q2, qn2, qc2, qz, hcs⟩ := rdisk_four HR.out
   subst hcs
   clear ho13 HY5 HDn
   replace hB := bthen hB hx
   clear hx
   obtain ⟨lc, hlc⟩ : ∃ x, x = appendC (mendD m s) s (frame [5]) := ⟨_, rfl⟩
   rw [<- hlc]
   have HLC := Hm hlc
   clear hlc
   have HSA : Hid (wDisk (appendP (mendD m s) s (frame [5])) <= 1048576) := small_append HSN.out
   go_wp2_with fail
   obtain ⟨w14, hq⟩ : ∃ x, x = w13.alloc (.cells #[.slice q0 qn0 qc0, .slice q1 qn1 qc1, .slice q2 qn2 qc2, .int .i64 qz] 27) := ⟨_, rfl⟩
   have hx : Below w13.heap.size w13 w14 := by rw [hq]; exact rB.alloc rN _
   have HDq : Hid (DB w14 w13.heap.size [.slice q0 qn0 qc0, .slice q1 qn1 qc1, .slice q2 qn2 qc2, .int .i64 qz] (appendP (mendD m s) s (frame [5]))) := by unfold Hid; rw [hq]; exact DB.new HR.out
   rw [<- hq]
   clear hq HR
   obtain ⟨bq, hbq⟩ : ∃ x, x = w13.heap.size := ⟨_, rfl⟩
   rw [<- hbq] at HDq ⊢
   clear hbq
   replace hB := bthen hB hx
   clear hx
   obtain ⟨y0, y1, y2, y3⟩ := HDq.out.b.c4
   go_wp2_with fail
   clear y0 y1 y2 y3
   obtain ⟨zy, hzy⟩ : ∃ x, bytesP (appendP (mendD m s) s (frame [5])) s = x := ⟨_, rfl⟩
   have hly : zy.length <= 1048576 := by rw [<- hzy]; exact bytes_small HSA.out
   obtain ⟨lm, p2, hry⟩ : ∃ l p, recsP zy = (l, p) := ⟨(recsP zy).1, (recsP zy).2, rfl⟩
   have HMO : Hid (lc = 0 -> lm.length = nL + 1) := fun h => by
    have h1 := mend_more HM.out (HLC.out.symm.trans h)
    rw [hzy, hry] at h1
    rw [HNL.out, HML.out]
    exact h1
   have HZY := Hm hzy
   have HRY := Hm hry
   clear hzy hry
   obtain ⟨cq, hcq⟩ : ∃ x, decide (callP (appendP (mendD m s) s (frame [5])) s = 0) = x := ⟨_, rfl⟩
   refine (bytes_c _ (appendP (mendD m s) s (frame [5])) s w14 cq zy hcq HZY.out HDq.out.r hs2 HSA.out hs1).mono ?_
   clear hcq
   rintro e w15 ⟨ay, cy, rfl, hyy, hx⟩
   have HYy := Hm hyy
   clear hyy HDq
   replace hB := bthen hB hx
   clear hx
   go_wp2_with fail
   refine (recs_c _ zy w15 lm p2 HRY.out HYy.out hly (HTB.out _ hB)).mono ?_
   rintro e w16 ⟨az, cz, rfl, _, hx⟩
   clear HYy hly HRY HZY
   replace hB := bthen hB hx
   clear hx
   generalize lm.length = nz at *
   generalize zy.length = ny at *
   by_cases hlc : lc = 0
   ·subst hlc
    have hnz := HMO.out rfl
    subst hnz
    go_wp2_with fail
    go_ret
    exact ⟨by simp, hB⟩
   ·have hlcn : (lc != 0) = true := by simp [hlc]
    go_wp2_with fail
    go_ret
    exact ⟨by simp, hB⟩
theorem law_FnMended (cs0 : Value) (m0 : List Int) (w : World) (hr0 : rdB w.heap.size w cs0 m0) (hT : TabAt w) :
  Calls Tryz.prog 3 #[cs0] w fun e w' => e = .returned (.bool true) /\ Below w.heap.size w w' := by
 obtain ⟨a, c, rfl, h⟩ := hr0
 exact law_FnMended_r a m0.length c m0 w rfl h.2.2.1 hT
end Go.Proofs.YtegonncmopecnaaGreatDoor
