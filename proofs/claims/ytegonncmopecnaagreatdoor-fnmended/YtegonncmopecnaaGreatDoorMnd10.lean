/-
  Part 11 of the texts that the proof leans on.
-/
import Derived.Test.YtegonncmopecnaaGreatDoorMnd8
import Derived.Test.YtegonncmopecnaaGreatDoorMnd9
import Derived.Test.YtegonncmopecnaaGreatDoorMnd1
import Derived.Test.YtegonncmopecnaaGreatDoorMnd4
import Derived.Shelf.SlSortCmp.WholeK
import Derived.Shelf.SlGeneric
import Derived.Ground.SlsfProg
import Derived.Test.YtegonncmopecnaaGreatDoorProg
import Derived.Test.YtegonncmopecnaaGreatDoorMnd0
import Derived.Test.YtegonncmopecnaaGreatDoorMnd7
import Derived.Deep.RegionHeld3
import Derived.Test.YtegonncmopecnaaGreatDoorMnd3
set_option linter.unusedVariables false
set_option linter.unusedSimpArgs false
set_option maxRecDepth 10000

namespace Go.Proofs.YtegonncmopecnaaGreatDoor
open Go.RowKit Go.Maps
def endsD (m n : MDisk) : MDisk := if diskOk (keepD n) then keepD n else m
def endsC (n : MDisk) : Int := if diskOk (keepD n) then 0 else 4
theorem rKeep {F0 F1 F2 : List Nat} {B base : Nat} {W : World} {ak b1 b2 : Option Addr} {ck d1 d2 : Nat} {n : MDisk} (h : RowR 3 50 (repO F0) B W base (.slice ak (keepI n).length ck) (keepI n)) (hN : ownS 2 74 oEntry W (.slice b1 n.fNames.length d1) n.fNames F1) (hS : ownS 2 74 oEntry W (.slice b2 n.fSafe.length d2) n.fSafe F2) (hx : (Lit.int .i64 n.fNext).wf = true) :
  ∃ F', oDisk W [.slice ak (keepI n).length ck, .slice b1 n.fNames.length d1, .slice b2 n.fSafe.length d2, .int .i64 n.fNext] (keepD n) F' /\ ∀ b, b ∈ F' -> b ∈ F0 ++ F1 ++ F2 ∨ base <= b := by
 obtain ⟨F', h1, h2⟩ := h.own
 refine ⟨F' ++ F1 ++ F2 ++ [], ⟨_, F', _, F1, _, F2, rfl, h1, hN, hS, hx, rfl⟩, fun b hb => ?_⟩
 simp at hb
 rcases hb with hb | hb | hb
 ·rcases h2 b hb with h | h
  ·exact .inl (by simp [h])
  ·exact .inr h
 ·exact .inl (by simp [hb])
 ·exact .inl (by simp [hb])
set_option maxHeartbeats 4000000 in
theorem l2Ends_any (cs : List Value) (b0 b1 b2 : Option Addr) (d0 d1 d2 : Nat) (m n : MDisk) (F0 F1 F2 : List Nat) (w : World) (hr : rDisk w.heap.size w cs m) (hw : wDisk m <= 1048576) (hnI : ownS 3 50 oInode w (.slice b0 n.fInodes.length d0) n.fInodes F0) (hnN : ownS 2 74 oEntry w (.slice b1 n.fNames.length d1) n.fNames F1) (hnS : ownS 2 74 oEntry w (.slice b2 n.fSafe.length d2) n.fSafe F2) (hnx' : (Lit.int .i64 n.fNext).wf = true) (hwn : wDisk n <= 16777216) (hwl : n.fInodes.length <= 1048576 /\ n.fNames.length <= 1048576 /\ n.fSafe.length <= 1048576) :
  Calls Tryz.prog 73 #[.agg cs.toArray, .agg #[.slice b0 n.fInodes.length d0, .slice b1 n.fNames.length d1, .slice b2 n.fSafe.length d2, .int .i64 n.fNext]] w fun e w' => ∃ (cs' : List Value) (F : List Nat), e = .returned (.tuple #[.agg cs'.toArray, .int .i64 (endsC n)]) /\ oDisk w' cs' (endsD m n) F /\ (∀ b, b ∈ F -> b ∈ F0 ++ F1 ++ F2 ∨ w.heap.size <= b) /\ Below w.heap.size w w' := by
 have hq := hr
 obtain ⟨a0, c0, a1, c1, a2, c2, rfl, hI, hNm, hSf, hnx, _⟩ := hq
 have hw2 : m.fInodes.length + sumW wInode m.fInodes + (m.fNames.length + sumW wEntry m.fNames) + (m.fSafe.length + sumW wEntry m.fSafe) <= 1048576 := hw
 have HW := Hm hw
 have HR := Hm hr
 clear hr hI hNm hSf hw
 have HNI := Hm hnI
 have HNN := Hm hnN
 have HNS := Hm hnS
 clear hnI hnN hnS
 have HWK : Hid (wDisk (keepD n) <= 16777216) := Nat.le_trans (keepD_weight n) hwn
 go_enter Tryz.func73, Tryz.ntmps73
 go_wp2_with fail
 obtain ⟨wq, hwq⟩ : ∃ wq, wq = (((w.alloc (.cells #[.slice a0 m.fInodes.length c0, .slice a1 m.fNames.length c1, .slice a2 m.fSafe.length c2, .int .i64 m.fNext] 27)).alloc (.cells #[.slice b0 n.fInodes.length d0, .slice b1 n.fNames.length d1, .slice b2 n.fSafe.length d2, .int .i64 n.fNext] 27)).alloc (.cells #[.slice none 0 0, .slice none 0 0, .slice none 0 0, .int .i64 0] 27)) := ⟨_, rfl⟩
 have hbW : Below w.heap.size w wq := by rw [hwq]; exact Below.alloc (Below.alloc (Below.alloc rB (by exact rN) _) (by simp; try omega) _) (by simp; try omega) _
 have hbd : Bw wq (w.heap.size) 27 [.slice a0 m.fInodes.length c0, .slice a1 m.fNames.length c1, .slice a2 m.fSafe.length c2, .int .i64 m.fNext] := by rw [hwq]; exact Bw.alloc (Bw.alloc (Bw.new' _ _ _ (by simp)) _) _
 have hbn : Bw wq (w.heap.size + 1) 27 [.slice b0 n.fInodes.length d0, .slice b1 n.fNames.length d1, .slice b2 n.fSafe.length d2, .int .i64 n.fNext] := by rw [hwq]; exact Bw.alloc (Bw.new' _ _ _ (by simp)) _
 have hbr : Bw wq (w.heap.size + 2) 27 [.slice none 0 0, .slice none 0 0, .slice none 0 0, .int .i64 0] := by rw [hwq]; exact Bw.new' _ _ _ (by simp)
 rw [<- hwq]
 clear hwq
 have hfN : ∀ W, Below w.heap.size w W -> ownS 2 74 oEntry W (.slice b1 n.fNames.length d1) n.fNames F1 := fun W hb => ownS.frame oEntry_good HNN.out (fun b hbF => hb.block b (ownS.lt oEntry_good HNN.out b hbF))
 have hfS : ∀ W, Below w.heap.size w W -> ownS 2 74 oEntry W (.slice b2 n.fSafe.length d2) n.fSafe F2 := fun W hb => ownS.frame oEntry_good HNS.out (fun b hbF => hb.block b (ownS.lt oEntry_good HNS.out b hbF))
 have HFN := Hm hfN
 have HFS := Hm hfS
 clear hfN hfS
 refine (l2Keep_any (repO F0) (repO_good F0) (repO_read F0) b0 b1 b2 d0 d1 d2 n wq w.heap.size hbW.size (HNI.out.leafO.below (repO_good F0) hbW) (LeafL.mono rEntry_good ((ownS.leaf oEntry_good HNN.out).below rEntry_good hbW) hbW.size) (LeafL.mono rEntry_good ((ownS.leaf oEntry_good HNS.out).below rEntry_good hbW) hbW.size) hwl).mono ?_
 rintro e w1 ⟨ak, ck, rfl, hrow, hx1⟩
 have HROW := Hm hrow
 have hb1 := bthen hbW hx1
 have hbd1 := hbd.under hx1
 have hbn1 := hbn.under hx1
 have hbr1 := hbr.under hx1
 have hl1 := hbn1.lt
 have hz1 := hx1.size
 have hzq := hbW.size
 have hlr := hbr1.lt
 have hbnq := hbn.lt
 have hbrq := hbr.lt
 clear hrow hbd hbn hbr
 obtain ⟨y0, y1, y2, y3⟩ := hbn1.c4
 obtain ⟨f0, f1, f2, f3⟩ := hbn1.f4
 go_wp2_with fail
 obtain ⟨ws, hws⟩ : ∃ ws, ws = ((((w1.setCell ⟨w.heap.size + 1, 0, none⟩ (.slice ak (keepI n).length ck)).setCell ⟨w.heap.size + 1, 1, none⟩ (.slice b1 n.fNames.length d1)).setCell ⟨w.heap.size + 1, 2, none⟩ (.slice b2 n.fSafe.length d2)).setCell ⟨w.heap.size + 1, 3, none⟩ (.int .i64 n.fNext)) := ⟨_, rfl⟩
 have hTs : Turn [w.heap.size + 1] w1 ws := by rw [hws]; exact turn4 _ _ _ _ _ _
 have hbns : Bw ws (w.heap.size + 1) 27 [.slice ak (keepI n).length ck, .slice b1 n.fNames.length d1, .slice b2 n.fSafe.length d2, .int .i64 n.fNext] := by rw [hws]; exact (((hbn1.put 0 _).put 1 _).put 2 _).put 3 _
 rw [<- hws]
 clear hws y0 y1 y2 y3 f0 f1 f2 f3
 have hbds := hbd1.turn hTs (by simp)
 have hbrs := hbr1.turn hTs (by simp)
 have hBs : Below w.heap.size w ws := hb1.trans (hTs.below (fun k hk => by simp at hk; omega) hb1.size)
 have hrs : RowR 3 50 (repO F0) w.heap.size ws wq.heap.size (.slice ak (keepI n).length ck) (keepI n) := RowR.turn (repO_good F0) HROW.out hTs (fun k hk => by simp at hk; omega) hb1.size rN
 have HRS := Hm hrs
 have HRK : Hid (rDisk ws.heap.size ws [.slice ak (keepI n).length ck, .slice b1 n.fNames.length d1, .slice b2 n.fSafe.length d2, .int .i64 n.fNext] (keepD n)) := by
  obtain ⟨F', h1, _⟩ := rKeep hrs (HFN.out _ hBs) (HFS.out _ hBs) hnx'
  exact oDisk_good.read h1
 have HBS := Hm hBs
 clear hrs HROW hTs
 obtain ⟨z0, z1, z2, z3⟩ := hbns.c4
 refine (specDiskOk_b [.slice ak (keepI n).length ck, .slice b1 n.fNames.length d1, .slice b2 n.fSafe.length d2, .int .i64 n.fNext] (keepD n) ws HRK.out HWK.out).mono ?_
 rintro e w2 ⟨rfl, hx2⟩
 have hb2 := bthen HBS.out hx2
 have hbd2 := hbds.under hx2
 have hbn2 := hbns.under hx2
 have hbr2 := hbrs.under hx2
 have hl2 := hbn2.lt
 have hl3 := hbr2.lt
 have hl4 := hbd2.lt
 clear z0 z1 z2 z3
 by_cases hK : diskOk (keepD n) = true
 ·have HV : Hid (endsD m n = keepD n /\ endsC n = 0) := by refine ⟨?_, ?_⟩ <;> simp [endsD, endsC, hK]
  rw [hK]
  clear hK
  obtain ⟨y0, y1, y2, y3⟩ := hbn2.c4
  obtain ⟨ze0, ze1, ze2, ze3⟩ := hbr2.c4
  obtain ⟨zf0, zf1, zf2, zf3⟩ := hbr2.f4
  have hkey : ∀ W', Turn [w.heap.size + 2] w2 W' -> (∃ F', oDisk W' [.slice ak (keepI n).length ck, .slice b1 n.fNames.length d1, .slice b2 n.fSafe.length d2, .int .i64 n.fNext] (keepD n) F' /\ ∀ b, b ∈ F' -> b ∈ F0 ++ F1 ++ F2 ∨ w.heap.size <= b) /\ Below w.heap.size w W' := fun W' hT => by
   have hBf : Below w.heap.size w W' := hb2.trans (hT.below (fun k hk => by simp at hk; omega) hb2.size)
   obtain ⟨F', h1, h2⟩ := rKeep (RowR.turn (repO_good F0) (F := [w.heap.size + 2]) (RowR.keep (repO_good F0) HRS.out hx2 HBS.out.size) hT (fun k hk => by simp at hk; omega) hb2.size rN) (HFN.out _ hBf) (HFS.out _ hBf) hnx'
   exact ⟨⟨F', h1, fun b hb => (h2 b hb).imp id (fun h => by omega)⟩, hBf⟩
  have HKEY := Hm hkey
  clear hkey
  go_wp2_with fail
  obtain ⟨⟨F', h1, h2⟩, h3⟩ := HKEY.out _ (show Turn [w.heap.size + 2] w2 ((((w2.setCell ⟨w.heap.size + 2, 0, none⟩ (.slice ak (keepI n).length ck)).setCell ⟨w.heap.size + 2, 1, none⟩ (.slice b1 n.fNames.length d1)).setCell ⟨w.heap.size + 2, 2, none⟩ (.slice b2 n.fSafe.length d2)).setCell ⟨w.heap.size + 2, 3, none⟩ (.int .i64 n.fNext)) from turn4 _ _ _ _ _ _)
  exact bodyPost_ret (v := .tuple #[.agg #[.slice ak (keepI n).length ck, .slice b1 n.fNames.length d1, .slice b2 n.fSafe.length d2, .int .i64 n.fNext], .int .i64 0]) (by simp [results, Tryz.results73, go_sem, *]) rfl ⟨[.slice ak (keepI n).length ck, .slice b1 n.fNames.length d1, .slice b2 n.fSafe.length d2, .int .i64 n.fNext], F', by rw [HV.out.2], by rw [HV.out.1]; exact h1, h2, h3⟩
 ·have hK2 : diskOk (keepD n) = false := Bool.eq_false_iff.2 hK
  have HV : Hid (endsD m n = m /\ endsC n = 4) := by refine ⟨?_, ?_⟩ <;> simp [endsD, endsC, hK2]
  rw [hK2]
  clear hK hK2
  obtain ⟨y0, y1, y2, y3⟩ := hbd2.c4
  go_wp2_with fail
  refine (l2Copy_any _ m w2 (rDisk_good.mono (rDisk_good.below HR.out hb2) hb2.size) HW.out).mono ?_
  rintro e w3 ⟨cs3, F3, rfl, ho3, hN3, hge3, hx3⟩
  have hb3 := bthen hb2 hx3
  have hbr3 := hbr2.under hx3
  have hl5 := hbr3.lt
  obtain ⟨q0, p0, q1, p1, q2, p2, G0, G1, G2, rfl, _, _, _, _, rfl⟩ := oDisk_cells ho3
  have hkey : ∀ W', Turn [w.heap.size + 2] w3 W' -> oDisk W' [.slice q0 m.fInodes.length p0, .slice q1 m.fNames.length p1, .slice q2 m.fSafe.length p2, .int .i64 m.fNext] m (G0 ++ G1 ++ G2 ++ []) /\ Below w.heap.size w W' := fun W' hT =>
   ⟨oDisk_good.frame ho3 (fun b hb => hT.block b (oDisk_good.lt ho3 b hb) (fun h => by simp at h; have := hge3 b hb; omega)), hb3.trans (hT.below (fun k hk => by simp at hk; omega) hb3.size)⟩
  have HKEY := Hm hkey
  have HGE := Hm hge3
  clear hkey ho3 hN3 hge3 y0 y1 y2 y3
  obtain ⟨ze0, ze1, ze2, ze3⟩ := hbr3.c4
  obtain ⟨zf0, zf1, zf2, zf3⟩ := hbr3.f4
  go_wp2_with fail
  obtain ⟨h1, h3⟩ := HKEY.out _ (show Turn [w.heap.size + 2] w3 ((((w3.setCell ⟨w.heap.size + 2, 0, none⟩ (.slice q0 m.fInodes.length p0)).setCell ⟨w.heap.size + 2, 1, none⟩ (.slice q1 m.fNames.length p1)).setCell ⟨w.heap.size + 2, 2, none⟩ (.slice q2 m.fSafe.length p2)).setCell ⟨w.heap.size + 2, 3, none⟩ (.int .i64 m.fNext)) from turn4 _ _ _ _ _ _)
  exact bodyPost_ret (v := .tuple #[.agg #[.slice q0 m.fInodes.length p0, .slice q1 m.fNames.length p1, .slice q2 m.fSafe.length p2, .int .i64 m.fNext], .int .i64 4]) (by simp [results, Tryz.results73, go_sem, *]) rfl ⟨[.slice q0 m.fInodes.length p0, .slice q1 m.fNames.length p1, .slice q2 m.fSafe.length p2, .int .i64 m.fNext], _, by rw [HV.out.2], by rw [HV.out.1]; exact h1, fun b hb => .inr (by have := HGE.out b hb; have := hb2.size; omega), h3⟩
end Go.Proofs.YtegonncmopecnaaGreatDoor

namespace Go.Proofs.YtegonncmopecnaaGreatDoor
open Go.RowKit
set_option maxHeartbeats 400000 in
theorem l2At_any (a : Option Addr) (n cap : Nat) (l : List MEntry) (s : ByteArray) (w : World) (B : Nat) (hx : l.length = n) (hlen : n <= 1099511627776) (hr : RdS 2 rEntry B w a l) :
  Calls Tryz.prog 58 #[.slice a n cap, .string s] w fun e w' => e = .returned (.int .i64 (nameZ l s)) /\ w' = w := by
 have HX := Hm hx
 clear hx
 go_enter Tryz.func58, Tryz.ntmps58
 go_wp2
 go_loop [5] (fun i => ∃ k : Nat, k <= n /\ i = .int .i64 k /\ ∀ j, (hj : j < l.length) -> j < k -> l[j].fName ≠ s) (fun i => n - (intOf i).toNat)
 case atStart => exact ⟨0, Nat.zero_le _, rfl, fun j _ hj => by omega⟩
 case round =>
  obtain ⟨k, hk, rfl, hno⟩ := hrel
  have HNo := Hm hno
  clear hno
  by_cases hlt : k < n
  ·have hkl : k < l.length := by rw [HX.out]; exact hlt
   obtain ⟨b1, o1, rfl, _, cs, hcl, hcell, rfl, _⟩ := hr k hkl
   have k1 := hcell 0 _ rfl
   rw [Nat.add_zero] at k1
   by_cases he : l[k].fName = s
   ·have HV := Hm (nameZ_at hkl he HNo.out)
    have heb := str_same he
    generalize l[k].fName = y at k1 heb
    clear hr hcell hcl he HNo
    go_wp2
    go_ret
    exact ⟨by rw [HV.out]; rfl, rfl⟩
   ·have heb := str_ne he
    have HNo' : Hid (∀ j, (hj : j < l.length) -> j < k + 1 -> l[j].fName ≠ s) := fun j hj hjk => by
     by_cases hjk' : j = k
     ·subst hjk'; exact he
     ·exact HNo.out j hj (by omega)
    generalize l[k].fName = y at k1 heb
    clear hr hcell hcl he HNo
    go_wp2
    go_round
    case rel => exact ⟨k + 1, by omega, by go_num, HNo'.out⟩
    case measure => simp [intOf]; omega
  ·have HV := Hm (nameZ_no (l := l) (s := s) (fun j hj => HNo.out j hj (by have := HX.out; omega)))
   clear HNo
   go_wp2
   go_ret
   exact ⟨by rw [HV.out]; rfl, rfl⟩
end Go.Proofs.YtegonncmopecnaaGreatDoor

namespace Go.Proofs.YtegonncmopecnaaGreatDoor
open Go.Proofs Go.Shelf
def sortEnt_ren : Go.Shelf.Ren := ⟨fun | 6 => 96 | 15 => 100 | 14 => 99 | 28 => 110 | 29 => 111 | 20 => 102 | 21 => 103 | 22 => 104 | 23 => 105 | 24 => 106 | 25 => 107 | 26 => 108 | 27 => 109 | 46 => 112 | 47 => 113 | 48 => 114 | 49 => 115 | 50 => 116 | 57 => 117 | n => n, fun | 22 => 25 | 24 => 74 | 25 => 119 | 3 => 3 | 39 => 112 | 0 => 0 | 53 => 113 | 55 => 131 | 4 => 4 | 46 => 124 | 45 => 123 | 50 => 76 | 5 => 5 | 9 => 9 | 66 => 132 | 70 => 136 | 76 => 138 | 77 => 46 | n => n, fun | n => n⟩
theorem sortEnt : Go.Proofs.SlLaysF0.n6 Tryz.prog sortEnt_ren := {
 mixed := by kernel_rfl
 f6 := ⟨Tryz.f96.name, by decide, Tryz.func96.trans (congrArg some (by kernel_rfl))⟩
 f14 := ⟨Tryz.f99.name, by decide, Tryz.func99.trans (congrArg some (by kernel_rfl))⟩
 f15 := Tryz.func100.trans (congrArg some (by kernel_rfl))
 f20 := ⟨Tryz.f102.name, by decide, Tryz.func102.trans (congrArg some (by kernel_rfl))⟩
 f21 := ⟨Tryz.f103.name, by decide, Tryz.func103.trans (congrArg some (by kernel_rfl))⟩
 f22 := ⟨Tryz.f104.name, by decide, Tryz.func104.trans (congrArg some (by kernel_rfl))⟩
 f23 := ⟨Tryz.f105.name, by decide, Tryz.func105.trans (congrArg some (by kernel_rfl))⟩
 f24 := ⟨Tryz.f106.name, by decide, Tryz.func106.trans (congrArg some (by kernel_rfl))⟩
 f25 := ⟨Tryz.f107.name, by decide, Tryz.func107.trans (congrArg some (by kernel_rfl))⟩
 f26 := ⟨Tryz.f108.name, by decide, Tryz.func108.trans (congrArg some (by kernel_rfl))⟩
 f27 := ⟨Tryz.f109.name, by decide, Tryz.func109.trans (congrArg some (by kernel_rfl))⟩
 f28 := Tryz.func110.trans (congrArg some (by kernel_rfl))
 f29 := Tryz.func111.trans (congrArg some (by kernel_rfl))
 f46 := ⟨Tryz.f112.name, by decide, Tryz.func112.trans (congrArg some (by kernel_rfl))⟩
 f47 := Tryz.func113.trans (congrArg some (by kernel_rfl))
 f48 := Tryz.func114.trans (congrArg some (by kernel_rfl))
 f49 := ⟨Tryz.f115.name, by decide, Tryz.func115.trans (congrArg some (by kernel_rfl))⟩
 f50 := ⟨Tryz.f116.name, by decide, Tryz.func116.trans (congrArg some (by kernel_rfl))⟩
 f57 := ⟨Tryz.f117.name, by decide, Tryz.func117.trans (congrArg some (by kernel_rfl))⟩
 t0 := Tryz.underlying0
 a0 := Tryz.isAgg0
 z0 := Tryz.sizeOf0
 v0 := Tryz.zeroValue0
 t3 := Tryz.underlying3
 a3 := Tryz.isAgg3
 z3 := Tryz.sizeOf3
 v3 := Tryz.zeroValue3
 t4 := Tryz.underlying4
 a4 := Tryz.isAgg4
 z4 := Tryz.sizeOf4
 v4 := Tryz.zeroValue4
 t5 := Tryz.underlying5
 a5 := Tryz.isAgg5
 z5 := Tryz.sizeOf5
 v5 := Tryz.zeroValue5
 t9 := Tryz.underlying9
 a9 := Tryz.isAgg9
 z9 := Tryz.sizeOf9
 v9 := Tryz.zeroValue9
 t22 := Tryz.underlying25
 a22 := Tryz.isAgg25
 z22 := Tryz.sizeOf25
 v22 := Tryz.zeroValue25
 t25 := Tryz.underlying119
 a25 := Tryz.isAgg119
 z25 := Tryz.sizeOf119
 v25 := Tryz.zeroValue119
 t39 := Tryz.underlying112
 a39 := Tryz.isAgg112
 z39 := Tryz.sizeOf112
 v39 := Tryz.zeroValue112
 t45 := Tryz.underlying123
 a45 := Tryz.isAgg123
 z45 := Tryz.sizeOf123
 v45 := Tryz.zeroValue123
 t46 := Tryz.underlying124
 a46 := Tryz.isAgg124
 z46 := Tryz.sizeOf124
 v46 := Tryz.zeroValue124
 t50 := Tryz.underlying76
 a50 := Tryz.isAgg76
 z50 := Tryz.sizeOf76
 v50 := Tryz.zeroValue76
 t53 := Tryz.underlying113
 a53 := Tryz.isAgg113
 z53 := Tryz.sizeOf113
 v53 := Tryz.zeroValue113
 t55 := Tryz.underlying131
 a55 := Tryz.isAgg131
 z55 := Tryz.sizeOf131
 v55 := Tryz.zeroValue131
 t66 := Tryz.underlying132
 a66 := Tryz.isAgg132
 z66 := Tryz.sizeOf132
 v66 := Tryz.zeroValue132
 t70 := Tryz.underlying136
 a70 := Tryz.isAgg136
 z70 := Tryz.sizeOf136
 v70 := Tryz.zeroValue136
 t76 := Tryz.underlying138
 a76 := Tryz.isAgg138
 z76 := Tryz.sizeOf138
 v76 := Tryz.zeroValue138
 t77 := Tryz.underlying46
 a77 := Tryz.isAgg46
 z77 := Tryz.sizeOf46
 v77 := Tryz.zeroValue46 }
end Go.Proofs.YtegonncmopecnaaGreatDoor

namespace Go.Proofs.YtegonncmopecnaaGreatDoor
open Go.RowKit Go.Maps
abbrev q7b7_10_1_0 : Oper := ⟨some 3, .fieldAddr 27 (.tmp 1) 3, 0, "l02_files.go:45", #[], none⟩
abbrev q7b7_10_1_1 : Oper := ⟨some 4, .load 3 (.tmp 3), 3, "l02_files.go:45", #[⟨0, .data⟩], none⟩
abbrev q7b7_10_1_2 : Oper := ⟨some 5, .binOp .geq 3 (.tmp 4) (.const (.int .i64 1)) 3, 4, "l02_files.go:45", #[⟨1, .data⟩], none⟩
abbrev q7b7_10_1_3 : Oper := ⟨some 6, .move (.tmp 5), 4, "l02_files.go:45", #[⟨2, .data⟩], none⟩
abbrev q7b7_10_1_4 : Oper := ⟨some 7, .fieldAddr 27 (.tmp 1) 3, 0, "l02_files.go:45", #[⟨3, .guard⟩], some (3, true)⟩
abbrev q7b7_10_1_5 : Oper := ⟨some 8, .load 3 (.tmp 7), 3, "l02_files.go:45", #[⟨4, .data⟩, ⟨3, .guard⟩], some (3, true)⟩
abbrev q7b7_10_1_6 : Oper := ⟨some 9, .binOp .leq 3 (.tmp 8) (.const (.int .i64 1000000)) 3, 4, "l02_files.go:45", #[⟨5, .data⟩, ⟨3, .guard⟩], some (3, true)⟩
abbrev q7b7_10_1_7 : Oper := ⟨some 10, .pick (.tmp 6) (.tmp 9) (.const (.bool false)), 4, "l02_files.go:45", #[⟨3, .data⟩, ⟨6, .data⟩], none⟩
abbrev q7b7_10_1_8 : Oper := ⟨some 11, .move (.tmp 10), 4, "l02_files.go:45", #[⟨7, .data⟩, ⟨3, .chain⟩], none⟩
abbrev q7b7_10_1_9 : Oper := ⟨some 12, .fieldAddr 27 (.tmp 1) 0, 0, "l02_files.go:45", #[⟨8, .guard⟩], some (8, true)⟩
abbrev q7b7_10_1_10 : Oper := ⟨some 13, .load 24 (.tmp 12), 24, "l02_files.go:45", #[⟨9, .data⟩, ⟨8, .guard⟩], some (8, true)⟩
abbrev q7b7_10_1_11 : Oper := ⟨some 14, .fieldAddr 27 (.tmp 1) 3, 0, "l02_files.go:45", #[⟨8, .guard⟩], some (8, true)⟩
abbrev q7b7_10_1_12 : Oper := ⟨some 15, .load 3 (.tmp 14), 3, "l02_files.go:45", #[⟨11, .data⟩, ⟨8, .guard⟩], some (8, true)⟩
abbrev q7b7_10_1_13 : Oper := ⟨some 16, .call { callee := .value (.func 27), args := #[.tmp 13, .tmp 15], argTypes := #[24, 3] }, 4, "l02_files.go:45", #[⟨10, .data⟩, ⟨12, .data⟩, ⟨8, .chain⟩, ⟨8, .guard⟩], some (8, true)⟩
abbrev q7b7_10_1_14 : Oper := ⟨some 17, .pick (.tmp 11) (.tmp 16) (.const (.bool false)), 4, "l02_files.go:45", #[⟨8, .data⟩, ⟨13, .data⟩], none⟩
abbrev q7b7_10_1_15 : Oper := ⟨some 18, .move (.tmp 17), 4, "l02_files.go:45", #[⟨14, .data⟩, ⟨13, .chain⟩], none⟩
abbrev q7b7_10_1_16 : Oper := ⟨some 19, .fieldAddr 27 (.tmp 1) 1, 0, "l02_files.go:45", #[⟨15, .guard⟩], some (15, true)⟩
abbrev q7b7_10_1_17 : Oper := ⟨some 20, .load 25 (.tmp 19), 25, "l02_files.go:45", #[⟨16, .data⟩, ⟨15, .guard⟩], some (15, true)⟩
abbrev q7b7_10_1_18 : Oper := ⟨some 21, .fieldAddr 27 (.tmp 1) 0, 0, "l02_files.go:45", #[⟨15, .guard⟩], some (15, true)⟩
abbrev q7b7_10_1_19 : Oper := ⟨some 22, .load 24 (.tmp 21), 24, "l02_files.go:45", #[⟨18, .data⟩, ⟨15, .guard⟩], some (15, true)⟩
abbrev q7b7_10_1_20 : Oper := ⟨some 23, .call { callee := .value (.func 28), args := #[.tmp 20, .tmp 22], argTypes := #[25, 24] }, 4, "l02_files.go:46", #[⟨17, .data⟩, ⟨19, .data⟩, ⟨15, .chain⟩, ⟨15, .guard⟩], some (15, true)⟩
abbrev q7b7_10_1_21 : Oper := ⟨some 24, .pick (.tmp 18) (.tmp 23) (.const (.bool false)), 4, "l02_files.go:45", #[⟨15, .data⟩, ⟨20, .data⟩], none⟩
abbrev q7b7_10_1_22 : Oper := ⟨some 25, .move (.tmp 24), 4, "l02_files.go:45", #[⟨21, .data⟩, ⟨20, .chain⟩], none⟩
abbrev q7b7_10_1_23 : Oper := ⟨some 26, .fieldAddr 27 (.tmp 1) 2, 0, "l02_files.go:45", #[⟨22, .guard⟩], some (22, true)⟩
abbrev q7b7_10_1_24 : Oper := ⟨some 27, .load 25 (.tmp 26), 25, "l02_files.go:45", #[⟨23, .data⟩, ⟨22, .guard⟩], some (22, true)⟩
abbrev q7b7_10_1_25 : Oper := ⟨some 28, .fieldAddr 27 (.tmp 1) 0, 0, "l02_files.go:45", #[⟨22, .guard⟩], some (22, true)⟩
abbrev q7b7_10_1_26 : Oper := ⟨some 29, .load 24 (.tmp 28), 24, "l02_files.go:45", #[⟨25, .data⟩, ⟨22, .guard⟩], some (22, true)⟩
abbrev q7b7_10_1_27 : Oper := ⟨some 30, .call { callee := .value (.func 28), args := #[.tmp 27, .tmp 29], argTypes := #[25, 24] }, 4, "l02_files.go:46", #[⟨24, .data⟩, ⟨26, .data⟩, ⟨22, .chain⟩, ⟨22, .guard⟩], some (22, true)⟩
abbrev q7b7_10_1_28 : Oper := ⟨some 31, .pick (.tmp 25) (.tmp 30) (.const (.bool false)), 4, "l02_files.go:45", #[⟨22, .data⟩, ⟨27, .data⟩], none⟩
abbrev q7b7_10_1_29 : Oper := ⟨some 32, .move (.tmp 31), 4, "l02_files.go:45", #[⟨28, .data⟩, ⟨27, .chain⟩], none⟩
abbrev q7b7_10_1_30 : Oper := ⟨some 33, .load 27 (.tmp 1), 27, "l02_files.go:45", #[⟨29, .guard⟩], some (29, true)⟩
abbrev q7b7_10_1_31 : Oper := ⟨some 34, .call { callee := .value (.func 29), args := #[.tmp 33], argTypes := #[27] }, 24, "l02_files.go:46", #[⟨30, .data⟩, ⟨29, .chain⟩, ⟨29, .guard⟩], some (29, true)⟩
abbrev q7b7_10_1_32 : Oper := ⟨some 35, .call { callee := .builtin .len, args := #[.tmp 34], argTypes := #[24] }, 3, "l02_files.go:45", #[⟨31, .data⟩, ⟨29, .guard⟩], some (29, true)⟩
abbrev q7b7_10_1_33 : Oper := ⟨some 36, .fieldAddr 27 (.tmp 1) 0, 0, "l02_files.go:45", #[⟨29, .guard⟩], some (29, true)⟩
abbrev q7b7_10_1_34 : Oper := ⟨some 37, .load 24 (.tmp 36), 24, "l02_files.go:45", #[⟨33, .data⟩, ⟨29, .guard⟩], some (29, true)⟩
abbrev q7b7_10_1_35 : Oper := ⟨some 38, .call { callee := .builtin .len, args := #[.tmp 37], argTypes := #[24] }, 3, "l02_files.go:45", #[⟨34, .data⟩, ⟨29, .guard⟩], some (29, true)⟩
abbrev q7b7_10_1_36 : Oper := ⟨some 39, .binOp .eql 3 (.tmp 35) (.tmp 38) 3, 4, "l02_files.go:45", #[⟨32, .data⟩, ⟨35, .data⟩, ⟨29, .guard⟩], some (29, true)⟩
abbrev q7b7_10_1_37 : Oper := ⟨some 40, .pick (.tmp 32) (.tmp 39) (.const (.bool false)), 4, "l02_files.go:45", #[⟨29, .data⟩, ⟨36, .data⟩], none⟩
abbrev q7b7_10_1_38 : Oper := ⟨some 2, .assign (.tmp 40), 4, "l02_files.go:45", #[⟨37, .data⟩, ⟨31, .chain⟩, ⟨0, .phase⟩, ⟨1, .phase⟩, ⟨2, .phase⟩, ⟨3, .phase⟩, ⟨4, .phase⟩, ⟨5, .phase⟩, ⟨6, .phase⟩, ⟨7, .phase⟩, ⟨8, .phase⟩, ⟨9, .phase⟩, ⟨10, .phase⟩, ⟨11, .phase⟩, ⟨12, .phase⟩, ⟨13, .phase⟩, ⟨14, .phase⟩, ⟨15, .phase⟩, ⟨16, .phase⟩, ⟨17, .phase⟩, ⟨18, .phase⟩, ⟨19, .phase⟩, ⟨20, .phase⟩, ⟨21, .phase⟩, ⟨22, .phase⟩, ⟨23, .phase⟩, ⟨24, .phase⟩, ⟨25, .phase⟩, ⟨26, .phase⟩, ⟨27, .phase⟩, ⟨28, .phase⟩, ⟨29, .phase⟩, ⟨30, .phase⟩, ⟨31, .phase⟩, ⟨32, .phase⟩, ⟨33, .phase⟩, ⟨34, .phase⟩, ⟨35, .phase⟩, ⟨36, .phase⟩, ⟨37, .phase⟩], none⟩
def implOk (d : MDisk) : Bool :=
 decide (1 <= d.fNext) && decide (d.fNext <= 1000000) && (okI d.fNext 0 d.fInodes && decide (sumW wInode d.fInodes <= 60000)) &&
  (decide (d.fNames.length <= 30) && okE d.fInodes [] ByteArray.empty d.fNames) && (decide (d.fSafe.length <= 30) && okE d.fInodes [] ByteArray.empty d.fSafe) && decide ((keepI d).length = d.fInodes.length)
theorem keepI_count (d : MDisk) : decide ((keepI d).length = d.fInodes.length) = d.fInodes.all (isNamed d) := by
 unfold keepI
 rw [Bool.eq_iff_iff, decide_eq_true_eq, List.length_filter_eq_length_iff, List.all_eq_true]
theorem implOk_eq (d : MDisk) : implOk d = diskOk d := by
 unfold implOk diskOk
 rw [keepI_count, Bool.decide_and]
 cases decide (1 <= d.fNext) <;> cases decide (d.fNext <= 1000000) <;> cases okI d.fNext 0 d.fInodes <;> cases decide (sumW wInode d.fInodes <= 60000) <;> simp [Bool.and_assoc]
set_option maxHeartbeats 8000000 in
theorem implDiskOk_any (cs : List Value) (m : MDisk) (w : World) (hr : rDisk w.heap.size w cs m) (hw : wDisk m <= 16777216) :
  Calls Tryz.prog 10 #[.agg cs.toArray] w fun e w' => e = .returned (.bool (implOk m)) /\ Below w.heap.size w w' := by
 have hq := hr
 obtain ⟨a0, c0, a1, c1, a2, c2, rfl, hI, hNm, hSf, hnx, _⟩ := hq
 have hw2 : m.fInodes.length + sumW wInode m.fInodes + (m.fNames.length + sumW wEntry m.fNames) + (m.fSafe.length + sumW wEntry m.fSafe) <= 16777216 := hw
 have HW := Hm hw
 have HR := Hm hr
 have HI := Hm hI
 have HNL := Hm hNm
 have HSL := Hm hSf
 clear hr hI hNm hSf hw
 have hnb : -9223372036854775808 <= m.fNext /\ m.fNext <= 9223372036854775807 := by simpa [Lit.wf, IntKind.min, IntKind.max, IntKind.signed, IntKind.bits] using hnx
 have HNB := Hm hnb
 obtain ⟨hnb1, hnb2⟩ := hnb
 go_enter Tryz.func10, Tryz.ntmps10
 go_wp2_with fail
 obtain ⟨wq, hwq⟩ : ∃ wq, wq = w.alloc (.cells #[.slice a0 m.fInodes.length c0, .slice a1 m.fNames.length c1, .slice a2 m.fSafe.length c2, .int .i64 m.fNext] 27) := ⟨_, rfl⟩
 have hbW : Below w.heap.size w wq := by rw [hwq]; exact rB.alloc rN _
 have hbx : Bx wq w.heap.size [.slice a0 m.fInodes.length c0, .slice a1 m.fNames.length c1, .slice a2 m.fSafe.length c2, .int .i64 m.fNext] := by rw [hwq]; exact Bx.new _ _ _
 rw [<- hwq]
 clear hwq
 have p0 : ∀ W, Below wq.heap.size wq W -> W.cell? ⟨w.heap.size, 0, none⟩ = some (.slice a0 m.fInodes.length c0) := fun W hb => (hbx.under hb).2 0 _ rfl
 have p1 : ∀ W, Below wq.heap.size wq W -> W.cell? ⟨w.heap.size, 1, none⟩ = some (.slice a1 m.fNames.length c1) := fun W hb => (hbx.under hb).2 1 _ rfl
 have p2 : ∀ W, Below wq.heap.size wq W -> W.cell? ⟨w.heap.size, 2, none⟩ = some (.slice a2 m.fSafe.length c2) := fun W hb => (hbx.under hb).2 2 _ rfl
 have p3 : ∀ W, Below wq.heap.size wq W -> W.cell? ⟨w.heap.size, 3, none⟩ = some (.int .i64 m.fNext) := fun W hb => (hbx.under hb).2 3 _ rfl
 have hCi := fun W (hb : Below wq.heap.size wq W) => inodesOk_any a0 c0 m.fInodes m.fNext W (LeafL.mono rInode_good (HI.out.below rInode_good (bthen hbW hb)) (bthen hbW hb).size) (by omega) HNB.out
 have hCn := fun W (hb : Below wq.heap.size wq W) => namedInodes_any _ m W (rDisk_good.mono (rDisk_good.below HR.out (bthen hbW hb)) (bthen hbW hb).size) HW.out
 obtain ⟨A1, hA1⟩ : ∃ b : Bool, (okI m.fNext 0 m.fInodes && decide (sumW wInode m.fInodes <= 60000)) = b := ⟨_, rfl⟩
 obtain ⟨A2, hA2⟩ : ∃ b : Bool, (decide (m.fNames.length <= 30) && okE m.fInodes [] ByteArray.empty m.fNames) = b := ⟨_, rfl⟩
 obtain ⟨A3, hA3⟩ : ∃ b : Bool, (decide (m.fSafe.length <= 30) && okE m.fInodes [] ByteArray.empty m.fSafe) = b := ⟨_, rfl⟩
 have HV : Hid (implOk m = (decide (1 <= m.fNext) && decide (m.fNext <= 1000000) && A1 && A2 && A3 && decide ((keepI m).length = m.fInodes.length))) := by
  show implOk m = _
  unfold implOk
  rw [hA1, hA2, hA3]
 have HA1 := Hm hA1
 simp only [hA1] at hCi
 by_cases h1 : 1 <= m.fNext
 ·by_cases h2 : m.fNext <= 1000000
  ·cases A1
   ·clear hA1 hA2 hA3 hCn
    refine wp_region_held_drew (S := fun W => Below wq.heap.size wq W) (by kernel_rfl) (Below.drew rB) (fun hZ => ?_)
    refine uq 0 q7b7_10_1_0 3 hZ ?_
    refine uq 1 q7b7_10_1_1 4 hZ ?_
    refine uq 2 q7b7_10_1_2 5 hZ ?_
    refine uq 3 q7b7_10_1_3 6 hZ ?_
    refine uq 4 q7b7_10_1_4 7 hZ ?_
    refine uq 5 q7b7_10_1_5 8 hZ ?_
    refine uq 6 q7b7_10_1_6 9 hZ ?_
    refine uq 7 q7b7_10_1_7 10 hZ ?_
    refine uq 8 q7b7_10_1_8 11 hZ ?_
    refine uq 9 q7b7_10_1_9 12 hZ ?_
    refine uq 10 q7b7_10_1_10 13 hZ ?_
    refine uq 11 q7b7_10_1_11 14 hZ ?_
    refine uq 12 q7b7_10_1_12 15 hZ ?_
    refine ar1 13 q7b7_10_1_13 fun K hK => ?_
    go_simp
    refine Calls.mono (hCi _ hZ) ?_
    rintro e w1 ⟨rfl, hx1⟩
    go_wp2_with fail
    refine hK.out _ _ (bthen hZ hx1) (fun hZ => ?_)
    clear hK K
    try simp only[Act.put,sa,s0,s1]
    refine uq 14 q7b7_10_1_14 17 hZ ?_
    refine uq 15 q7b7_10_1_15 18 hZ ?_
    refine um 16 q7b7_10_1_16 19 hZ ?_
    refine um 17 q7b7_10_1_17 20 hZ ?_
    refine um 18 q7b7_10_1_18 21 hZ ?_
    refine um 19 q7b7_10_1_19 22 hZ ?_
    refine um 20 q7b7_10_1_20 23 hZ ?_
    refine uq 21 q7b7_10_1_21 24 hZ ?_
    refine uq 22 q7b7_10_1_22 25 hZ ?_
    refine um 23 q7b7_10_1_23 26 hZ ?_
    refine um 24 q7b7_10_1_24 27 hZ ?_
    refine um 25 q7b7_10_1_25 28 hZ ?_
    refine um 26 q7b7_10_1_26 29 hZ ?_
    refine um 27 q7b7_10_1_27 30 hZ ?_
    refine uq 28 q7b7_10_1_28 31 hZ ?_
    refine uq 29 q7b7_10_1_29 32 hZ ?_
    refine um 30 q7b7_10_1_30 33 hZ ?_
    refine um 31 q7b7_10_1_31 34 hZ ?_
    refine um 32 q7b7_10_1_32 35 hZ ?_
    refine um 33 q7b7_10_1_33 36 hZ ?_
    refine um 34 q7b7_10_1_34 37 hZ ?_
    refine um 35 q7b7_10_1_35 38 hZ ?_
    refine um 36 q7b7_10_1_36 39 hZ ?_
    refine uq 37 q7b7_10_1_37 40 hZ ?_
    refine uq 38 q7b7_10_1_38 2 hZ ?_
    refine wpAnyH_done (by kernel_rfl) ?_ _
    go_wp2_with fail
    go_ret
    exact ⟨by rw [HV.out]; simp, bthen hbW hZ⟩
   ·have hso : m.fInodes.Pairwise fun x y => x.fId < y.fId := by
     have h := HA1.out
     rw [Bool.and_eq_true] at h
     exact okI_sorted h.1
    have HSO := Hm hso
    clear hso
    have hCa := fun W (hb : Below wq.heap.size wq W) => entriesOk_any a1 a0 _ c1 c0 m.fNames m.fInodes W rfl (LeafL.mono rEntry_good (HNL.out.below rEntry_good (bthen hbW hb)) (bthen hbW hb).size) (LeafL.mono rInode_good (HI.out.below rInode_good (bthen hbW hb)) (bthen hbW hb).size) (by omega) (by omega) HSO.out
    have hCb := fun W (hb : Below wq.heap.size wq W) => entriesOk_any a2 a0 _ c2 c0 m.fSafe m.fInodes W rfl (LeafL.mono rEntry_good (HSL.out.below rEntry_good (bthen hbW hb)) (bthen hbW hb).size) (LeafL.mono rInode_good (HI.out.below rInode_good (bthen hbW hb)) (bthen hbW hb).size) (by omega) (by omega) HSO.out
    simp only [hA2] at hCa
    simp only [hA3] at hCb
    clear hA1 hA2 hA3
    cases A2
    ·skip
     refine wp_region_held_drew (S := fun W => Below wq.heap.size wq W) (by kernel_rfl) (Below.drew rB) (fun hZ => ?_)
     refine uq 0 q7b7_10_1_0 3 hZ ?_
     refine uq 1 q7b7_10_1_1 4 hZ ?_
     refine uq 2 q7b7_10_1_2 5 hZ ?_
     refine uq 3 q7b7_10_1_3 6 hZ ?_
     refine uq 4 q7b7_10_1_4 7 hZ ?_
     refine uq 5 q7b7_10_1_5 8 hZ ?_
     refine uq 6 q7b7_10_1_6 9 hZ ?_
     refine uq 7 q7b7_10_1_7 10 hZ ?_
     refine uq 8 q7b7_10_1_8 11 hZ ?_
     refine uq 9 q7b7_10_1_9 12 hZ ?_
     refine uq 10 q7b7_10_1_10 13 hZ ?_
     refine uq 11 q7b7_10_1_11 14 hZ ?_
     refine uq 12 q7b7_10_1_12 15 hZ ?_
     refine ar1 13 q7b7_10_1_13 fun K hK => ?_
     go_simp
     refine Calls.mono (hCi _ hZ) ?_
     rintro e w1 ⟨rfl, hx1⟩
     go_wp2_with fail
     refine hK.out _ _ (bthen hZ hx1) (fun hZ => ?_)
     clear hK K
     try simp only[Act.put,sa,s0,s1]
     refine uq 14 q7b7_10_1_14 17 hZ ?_
     refine uq 15 q7b7_10_1_15 18 hZ ?_
     refine uq 16 q7b7_10_1_16 19 hZ ?_
     refine uq 17 q7b7_10_1_17 20 hZ ?_
     refine uq 18 q7b7_10_1_18 21 hZ ?_
     refine uq 19 q7b7_10_1_19 22 hZ ?_
     refine ar1 20 q7b7_10_1_20 fun K hK => ?_
     go_simp
     refine Calls.mono (hCa _ hZ) ?_
     rintro e w2 ⟨rfl, hx2⟩
     go_wp2_with fail
     refine hK.out _ _ (bthen hZ hx2) (fun hZ => ?_)
     clear hK K
     try simp only[Act.put,sa,s0,s1]
     refine uq 21 q7b7_10_1_21 24 hZ ?_
     refine uq 22 q7b7_10_1_22 25 hZ ?_
     refine um 23 q7b7_10_1_23 26 hZ ?_
     refine um 24 q7b7_10_1_24 27 hZ ?_
     refine um 25 q7b7_10_1_25 28 hZ ?_
     refine um 26 q7b7_10_1_26 29 hZ ?_
     refine um 27 q7b7_10_1_27 30 hZ ?_
     refine uq 28 q7b7_10_1_28 31 hZ ?_
     refine uq 29 q7b7_10_1_29 32 hZ ?_
     refine um 30 q7b7_10_1_30 33 hZ ?_
     refine um 31 q7b7_10_1_31 34 hZ ?_
     refine um 32 q7b7_10_1_32 35 hZ ?_
     refine um 33 q7b7_10_1_33 36 hZ ?_
     refine um 34 q7b7_10_1_34 37 hZ ?_
     refine um 35 q7b7_10_1_35 38 hZ ?_
     refine um 36 q7b7_10_1_36 39 hZ ?_
     refine uq 37 q7b7_10_1_37 40 hZ ?_
     refine uq 38 q7b7_10_1_38 2 hZ ?_
     refine wpAnyH_done (by kernel_rfl) ?_ _
     go_wp2_with fail
     go_ret
     exact ⟨by rw [HV.out]; simp, bthen hbW hZ⟩
    ·cases A3
     ·skip
      refine wp_region_held_drew (S := fun W => Below wq.heap.size wq W) (by kernel_rfl) (Below.drew rB) (fun hZ => ?_)
      refine uq 0 q7b7_10_1_0 3 hZ ?_
      refine uq 1 q7b7_10_1_1 4 hZ ?_
      refine uq 2 q7b7_10_1_2 5 hZ ?_
      refine uq 3 q7b7_10_1_3 6 hZ ?_
      refine uq 4 q7b7_10_1_4 7 hZ ?_
      refine uq 5 q7b7_10_1_5 8 hZ ?_
      refine uq 6 q7b7_10_1_6 9 hZ ?_
      refine uq 7 q7b7_10_1_7 10 hZ ?_
      refine uq 8 q7b7_10_1_8 11 hZ ?_
      refine uq 9 q7b7_10_1_9 12 hZ ?_
      refine uq 10 q7b7_10_1_10 13 hZ ?_
      refine uq 11 q7b7_10_1_11 14 hZ ?_
      refine uq 12 q7b7_10_1_12 15 hZ ?_
      refine ar1 13 q7b7_10_1_13 fun K hK => ?_
      go_simp
      refine Calls.mono (hCi _ hZ) ?_
      rintro e w1 ⟨rfl, hx1⟩
      go_wp2_with fail
      refine hK.out _ _ (bthen hZ hx1) (fun hZ => ?_)
      clear hK K
      try simp only[Act.put,sa,s0,s1]
      refine uq 14 q7b7_10_1_14 17 hZ ?_
      refine uq 15 q7b7_10_1_15 18 hZ ?_
      refine uq 16 q7b7_10_1_16 19 hZ ?_
      refine uq 17 q7b7_10_1_17 20 hZ ?_
      refine uq 18 q7b7_10_1_18 21 hZ ?_
      refine uq 19 q7b7_10_1_19 22 hZ ?_
      refine ar1 20 q7b7_10_1_20 fun K hK => ?_
      go_simp
      refine Calls.mono (hCa _ hZ) ?_
      rintro e w2 ⟨rfl, hx2⟩
      go_wp2_with fail
      refine hK.out _ _ (bthen hZ hx2) (fun hZ => ?_)
      clear hK K
      try simp only[Act.put,sa,s0,s1]
      refine uq 21 q7b7_10_1_21 24 hZ ?_
      refine uq 22 q7b7_10_1_22 25 hZ ?_
      refine uq 23 q7b7_10_1_23 26 hZ ?_
      refine uq 24 q7b7_10_1_24 27 hZ ?_
      refine uq 25 q7b7_10_1_25 28 hZ ?_
      refine uq 26 q7b7_10_1_26 29 hZ ?_
      refine ar1 27 q7b7_10_1_27 fun K hK => ?_
      go_simp
      refine Calls.mono (hCb _ hZ) ?_
      rintro e w3 ⟨rfl, hx3⟩
      go_wp2_with fail
      refine hK.out _ _ (bthen hZ hx3) (fun hZ => ?_)
      clear hK K
      try simp only[Act.put,sa,s0,s1]
      refine uq 28 q7b7_10_1_28 31 hZ ?_
      refine uq 29 q7b7_10_1_29 32 hZ ?_
      refine um 30 q7b7_10_1_30 33 hZ ?_
      refine um 31 q7b7_10_1_31 34 hZ ?_
      refine um 32 q7b7_10_1_32 35 hZ ?_
      refine um 33 q7b7_10_1_33 36 hZ ?_
      refine um 34 q7b7_10_1_34 37 hZ ?_
      refine um 35 q7b7_10_1_35 38 hZ ?_
      refine um 36 q7b7_10_1_36 39 hZ ?_
      refine uq 37 q7b7_10_1_37 40 hZ ?_
      refine uq 38 q7b7_10_1_38 2 hZ ?_
      refine wpAnyH_done (by kernel_rfl) ?_ _
      go_wp2_with fail
      go_ret
      exact ⟨by rw [HV.out]; simp, bthen hbW hZ⟩
     ·skip
      refine wp_region_held_drew (S := fun W => Below wq.heap.size wq W) (by kernel_rfl) (Below.drew rB) (fun hZ => ?_)
      refine uq 0 q7b7_10_1_0 3 hZ ?_
      refine uq 1 q7b7_10_1_1 4 hZ ?_
      refine uq 2 q7b7_10_1_2 5 hZ ?_
      refine uq 3 q7b7_10_1_3 6 hZ ?_
      refine uq 4 q7b7_10_1_4 7 hZ ?_
      refine uq 5 q7b7_10_1_5 8 hZ ?_
      refine uq 6 q7b7_10_1_6 9 hZ ?_
      refine uq 7 q7b7_10_1_7 10 hZ ?_
      refine uq 8 q7b7_10_1_8 11 hZ ?_
      refine uq 9 q7b7_10_1_9 12 hZ ?_
      refine uq 10 q7b7_10_1_10 13 hZ ?_
      refine uq 11 q7b7_10_1_11 14 hZ ?_
      refine uq 12 q7b7_10_1_12 15 hZ ?_
      refine ar1 13 q7b7_10_1_13 fun K hK => ?_
      go_simp
      refine Calls.mono (hCi _ hZ) ?_
      rintro e w1 ⟨rfl, hx1⟩
      go_wp2_with fail
      refine hK.out _ _ (bthen hZ hx1) (fun hZ => ?_)
      clear hK K
      try simp only[Act.put,sa,s0,s1]
      refine uq 14 q7b7_10_1_14 17 hZ ?_
      refine uq 15 q7b7_10_1_15 18 hZ ?_
      refine uq 16 q7b7_10_1_16 19 hZ ?_
      refine uq 17 q7b7_10_1_17 20 hZ ?_
      refine uq 18 q7b7_10_1_18 21 hZ ?_
      refine uq 19 q7b7_10_1_19 22 hZ ?_
      refine ar1 20 q7b7_10_1_20 fun K hK => ?_
      go_simp
      refine Calls.mono (hCa _ hZ) ?_
      rintro e w2 ⟨rfl, hx2⟩
      go_wp2_with fail
      refine hK.out _ _ (bthen hZ hx2) (fun hZ => ?_)
      clear hK K
      try simp only[Act.put,sa,s0,s1]
      refine uq 21 q7b7_10_1_21 24 hZ ?_
      refine uq 22 q7b7_10_1_22 25 hZ ?_
      refine uq 23 q7b7_10_1_23 26 hZ ?_
      refine uq 24 q7b7_10_1_24 27 hZ ?_
      refine uq 25 q7b7_10_1_25 28 hZ ?_
      refine uq 26 q7b7_10_1_26 29 hZ ?_
      refine ar1 27 q7b7_10_1_27 fun K hK => ?_
      go_simp
      refine Calls.mono (hCb _ hZ) ?_
      rintro e w3 ⟨rfl, hx3⟩
      go_wp2_with fail
      refine hK.out _ _ (bthen hZ hx3) (fun hZ => ?_)
      clear hK K
      try simp only[Act.put,sa,s0,s1]
      refine uq 28 q7b7_10_1_28 31 hZ ?_
      refine uq 29 q7b7_10_1_29 32 hZ ?_
      refine uq 30 q7b7_10_1_30 33 hZ ?_
      refine uq 33 q7b7_10_1_33 36 hZ ?_
      refine uq 34 q7b7_10_1_34 37 hZ ?_
      refine uq 35 q7b7_10_1_35 38 hZ ?_
      refine ar1 31 q7b7_10_1_31 fun K hK => ?_
      go_simp
      refine Calls.mono (hCn _ hZ) ?_
      rintro e w4 ⟨ar, cr, rfl, _, hx4⟩
      go_wp2_with fail
      refine hK.out _ _ (bthen hZ hx4) (fun hZ => ?_)
      clear hK K
      try simp only[Act.put,sa,s0,s1]
      refine uq 32 q7b7_10_1_32 35 hZ ?_
      refine uq 36 q7b7_10_1_36 39 hZ ?_
      refine uq 37 q7b7_10_1_37 40 hZ ?_
      refine uq 38 q7b7_10_1_38 2 hZ ?_
      refine wpAnyH_done (by kernel_rfl) ?_ _
      go_wp2_with fail
      go_ret
      have HD1 : Hid (decide (1 <= m.fNext) = true) := decide_eq_true h1
      have HD2 : Hid (decide (m.fNext <= 1000000) = true) := decide_eq_true h2
      refine ⟨?_, bthen hbW hZ⟩
      rw [HV.out, HD1.out, HD2.out]
      simp
      rw [Bool.eq_iff_iff, beq_iff_eq, decide_eq_true_eq]
      omega
  ·have h2' : (m.fNext <= 1000000) = False := eq_false h2
   have HD2 := Hm (decide_eq_false h2)
   refine wp_region_held_drew (S := fun W => Below wq.heap.size wq W) (by kernel_rfl) (Below.drew rB) (fun hZ => ?_)
   refine uq 0 q7b7_10_1_0 3 hZ ?_
   refine uq 1 q7b7_10_1_1 4 hZ ?_
   refine uq 2 q7b7_10_1_2 5 hZ ?_
   refine uq 3 q7b7_10_1_3 6 hZ ?_
   refine uq 4 q7b7_10_1_4 7 hZ ?_
   refine uq 5 q7b7_10_1_5 8 hZ ?_
   refine uq 6 q7b7_10_1_6 9 hZ ?_
   refine uq 7 q7b7_10_1_7 10 hZ ?_
   refine uq 8 q7b7_10_1_8 11 hZ ?_
   refine um 9 q7b7_10_1_9 12 hZ ?_
   refine um 10 q7b7_10_1_10 13 hZ ?_
   refine um 11 q7b7_10_1_11 14 hZ ?_
   refine um 12 q7b7_10_1_12 15 hZ ?_
   refine um 13 q7b7_10_1_13 16 hZ ?_
   refine uq 14 q7b7_10_1_14 17 hZ ?_
   refine uq 15 q7b7_10_1_15 18 hZ ?_
   refine um 16 q7b7_10_1_16 19 hZ ?_
   refine um 17 q7b7_10_1_17 20 hZ ?_
   refine um 18 q7b7_10_1_18 21 hZ ?_
   refine um 19 q7b7_10_1_19 22 hZ ?_
   refine um 20 q7b7_10_1_20 23 hZ ?_
   refine uq 21 q7b7_10_1_21 24 hZ ?_
   refine uq 22 q7b7_10_1_22 25 hZ ?_
   refine um 23 q7b7_10_1_23 26 hZ ?_
   refine um 24 q7b7_10_1_24 27 hZ ?_
   refine um 25 q7b7_10_1_25 28 hZ ?_
   refine um 26 q7b7_10_1_26 29 hZ ?_
   refine um 27 q7b7_10_1_27 30 hZ ?_
   refine uq 28 q7b7_10_1_28 31 hZ ?_
   refine uq 29 q7b7_10_1_29 32 hZ ?_
   refine um 30 q7b7_10_1_30 33 hZ ?_
   refine um 31 q7b7_10_1_31 34 hZ ?_
   refine um 32 q7b7_10_1_32 35 hZ ?_
   refine um 33 q7b7_10_1_33 36 hZ ?_
   refine um 34 q7b7_10_1_34 37 hZ ?_
   refine um 35 q7b7_10_1_35 38 hZ ?_
   refine um 36 q7b7_10_1_36 39 hZ ?_
   refine uq 37 q7b7_10_1_37 40 hZ ?_
   refine uq 38 q7b7_10_1_38 2 hZ ?_
   refine wpAnyH_done (by kernel_rfl) ?_ _
   go_wp2_with fail
   go_ret
   exact ⟨by rw [HV.out, HD2.out]; simp, bthen hbW hZ⟩
 ·have h1' : (1 <= m.fNext) = False := eq_false h1
  have HD1 := Hm (decide_eq_false h1)
  refine wp_region_held_drew (S := fun W => Below wq.heap.size wq W) (by kernel_rfl) (Below.drew rB) (fun hZ => ?_)
  refine uq 0 q7b7_10_1_0 3 hZ ?_
  refine uq 1 q7b7_10_1_1 4 hZ ?_
  refine uq 2 q7b7_10_1_2 5 hZ ?_
  refine uq 3 q7b7_10_1_3 6 hZ ?_
  refine um 4 q7b7_10_1_4 7 hZ ?_
  refine um 5 q7b7_10_1_5 8 hZ ?_
  refine um 6 q7b7_10_1_6 9 hZ ?_
  refine uq 7 q7b7_10_1_7 10 hZ ?_
  refine uq 8 q7b7_10_1_8 11 hZ ?_
  refine um 9 q7b7_10_1_9 12 hZ ?_
  refine um 10 q7b7_10_1_10 13 hZ ?_
  refine um 11 q7b7_10_1_11 14 hZ ?_
  refine um 12 q7b7_10_1_12 15 hZ ?_
  refine um 13 q7b7_10_1_13 16 hZ ?_
  refine uq 14 q7b7_10_1_14 17 hZ ?_
  refine uq 15 q7b7_10_1_15 18 hZ ?_
  refine um 16 q7b7_10_1_16 19 hZ ?_
  refine um 17 q7b7_10_1_17 20 hZ ?_
  refine um 18 q7b7_10_1_18 21 hZ ?_
  refine um 19 q7b7_10_1_19 22 hZ ?_
  refine um 20 q7b7_10_1_20 23 hZ ?_
  refine uq 21 q7b7_10_1_21 24 hZ ?_
  refine uq 22 q7b7_10_1_22 25 hZ ?_
  refine um 23 q7b7_10_1_23 26 hZ ?_
  refine um 24 q7b7_10_1_24 27 hZ ?_
  refine um 25 q7b7_10_1_25 28 hZ ?_
  refine um 26 q7b7_10_1_26 29 hZ ?_
  refine um 27 q7b7_10_1_27 30 hZ ?_
  refine uq 28 q7b7_10_1_28 31 hZ ?_
  refine uq 29 q7b7_10_1_29 32 hZ ?_
  refine um 30 q7b7_10_1_30 33 hZ ?_
  refine um 31 q7b7_10_1_31 34 hZ ?_
  refine um 32 q7b7_10_1_32 35 hZ ?_
  refine um 33 q7b7_10_1_33 36 hZ ?_
  refine um 34 q7b7_10_1_34 37 hZ ?_
  refine um 35 q7b7_10_1_35 38 hZ ?_
  refine um 36 q7b7_10_1_36 39 hZ ?_
  refine uq 37 q7b7_10_1_37 40 hZ ?_
  refine uq 38 q7b7_10_1_38 2 hZ ?_
  refine wpAnyH_done (by kernel_rfl) ?_ _
  go_wp2_with fail
  go_ret
  exact ⟨by rw [HV.out, HD1.out]; simp, bthen hbW hZ⟩
theorem implDiskOk_b (cs : List Value) (m : MDisk) (w : World) (hr : rDisk w.heap.size w cs m) (hw : wDisk m <= 16777216) :
  Calls Tryz.prog 10 #[.agg cs.toArray] w fun e w' => e = .returned (.bool (diskOk m)) /\ Below w.heap.size w w' := by
 rw [<- implOk_eq]
 exact implDiskOk_any cs m w hr hw
theorem implDiskOk_c (cs : List Value) (m : MDisk) (w : World) (hr : rDisk w.heap.size w cs m) (hw : wDisk m <= 1048576) :
  Calls Tryz.prog 10 #[.agg cs.toArray] w fun e w' => e = .returned (.bool (diskOk m)) /\ Below w.heap.size w w' :=
 implDiskOk_b cs m w hr (by omega)
theorem lawStr : Keyed Tryz.prog 9 := string_keyed Tryz.underlying9
theorem keyStr {s : ByteArray} (h : s.size <= 9223372036854775807) : keyOf Tryz.prog 9 (.string s) = some (kS s) := WideMaps.keyOf_string_mk Tryz.underlying9 (by simpa [maxLen] using h)
set_option maxHeartbeats 1000000 in
theorem nameMap_any (a : Option Addr) (n cap : Nat) (l : List MEntry) (w : World) (hx : l.length = n) (hl : LeafL 2 rEntry w.heap.size w a cap l) (hn : n <= 1048576) :
  Calls Tryz.prog 45 #[.slice a n cap] w fun e w' => ∃ D : DataW Unit, e = .returned (.map (some w.heap.size)) /\ w'.ownsMap Tryz.prog 9 (plainElem Tryz.prog 3) w.heap.size n D /\ NMap D l n /\ Below w.heap.size w w' := by
 have HX := Hm hx
 have HRS := Hm hl.2.2
 clear hx hl
 have hmm := @run_makeMap Tryz.prog
 go_enter Tryz.func45, Tryz.ntmps45
 go_wp2_with fail
 go_loopw [9] (fun i wr => ∃ (k : Nat) (D : DataW Unit), k <= n /\ i = .int .i64 k /\ wr.ownsMap Tryz.prog 9 (plainElem Tryz.prog 3) w.heap.size k D /\ NMap D l k /\ Below w.heap.size w wr) (fun i _ => n - (intOf i).toNat)
 case atStart => exact ⟨0, .map [], Nat.zero_le _, rfl, World.ownsMap_made _ _ _ _, NMap.start _, rB.alloc rN _⟩
 case round =>
  obtain ⟨k, D, hk, rfl, hown, hU, hbk⟩ := hrel
  have HU := Hm hU
  clear hU hmm
  by_cases hlt : k < n
  ·have hkl : k < l.length := by rw [HX.out]; exact hlt
   obtain ⟨b1, o1, rfl, hB, cs, hcl, hcell, rfl, hsz, hwf, _⟩ := (HRS.out.below rEntry_good hbk) k hkl
   have k0 := hcell 0 _ rfl
   have k1 := hcell 1 _ rfl
   rw [Nat.add_zero] at k0
   clear hcell hcl
   have hkey := keyStr hsz
   have HU' := Hm (HU.out.put hkl)
   generalize l[k].fName = nm at *
   generalize l[k].fId = id at *
   have hmz := ownsMap_lt hown
   have hown0 := ownsMap_below hown (rB.alloc rN (.cells #[.string nm, .int .i64 id] 74))
   go_wp2_with (at_mapUpdate; refine wpList_mapUpdate_own _ rfl _ _ _ 77 rfl 9 3 lawStr Tryz.underlying77 _ w.heap.size k _ rfl hown0 (by unfold maxLen; omega) _ _ _ rfl rfl hkey _ [] (plainElem_int Tryz.underlying3 hwf) ?_; intro w3 hown3 hgrow3)
   have hT : Turn [w.heap.size] wr w3 := Turn.after (rB.alloc rN _) (Turn.ofGrown hgrow3 (fun k hk => by cases hk; simp))
   go_roundw
   case rel => exact ⟨k + 1, _, by omega, by go_num, hown3, HU'.out, Turn.under hbk hT (fun k hk => by simp at hk; omega)⟩
   case measure => simp [intOf]; omega
  ·have hkn : k = n := by omega
   subst hkn
   go_wp2_with fail
   go_ret
   exact ⟨D, rfl, hown, HU.out, hbk⟩
set_option maxHeartbeats 1000000 in
theorem formOk1_any (cs : List Value) (m : MDisk) (a : Option Addr) (c : Nat) (s : ByteArray) (w : World) (hr : rDisk w.heap.size w cs m) (hw : wDisk m <= 1048576) (hs : s.size <= 9223372036854775807) (ha : ∃ b, a = some ⟨b, 0, none⟩ /\ b < w.heap.size /\ w.cell? ⟨b, 0, none⟩ = some (.string s)) :
  Calls Tryz.prog 44 #[.agg cs.toArray, .slice a 1 c] w fun e w' => e = .returned (.bool (diskOk m && nameOk s)) /\ Below w.heap.size w w' := by
 have hq := hr
 obtain ⟨a0, c0, a1, c1, a2, c2, rfl, _⟩ := hq
 obtain ⟨b, rfl, hbl, hcs⟩ := ha
 have HW := Hm hw
 have HR := Hm hr
 clear hr hw
 have hCd := fun W (hb : Below w.heap.size w W) => implDiskOk_c _ m W (rDisk_good.mono (rDisk_good.below HR.out hb) hb.size) HW.out
 have hbA := (Below.refl w.heap.size w).alloc rN (.cells #[.slice a0 m.fInodes.length c0, .slice a1 m.fNames.length c1, .slice a2 m.fSafe.length c2, .int .i64 m.fNext] 27)
 go_enter Tryz.func44, Tryz.ntmps44
 go_wp2_with fail
 refine wp_loop_rounds 2 ?_
 rw [rounds_succ]
 go_wp2_with fail
 refine (implNameOk_any s _ hs).mono ?_
 rintro e w1 ⟨rfl, hx1⟩
 have hb1 := bthen hbA hx1
 have hbx := (Bx.new w [.slice a0 m.fInodes.length c0, .slice a1 m.fNames.length c1, .slice a2 m.fSafe.length c2, .int .i64 m.fNext] 27).under hx1
 have y0 := hbx.2 0 _ rfl
 have y1 := hbx.2 1 _ rfl
 have y2 := hbx.2 2 _ rfl
 have y3 := hbx.2 3 _ rfl
 by_cases hN : nameOk s = true
 ·rw [hN]
  go_wp2_with fail
  rw [rounds_succ]
  go_wp2_with fail
  refine Calls.mono (hCd _ hb1) ?_
  rintro e w2 ⟨rfl, hx2⟩
  go_wp2_with fail
  go_ret
  exact ⟨by rw [hN, Bool.and_true]; rfl, bthen hb1 hx2⟩
 ·have hN2 : nameOk s = false := Bool.eq_false_iff.2 hN
  rw [hN2]
  go_wp2_with fail
  go_ret
  exact ⟨by rw [hN2, Bool.and_false]; rfl, hb1⟩
set_option maxHeartbeats 1000000 in
theorem findFile_any (cs : List Value) (m : MDisk) (s : ByteArray) (w : World) (hr : rDisk w.heap.size w cs m) (hw : wDisk m <= 1048576) (hs : s.size <= 9223372036854775807) :
  Calls Tryz.prog 17 #[.agg cs.toArray, .string s] w fun e w' => ∃ p : Nat, e = .returned (.tuple #[.int .i64 p, .int .i64 (callP m s)]) /\ (callP m s = 0 -> ∃ h : p < m.fInodes.length, m.fInodes[p].fId = idOf m.fNames s) /\ Below w.heap.size w w' := by
 have hq := hr
 obtain ⟨a0, c0, a1, c1, a2, c2, rfl, hI, hNm, hSf, hnx, _⟩ := hq
 have hw2 : m.fInodes.length + sumW wInode m.fInodes + (m.fNames.length + sumW wEntry m.fNames) + (m.fSafe.length + sumW wEntry m.fSafe) <= 1048576 := hw
 have HW := Hm hw
 have HR := Hm hr
 have HI := Hm hI
 have HNL := Hm hNm
 clear hr hI hNm hSf hw
 have hbA := (Below.refl w.heap.size w).alloc rN (.cells #[.slice a0 m.fInodes.length c0, .slice a1 m.fNames.length c1, .slice a2 m.fSafe.length c2, .int .i64 m.fNext] 27)
 have hbB := hbA.alloc (by simp) (.cells #[.string s] 9)
 go_enter Tryz.func17, Tryz.ntmps17
 go_wp2_with fail
 refine (formOk1_any _ m _ 1 s _ (rDisk_good.mono (rDisk_good.below HR.out hbB) hbB.size) HW.out hs ⟨w.heap.size + 1, rfl, by simp, by simp⟩).mono ?_
 rintro e w1 ⟨rfl, hx1⟩
 have hb1 := bthen hbB hx1
 have hbx := ((Bx.new w [.slice a0 m.fInodes.length c0, .slice a1 m.fNames.length c1, .slice a2 m.fSafe.length c2, .int .i64 m.fNext] 27).alloc (.cells #[.string s] 9)).under hx1
 have y0 := hbx.2 0 _ rfl
 have y1 := hbx.2 1 _ rfl
 by_cases hF : (diskOk m && nameOk s) = true
 ·rw [hF]
  have hF2 := hF
  rw [Bool.and_eq_true] at hF2
  obtain ⟨q1, q2, _⟩ := diskOk_parts hF2.1
  have HSO := Hm (okI_sorted q1)
  have HNO := Hm (fun i j hi hj he => names_once (okE_names q2).2 (i := i) (j := j) hi hj he)
  have HOK := Hm hF2.1
  clear q1 q2 hF2
  go_wp2_with fail
  refine (nameMap_any a1 _ c1 m.fNames w1 rfl (LeafL.mono rEntry_good (HNL.out.below rEntry_good hb1) hb1.size) (by omega)).mono ?_
  rintro e w2 ⟨D, rfl, hown, hNM, hx2⟩
  have HNM := Hm hNM
  clear hNM
  have hb2 := bthen hb1 hx2
  have hbx2 := hbx.under hx2
  have z0 := hbx2.2 0 _ rfl
  by_cases hH : hasName m.fNames s = true
  ·have HV : Hid (callP m s = 0) := by show callP m s = 0; unfold callP; rw [hF, if_pos rfl, if_pos hH]
   obtain ⟨hk, hid, hhas⟩ := file_there HOK.out hH
   obtain ⟨_, hnm⟩ := hasName_at hH
   have hhs : Maps.has D (kS s) = true := (HNM.out.2 s).1.2 ⟨_, hk, hk, hnm⟩
   have HC : Hid (D.atKey (kS s) (.lit (.int .i64 0)) = .lit (.int .i64 (idOf m.fNames s))) := by
    obtain ⟨j, hj, _, he, ha⟩ := (HNM.out.2 s).2 hhs
    have : j = nameAt m.fNames s := HNO.out j _ hj hk (he.trans hnm.symm)
    subst this
    show D.atKey _ _ = _
    rw [ha, hid]
   have HHas := Hm hhas
   clear hF hH hk hid hhas hnm
   go_wp2_with (at_lookup; refine wpList_lookup_own_ok_int _ rfl _ _ 77 rfl 9 3 .i64 lawStr Tryz.underlying77 Tryz.underlying3 (zeroInt _) w1.heap.size m.fNames.length D rfl hown _ _ rfl (keyStr hs) ?_; intro c hat hwc)
   have hce : c = idOf m.fNames s := by
    rw [HC.out] at hat
    simp only [DataW.lit.injEq, Lit.int.injEq, true_and] at hat
    exact hat.symm
   subst hce
   refine (inodePlace_any a0 c0 m.fInodes (idOf m.fNames s) w2 (LeafL.mono rInode_good (HI.out.below rInode_good hb2) hb2.size) (by omega) HSO.out).mono ?_
   rintro e w3 ⟨p, rfl, hp, hx3⟩
   have HP := Hm (hp HHas.out)
   rw [HHas.out]
   clear hp
   go_wp2_with fail
   refine bodyPost_ret (v := .tuple #[.int .i64 p, .int .i64 0]) (by simp [results, Tryz.results17, go_sem, *]) rfl ⟨p, by rw [HV.out], fun _ => HP.out, bthen hb2 hx3⟩
  ·have HV : Hid (callP m s = 2) := by show callP m s = 2; unfold callP; rw [hF, if_pos rfl, if_neg hH]
   have hhs : Maps.has D (kS s) = false := by
    rw [Bool.eq_false_iff]
    intro h
    obtain ⟨j, hj, _, he⟩ := (HNM.out.2 s).1.1 h
    exact hH (hasName_yes hj he)
   go_wp2_with (at_lookup; refine wpList_lookup_own_ok_int _ rfl _ _ 77 rfl 9 3 .i64 lawStr Tryz.underlying77 Tryz.underlying3 (zeroInt _) w1.heap.size m.fNames.length D rfl hown _ _ rfl (keyStr hs) ?_; intro c hat hwc)
   refine bodyPost_ret (v := .tuple #[.int .i64 0, .int .i64 2]) (by simp [results, Tryz.results17, go_sem, *]) rfl ⟨0, by rw [HV.out]; rfl, (fun h => by rw [HV.out] at h; cases h), hb2⟩
 ·have hF2 : (diskOk m && nameOk s) = false := Bool.eq_false_iff.2 hF
  have HV : Hid (callP m s = 1) := by show callP m s = 1; unfold callP; rw [hF2]; rfl
  rw [hF2]
  go_wp2_with fail
  refine bodyPost_ret (v := .tuple #[.int .i64 0, .int .i64 1]) (by simp [results, Tryz.results17, go_sem, *]) rfl ⟨0, by rw [HV.out]; rfl, (fun h => by rw [HV.out] at h; cases h), hb1⟩
theorem dataOf_at {m : MDisk} {s : ByteArray} {p : Nat} (hso : m.fInodes.Pairwise fun x y => x.fId < y.fId) (h : p < m.fInodes.length) (he : m.fInodes[p].fId = idOf m.fNames s) : dataOf m s = m.fInodes[p].fData := by
 unfold dataOf
 have : placeOf m.fInodes (idOf m.fNames s) = p := by
  unfold placeOf
  rw [List.findIdx_eq h]
  refine ⟨decide_eq_true he, fun j hj => ?_⟩
  have := sorted_at hso h hj
  simp
  omega
 rw [this, List.getElem?_eq_getElem h]
 rfl
end Go.Proofs.YtegonncmopecnaaGreatDoor

namespace Go.Proofs.YtegonncmopecnaaGreatDoor
open Go.RowKit
theorem ownS.split {α : Type} {size : Nat} {e : TypeId} {O : ORep α} {R : Rep α} (hO : O.Good R size) {w : World} {g cap : Nat} {l : List α} {F : List Nat} (h : ownS size e O w (.slice (some ⟨g, 0, none⟩) l.length cap) l F) (hN : F.Nodup) {k : Nat} (hk : k < l.length) :
  ∃ cs Fk, O w cs l[k] Fk /\ Fk.Nodup /\ (∀ b, b ∈ Fk -> b ∈ F /\ b ≠ g) /\ g ∈ F /\ (∀ i u, cs[i]? = some u -> w.cell? ⟨g, k * size + i, none⟩ = some u) /\ (∀ i, w.frozen? ⟨g, i, none⟩ = false) /\
   ∀ (W : World) (i : Nat) (u : Value) (m' : α) (G Fn : List Nat), i < size -> Turn Fk w W -> O W (cs.set i u) m' G -> G.Nodup -> (∀ b, b ∈ G -> b ∈ Fk ∨ b ∈ Fn) -> (∀ b, b ∈ Fn -> b ∉ F) ->
    ∃ F', ownS size e O (W.setCell ⟨g, k * size + i, none⟩ u) (.slice (some ⟨g, 0, none⟩) l.length cap) (l.set k m') F' /\ F'.Nodup /\ ∀ b, b ∈ F' -> b ∈ F ∨ b ∈ Fn := by
 rcases h with ⟨h0, _, _⟩ | ⟨g', cap', cur, Fs, h1, h2, h3, h4, h5, h6, h7, rfl⟩
 ·cases h0
 ·simp only [Value.slice.injEq, Option.some.injEq, Addr.mk.injEq, and_true, true_and] at h1
  obtain ⟨rfl, rfl⟩ := h1
  rw [List.nodup_cons] at hN
  have hkF : k < Fs.length := by omega
  have hgk : Fs.getD k [] = Fs[k] := by rw [List.getD_eq_getElem?_getD, List.getElem?_eq_getElem hkF]; rfl
  have hfn := flatten_nodup_iff.1 hN.2
  have hnk : (Fs.getD k []).Nodup := by rw [hgk]; exact hfn.1 _ (List.getElem_mem hkF)
  refine ⟨_, _, h7 k hk, hnk, fun b hb => ⟨List.mem_cons_of_mem _ (mem_flatten_getD hkF hb), fun e => hN.1 (by rw [<- e]; exact mem_flatten_getD hkF hb)⟩, by simp, fun i u hu => ?_, fun i => frozen_of_row w g i cur e h2, ?_⟩
  ·rw [cell_of_row w g _ cur e (0, 0) h2]
   rw [List.getElem?_take] at hu
   split at hu
   ·rw [List.getElem?_drop] at hu
    simpa using hu
   ·cases hu
  intro W i u m' G Fn hi hT g1 g2 g3 hFn
  have hFn' : ∀ b, b ∈ Fn -> b ∉ Fs.flatten := fun b hb hb2 => hFn b hb (List.mem_cons_of_mem _ hb2)
  obtain ⟨n1, n2⟩ := set_nodup hkF hN.2 g2 g3 hFn'
  have hgF : g ∉ (Fs.set k G).flatten := by
   intro hg
   rcases n2 g hg with hg | hg
   ·exact hN.1 hg
   ·exact hFn g hg (by simp)
  have hgW : W.heap[g]? = some (.cells cur e (0, 0)) := (hT.block g (Array.getElem?_eq_some_iff.1 h2).1 (fun hm => hN.1 (mem_flatten_getD hkF hm))).trans h2
  have hs := heap_setCell_same W g (k * size + i) cur e u hgW
  refine ⟨g :: (Fs.set k G).flatten, .inr ⟨g, cap, cur.setIfInBounds (k * size + i) u, Fs.set k G, by simp, hs, by simpa using h3, h4, by simpa using h5, by simp [h6], ?_, rfl⟩, List.nodup_cons.2 ⟨hgF, n1⟩, ?_⟩
  ·intro j hj
   have hj' : j < l.length := by simpa using hj
   have hfr : ∀ b, b ∈ (Fs.set k G).getD j [] -> (W.setCell ⟨g, k * size + i, none⟩ u).heap[b]? = W.heap[b]? := by
    intro b hb
    have hbf : b ∈ (Fs.set k G).flatten := mem_flatten_getD (by simp; omega) hb
    exact heap_setCell_other W ⟨g, k * size + i, none⟩ b u (fun hh => hgF (by have : b = g := hh; rw [<- this]; exact hbf))
   have hlen : cur.toList.length = cap * size := by simpa using h5
   by_cases hjk : j = k
   ·subst hjk
    have e1 : ((cur.setIfInBounds (j * size + i) u).toList.drop (j * size)).take size = ((cur.toList.drop (j * size)).take size).set i u := by
     rw [Array.toList_setIfInBounds]
     apply List.ext_getElem?
     intro x
     rw [List.getElem?_take, List.getElem?_drop, List.getElem?_set, List.getElem?_set, List.getElem?_take, List.getElem?_drop]
     by_cases hx : x < size
     ·rw [if_pos hx, if_pos hx]
      by_cases hxi : i = x
      ·subst hxi
       have hmul : (j + 1) * size <= cap * size := Nat.mul_le_mul_right _ (by omega)
       rw [Nat.succ_mul] at hmul
       rw [if_pos rfl, if_pos rfl, if_pos (by omega), if_pos (by simp; omega)]
      ·rw [if_neg (by omega), if_neg hxi]
     ·rw [if_neg hx, if_neg (by omega), if_neg hx]
    have e2 : (Fs.set j G).getD j [] = G := by rw [List.getD_eq_getElem?_getD, List.getElem?_set_self (by omega)]; rfl
    rw [List.getElem_set_self, e1]
    rw [e2] at hfr ⊢
    exact hO.frame g1 hfr
   ·have e1 : ((cur.setIfInBounds (k * size + i) u).toList.drop (j * size)).take size = (cur.toList.drop (j * size)).take size := by
     rw [Array.toList_setIfInBounds]
     apply List.ext_getElem?
     intro x
     rw [List.getElem?_take, List.getElem?_drop, List.getElem?_set, List.getElem?_take, List.getElem?_drop]
     by_cases hx : x < size
     ·rw [if_pos hx, if_pos hx]
      have : k * size + i ≠ j * size + x := by
       intro hh
       rcases Nat.lt_or_gt_of_ne hjk with hlt | hlt
       ·have hmul : (j + 1) * size <= k * size := Nat.mul_le_mul_right _ hlt
        rw [Nat.succ_mul] at hmul; omega
       ·have hmul : (k + 1) * size <= j * size := Nat.mul_le_mul_right _ hlt
        rw [Nat.succ_mul] at hmul; omega
      rw [if_neg this]
     ·rw [if_neg hx, if_neg hx]
    have e2 : (Fs.set k G).getD j [] = Fs.getD j [] := by rw [List.getD_eq_getElem?_getD, List.getD_eq_getElem?_getD, List.getElem?_set_ne (Ne.symm hjk)]
    rw [List.getElem_set_ne (Ne.symm hjk), e1]
    rw [e2] at hfr ⊢
    have hjF : j < Fs.length := by omega
    have hgj : Fs.getD j [] = Fs[j] := by rw [List.getD_eq_getElem?_getD, List.getElem?_eq_getElem hjF]; rfl
    have hW : O W ((cur.toList.drop (j * size)).take size) l[j] (Fs.getD j []) := hO.frame (h7 j hj') (fun b hb => hT.block b (hO.lt (h7 j hj') b hb) (fun hm => by
     rw [hgj] at hb
     rw [hgk] at hm
     have hp := List.pairwise_iff_getElem.1 hfn.2
     rcases Nat.lt_or_gt_of_ne hjk with hlt | hlt
     ·exact hp j k hjF hkF hlt b hb hm
     ·exact hp k j hkF hjF hlt b hm hb))
    exact hO.frame hW hfr
  ·intro b hb
   rcases List.mem_cons.1 hb with rfl | hb
   ·exact .inl (by simp)
   ·rcases n2 b hb with h | h
    ·exact .inl (List.mem_cons_of_mem _ h)
    ·exact .inr h
theorem oDisk_put {W : World} {g c0 : Nat} {a1 a2 : Option Addr} {c1 c2 : Nat} {m : MDisk} {F0 F1 F2 : List Nat} {p : Nat} {f : MInode -> MInode} (hp : p < m.fInodes.length) (h0 : ownS 3 50 oInode W (.slice (some ⟨g, 0, none⟩) m.fInodes.length c0) (m.fInodes.set p (f m.fInodes[p])) F0) (h1 : ownS 2 74 oEntry W (.slice a1 m.fNames.length c1) m.fNames F1) (h2 : ownS 2 74 oEntry W (.slice a2 m.fSafe.length c2) m.fSafe F2)
  (h3 : (Lit.int .i64 m.fNext).wf = true) : oDisk W [.slice (some ⟨g, 0, none⟩) m.fInodes.length c0, .slice a1 m.fNames.length c1, .slice a2 m.fSafe.length c2, .int .i64 m.fNext] { m with fInodes := updI m.fInodes p f } (F0 ++ F1 ++ F2 ++ []) :=
 ⟨_, F0, _, F1, _, F2, rfl, by rw [updI_at hp]; exact h0, h1, h2, h3, rfl⟩
end Go.Proofs.YtegonncmopecnaaGreatDoor
