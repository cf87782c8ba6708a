/-
  Part 13 of the texts that the proof leans on.
-/
import Derived.Test.YtmbobjhplkpfoaaFfl6
import Derived.Test.YtmbobjhplkpfoaaFfl11
import Derived.Test.YtmbobjhplkpfoaaFfl0
import Derived.Test.YtmbobjhplkpfoaaFfl2
import Derived.Shelf.SlSortCmp.WholeK
import Derived.Shelf.SlGeneric
import Derived.Ground.SlsfProg
import Derived.Test.YtmbobjhplkpfoaaProg
import Derived.Test.YtmbobjhplkpfoaaFfl7
import Derived.Test.YtmbobjhplkpfoaaFfl1
import Derived.Maps.RangeWalk
import Derived.Sort.KeysCollected
set_option linter.unusedVariables false
set_option linter.unusedSimpArgs false
set_option maxRecDepth 10000

namespace Go.Proofs.Ytmbobjhplkpfoaa
open Go.RowKit Go.Maps

def endsD (m n : MDisk) : MDisk := if diskOk (keepD n) then keepD n else m
def endsC (n : MDisk) : Int := if diskOk (keepD n) then 0 else 4

theorem rKeep {F0 F1 F2 : List Nat} {B base : Nat} {W : World} {ak b1 b2 : Option Addr} {ck d1 d2 : Nat} {n : MDisk} (h : RowR 3 56 (repO F0) B W base (.slice ak (keepI n).length ck) (keepI n)) (hN : ownS 2 61 oEntry W (.slice b1 n.fNames.length d1) n.fNames F1) (hS : ownS 2 61 oEntry W (.slice b2 n.fSafe.length d2) n.fSafe F2) (hx : (Lit.int .i64 n.fNext).wf = true) :
    ∃ F', oDisk W [.slice ak (keepI n).length ck, .slice b1 n.fNames.length d1, .slice b2 n.fSafe.length d2, .int .i64 n.fNext] (keepD n) F' ∧ ∀ b, b ∈ F' → b ∈ F0 ++ F1 ++ F2 ∨ base ≤ b := by
  obtain ⟨F', h1, h2⟩ := h.own
  refine ⟨F' ++ F1 ++ F2 ++ [], ⟨_, F', _, F1, _, F2, rfl, h1, hN, hS, hx, rfl⟩, fun b hb => ?_⟩
  simp at hb
  rcases hb with hb | hb | hb
  · rcases h2 b hb with h | h
    · exact .inl (by simp [h])
    · exact .inr h
  · exact .inl (by simp [hb])
  · exact .inl (by simp [hb])

set_option maxHeartbeats 4000000 in
theorem l2Ends_any (cs : List Value) (b0 b1 b2 : Option Addr) (d0 d1 d2 : Nat) (m n : MDisk) (F0 F1 F2 : List Nat) (w : World) (hr : rDisk w.heap.size w cs m) (hw : wDisk m ≤ 1048576) (hnI : ownS 3 56 oInode w (.slice b0 n.fInodes.length d0) n.fInodes F0) (hnN : ownS 2 61 oEntry w (.slice b1 n.fNames.length d1) n.fNames F1) (hnS : ownS 2 61 oEntry w (.slice b2 n.fSafe.length d2) n.fSafe F2) (hnx' : (Lit.int .i64 n.fNext).wf = true) (hwn : wDisk n ≤ 16777216) (hwl : n.fInodes.length ≤ 1048576 ∧ n.fNames.length ≤ 1048576 ∧ n.fSafe.length ≤ 1048576) :
    Calls Try.prog 35 #[.agg cs.toArray, .agg #[.slice b0 n.fInodes.length d0, .slice b1 n.fNames.length d1, .slice b2 n.fSafe.length d2, .int .i64 n.fNext]] w fun e w' => ∃ (cs' : List Value) (F : List Nat), e = .returned (.tuple #[.agg cs'.toArray, .int .i64 (endsC n)]) ∧ oDisk w' cs' (endsD m n) F ∧ (∀ b, b ∈ F → b ∈ F0 ++ F1 ++ F2 ∨ w.heap.size ≤ b) ∧ Below w.heap.size w w' := by
  have hq := hr
  obtain ⟨a0, c0, a1, c1, a2, c2, rfl, hI, hNm, hSf, hnx, _⟩ := hq
  have hw2 : m.fInodes.length + sumW wInode m.fInodes + (m.fNames.length + sumW wEntry m.fNames) + (m.fSafe.length + sumW wEntry m.fSafe) ≤ 1048576 := hw
  have HW := Hid.mk hw
  have HR := Hid.mk hr
  clear hr hI hNm hSf hw
  have HNI := Hid.mk hnI
  have HNN := Hid.mk hnN
  have HNS := Hid.mk hnS
  clear hnI hnN hnS
  have HWK : Hid (wDisk (keepD n) ≤ 16777216) := Nat.le_trans (keepD_weight n) hwn
  go_enter Try.func35, Try.ntmps35
  go_wp2_with fail
  obtain ⟨wq, hwq⟩ : ∃ wq, wq = (((w.alloc (.cells #[.slice a0 m.fInodes.length c0, .slice a1 m.fNames.length c1, .slice a2 m.fSafe.length c2, .int .i64 m.fNext] 27)).alloc (.cells #[.slice b0 n.fInodes.length d0, .slice b1 n.fNames.length d1, .slice b2 n.fSafe.length d2, .int .i64 n.fNext] 27)).alloc (.cells #[.slice none 0 0, .slice none 0 0, .slice none 0 0, .int .i64 0] 27)) := ⟨_, rfl⟩
  have hbW : Below w.heap.size w wq := by rw [hwq]; exact Below.alloc (Below.alloc (Below.alloc (Below.refl _ _) (by exact Nat.le_refl _) _) (by simp; try omega) _) (by simp; try omega) _
  have hbd : Bw wq (w.heap.size) 27 [.slice a0 m.fInodes.length c0, .slice a1 m.fNames.length c1, .slice a2 m.fSafe.length c2, .int .i64 m.fNext] := by rw [hwq]; exact Bw.alloc (Bw.alloc (Bw.new' _ _ _ (by simp)) _) _
  have hbn : Bw wq (w.heap.size + 1) 27 [.slice b0 n.fInodes.length d0, .slice b1 n.fNames.length d1, .slice b2 n.fSafe.length d2, .int .i64 n.fNext] := by rw [hwq]; exact Bw.alloc (Bw.new' _ _ _ (by simp)) _
  have hbr : Bw wq (w.heap.size + 2) 27 [.slice none 0 0, .slice none 0 0, .slice none 0 0, .int .i64 0] := by rw [hwq]; exact Bw.new' _ _ _ (by simp)
  rw [← hwq]
  clear hwq
  have hfN : ∀ W, Below w.heap.size w W → ownS 2 61 oEntry W (.slice b1 n.fNames.length d1) n.fNames F1 := fun W hb => ownS.frame oEntry_good HNN.out (fun b hbF => hb.block b (ownS.lt oEntry_good HNN.out b hbF))
  have hfS : ∀ W, Below w.heap.size w W → ownS 2 61 oEntry W (.slice b2 n.fSafe.length d2) n.fSafe F2 := fun W hb => ownS.frame oEntry_good HNS.out (fun b hbF => hb.block b (ownS.lt oEntry_good HNS.out b hbF))
  have HFN := Hid.mk hfN
  have HFS := Hid.mk hfS
  clear hfN hfS
  refine (l2Keep_any (repO F0) (repO_good F0) (repO_read F0) b0 b1 b2 d0 d1 d2 n wq w.heap.size hbW.size (HNI.out.leafO.below (repO_good F0) hbW) (LeafL.mono rEntry_good ((ownS.leaf oEntry_good HNN.out).below rEntry_good hbW) hbW.size) (LeafL.mono rEntry_good ((ownS.leaf oEntry_good HNS.out).below rEntry_good hbW) hbW.size) hwl).mono ?_
  rintro e w1 ⟨ak, ck, rfl, hrow, hx1⟩
  have HROW := Hid.mk hrow
  have hb1 := bthen hbW hx1
  have hbd1 := hbd.under hx1
  have hbn1 := hbn.under hx1
  have hbr1 := hbr.under hx1
  have hl1 := hbn1.lt
  have hz1 := hx1.size
  have hzq := hbW.size
  have hlr := hbr1.lt
  have hbnq := hbn.lt
  have hbrq := hbr.lt
  clear hrow hbd hbn hbr
  have y0 := hbn1.cell 0 _ rfl
  have y1 := hbn1.cell 1 _ rfl
  have y2 := hbn1.cell 2 _ rfl
  have y3 := hbn1.cell 3 _ rfl
  have f0 := hbn1.free 0
  have f1 := hbn1.free 1
  have f2 := hbn1.free 2
  have f3 := hbn1.free 3
  go_wp2_with fail
  obtain ⟨ws, hws⟩ : ∃ ws, ws = ((((w1.setCell ⟨w.heap.size + 1, 0, none⟩ (.slice ak (keepI n).length ck)).setCell ⟨w.heap.size + 1, 1, none⟩ (.slice b1 n.fNames.length d1)).setCell ⟨w.heap.size + 1, 2, none⟩ (.slice b2 n.fSafe.length d2)).setCell ⟨w.heap.size + 1, 3, none⟩ (.int .i64 n.fNext)) := ⟨_, rfl⟩
  have hTs : Turn [w.heap.size + 1] w1 ws := by rw [hws]; exact turn4 _ _ _ _ _ _
  have hbns : Bw ws (w.heap.size + 1) 27 [.slice ak (keepI n).length ck, .slice b1 n.fNames.length d1, .slice b2 n.fSafe.length d2, .int .i64 n.fNext] := by rw [hws]; exact (((hbn1.put 0 _).put 1 _).put 2 _).put 3 _
  rw [← hws]
  clear hws y0 y1 y2 y3 f0 f1 f2 f3
  have hbds := hbd1.turn hTs (by simp)
  have hbrs := hbr1.turn hTs (by simp)
  have hBs : Below w.heap.size w ws := hb1.trans (hTs.below (fun k hk => by simp at hk; omega) hb1.size)
  have hrs : RowR 3 56 (repO F0) w.heap.size ws wq.heap.size (.slice ak (keepI n).length ck) (keepI n) := RowR.turn (repO_good F0) HROW.out hTs (fun k hk => by simp at hk; omega) hb1.size (Nat.le_refl _)
  have HRS := Hid.mk hrs
  have HRK : Hid (rDisk ws.heap.size ws [.slice ak (keepI n).length ck, .slice b1 n.fNames.length d1, .slice b2 n.fSafe.length d2, .int .i64 n.fNext] (keepD n)) := by
    obtain ⟨F', h1, _⟩ := rKeep hrs (HFN.out _ hBs) (HFS.out _ hBs) hnx'
    exact oDisk_good.read h1
  have HBS := Hid.mk hBs
  clear hrs HROW hTs
  have z0 := hbns.cell 0 _ rfl
  have z1 := hbns.cell 1 _ rfl
  have z2 := hbns.cell 2 _ rfl
  have z3 := hbns.cell 3 _ rfl
  refine (specDiskOk_b [.slice ak (keepI n).length ck, .slice b1 n.fNames.length d1, .slice b2 n.fSafe.length d2, .int .i64 n.fNext] (keepD n) ws HRK.out HWK.out).mono ?_
  rintro e w2 ⟨rfl, hx2⟩
  have hb2 := bthen HBS.out hx2
  have hbd2 := hbds.under hx2
  have hbn2 := hbns.under hx2
  have hbr2 := hbrs.under hx2
  have hl2 := hbn2.lt
  have hl3 := hbr2.lt
  have hl4 := hbd2.lt
  clear z0 z1 z2 z3
  by_cases hK : diskOk (keepD n) = true
  · have HV : Hid (endsD m n = keepD n ∧ endsC n = 0) := by refine ⟨?_, ?_⟩ <;> simp [endsD, endsC, hK]
    rw [hK]
    clear hK
    have y0 := hbn2.cell 0 _ rfl
    have y1 := hbn2.cell 1 _ rfl
    have y2 := hbn2.cell 2 _ rfl
    have y3 := hbn2.cell 3 _ rfl
    have ze0 := hbr2.cell 0 _ rfl
    have ze1 := hbr2.cell 1 _ rfl
    have ze2 := hbr2.cell 2 _ rfl
    have ze3 := hbr2.cell 3 _ rfl
    have zf0 := hbr2.free 0
    have zf1 := hbr2.free 1
    have zf2 := hbr2.free 2
    have zf3 := hbr2.free 3
    have hkey : ∀ W', Turn [w.heap.size + 2] w2 W' → (∃ F', oDisk W' [.slice ak (keepI n).length ck, .slice b1 n.fNames.length d1, .slice b2 n.fSafe.length d2, .int .i64 n.fNext] (keepD n) F' ∧ ∀ b, b ∈ F' → b ∈ F0 ++ F1 ++ F2 ∨ w.heap.size ≤ b) ∧ Below w.heap.size w W' := fun W' hT => by
      have hBf : Below w.heap.size w W' := hb2.trans (hT.below (fun k hk => by simp at hk; omega) hb2.size)
      obtain ⟨F', h1, h2⟩ := rKeep (RowR.turn (repO_good F0) (F := [w.heap.size + 2]) (RowR.keep (repO_good F0) HRS.out hx2 HBS.out.size) hT (fun k hk => by simp at hk; omega) hb2.size (Nat.le_refl _)) (HFN.out _ hBf) (HFS.out _ hBf) hnx'
      exact ⟨⟨F', h1, fun b hb => (h2 b hb).imp id (fun h => by omega)⟩, hBf⟩
    have HKEY := Hid.mk hkey
    clear hkey
    go_wp2_with fail
    obtain ⟨⟨F', h1, h2⟩, h3⟩ := HKEY.out _ (show Turn [w.heap.size + 2] w2 ((((w2.setCell ⟨w.heap.size + 2, 0, none⟩ (.slice ak (keepI n).length ck)).setCell ⟨w.heap.size + 2, 1, none⟩ (.slice b1 n.fNames.length d1)).setCell ⟨w.heap.size + 2, 2, none⟩ (.slice b2 n.fSafe.length d2)).setCell ⟨w.heap.size + 2, 3, none⟩ (.int .i64 n.fNext)) from turn4 _ _ _ _ _ _)
    exact bodyPost_ret (v := .tuple #[.agg #[.slice ak (keepI n).length ck, .slice b1 n.fNames.length d1, .slice b2 n.fSafe.length d2, .int .i64 n.fNext], .int .i64 0]) (by simp [results, Try.results35, go_sem, *]) rfl ⟨[.slice ak (keepI n).length ck, .slice b1 n.fNames.length d1, .slice b2 n.fSafe.length d2, .int .i64 n.fNext], F', by rw [HV.out.2], by rw [HV.out.1]; exact h1, h2, h3⟩
  · have hK2 : diskOk (keepD n) = false := Bool.eq_false_iff.2 hK
    have HV : Hid (endsD m n = m ∧ endsC n = 4) := by refine ⟨?_, ?_⟩ <;> simp [endsD, endsC, hK2]
    rw [hK2]
    clear hK hK2
    have y0 := hbd2.cell 0 _ rfl
    have y1 := hbd2.cell 1 _ rfl
    have y2 := hbd2.cell 2 _ rfl
    have y3 := hbd2.cell 3 _ rfl
    go_wp2_with fail
    refine (l2Copy_any _ m w2 (rDisk_good.mono (rDisk_good.below HR.out hb2) hb2.size) HW.out).mono ?_
    rintro e w3 ⟨cs3, F3, rfl, ho3, hN3, hge3, hx3⟩
    have hb3 := bthen hb2 hx3
    have hbr3 := hbr2.under hx3
    have hl5 := hbr3.lt
    obtain ⟨q0, p0, q1, p1, q2, p2, G0, G1, G2, rfl, _, _, _, _, rfl⟩ := oDisk_cells ho3
    have hkey : ∀ W', Turn [w.heap.size + 2] w3 W' → oDisk W' [.slice q0 m.fInodes.length p0, .slice q1 m.fNames.length p1, .slice q2 m.fSafe.length p2, .int .i64 m.fNext] m (G0 ++ G1 ++ G2 ++ []) ∧ Below w.heap.size w W' := fun W' hT =>
      ⟨oDisk_good.frame ho3 (fun b hb => hT.block b (oDisk_good.lt ho3 b hb) (fun h => by simp at h; have := hge3 b hb; omega)), hb3.trans (hT.below (fun k hk => by simp at hk; omega) hb3.size)⟩
    have HKEY := Hid.mk hkey
    have HGE := Hid.mk hge3
    clear hkey ho3 hN3 hge3 y0 y1 y2 y3
    have ze0 := hbr3.cell 0 _ rfl
    have ze1 := hbr3.cell 1 _ rfl
    have ze2 := hbr3.cell 2 _ rfl
    have ze3 := hbr3.cell 3 _ rfl
    have zf0 := hbr3.free 0
    have zf1 := hbr3.free 1
    have zf2 := hbr3.free 2
    have zf3 := hbr3.free 3
    go_wp2_with fail
    obtain ⟨h1, h3⟩ := HKEY.out _ (show Turn [w.heap.size + 2] w3 ((((w3.setCell ⟨w.heap.size + 2, 0, none⟩ (.slice q0 m.fInodes.length p0)).setCell ⟨w.heap.size + 2, 1, none⟩ (.slice q1 m.fNames.length p1)).setCell ⟨w.heap.size + 2, 2, none⟩ (.slice q2 m.fSafe.length p2)).setCell ⟨w.heap.size + 2, 3, none⟩ (.int .i64 m.fNext)) from turn4 _ _ _ _ _ _)
    exact bodyPost_ret (v := .tuple #[.agg #[.slice q0 m.fInodes.length p0, .slice q1 m.fNames.length p1, .slice q2 m.fSafe.length p2, .int .i64 m.fNext], .int .i64 4]) (by simp [results, Try.results35, go_sem, *]) rfl ⟨[.slice q0 m.fInodes.length p0, .slice q1 m.fNames.length p1, .slice q2 m.fSafe.length p2, .int .i64 m.fNext], _, by rw [HV.out.2], by rw [HV.out.1]; exact h1, fun b hb => .inr (by have := HGE.out b hb; have := hb2.size; omega), h3⟩

end Go.Proofs.Ytmbobjhplkpfoaa

namespace Go.Proofs.Ytmbobjhplkpfoaa
open Go.RowKit

set_option maxHeartbeats 400000 in
theorem l2At_any (a : Option Addr) (n cap : Nat) (l : List MEntry) (s : ByteArray) (w : World) (B : Nat) (hx : l.length = n) (hlen : n ≤ 1099511627776) (hr : RdS 2 rEntry B w a l) :
    Calls Try.prog 44 #[.slice a n cap, .string s] w fun e w' => e = .returned (.int .i64 (nameZ l s)) ∧ w' = w := by
  have HX := Hid.mk hx
  clear hx
  go_enter Try.func44, Try.ntmps44
  go_wp2
  go_loop [5] (fun i => ∃ k : Nat, k ≤ n ∧ i = .int .i64 k ∧ ∀ j, (hj : j < l.length) → j < k → l[j].fName ≠ s) (fun i => n - (intOf i).toNat)
  case atStart => exact ⟨0, Nat.zero_le _, rfl, fun j _ hj => by omega⟩
  case round =>
    obtain ⟨k, hk, rfl, hno⟩ := hrel
    have HNo := Hid.mk hno
    clear hno
    by_cases hlt : k < n
    · have hkl : k < l.length := by rw [HX.out]; exact hlt
      obtain ⟨b1, o1, rfl, _, cs, hcl, hcell, rfl, _⟩ := hr k hkl
      have k1 := hcell 0 _ rfl
      rw [Nat.add_zero] at k1
      by_cases he : l[k].fName = s
      · have HV := Hid.mk (nameZ_at hkl he HNo.out)
        have heb := str_same he
        generalize l[k].fName = y at k1 heb
        clear hr hcell hcl he HNo
        go_wp2
        go_ret
        exact ⟨by rw [HV.out]; rfl, rfl⟩
      · have heb := str_ne he
        have HNo' : Hid (∀ j, (hj : j < l.length) → j < k + 1 → l[j].fName ≠ s) := fun j hj hjk => by
          by_cases hjk' : j = k
          · subst hjk'; exact he
          · exact HNo.out j hj (by omega)
        generalize l[k].fName = y at k1 heb
        clear hr hcell hcl he HNo
        go_wp2
        go_round
        case rel => exact ⟨k + 1, by omega, by go_num, HNo'.out⟩
        case measure => simp [intOf]; omega
    · have HV := Hid.mk (nameZ_no (l := l) (s := s) (fun j hj => HNo.out j hj (by have := HX.out; omega)))
      clear HNo
      go_wp2
      go_ret
      exact ⟨by rw [HV.out]; rfl, rfl⟩

end Go.Proofs.Ytmbobjhplkpfoaa

namespace Go.Proofs.Ytmbobjhplkpfoaa
open Go.Proofs Go.Shelf

def sortEnt_ren : Go.Shelf.Ren := ⟨fun | 6 => 67 | 15 => 76 | 14 => 75 | 28 => 87 | 29 => 88 | 20 => 79 | 21 => 80 | 22 => 81 | 23 => 82 | 24 => 83 | 25 => 84 | 26 => 85 | 27 => 86 | 46 => 89 | 47 => 90 | 48 => 91 | 49 => 92 | 50 => 93 | 57 => 94 | n => n, fun | 22 => 25 | 24 => 61 | 25 => 92 | 3 => 3 | 39 => 98 | 0 => 0 | 53 => 110 | 55 => 112 | 4 => 4 | 46 => 104 | 45 => 103 | 50 => 53 | 5 => 5 | 9 => 9 | 66 => 113 | 70 => 117 | 76 => 119 | 77 => 62 | n => n, fun | n => n⟩
theorem sortEnt : Go.Proofs.SlLaysF0.n6 Try.prog sortEnt_ren := {
  mixed := by kernel_rfl
  f6 := ⟨Try.f67.name, by decide, Try.func67.trans (congrArg some (by kernel_rfl))⟩
  f14 := ⟨Try.f75.name, by decide, Try.func75.trans (congrArg some (by kernel_rfl))⟩
  f15 := Try.func76.trans (congrArg some (by kernel_rfl))
  f20 := ⟨Try.f79.name, by decide, Try.func79.trans (congrArg some (by kernel_rfl))⟩
  f21 := ⟨Try.f80.name, by decide, Try.func80.trans (congrArg some (by kernel_rfl))⟩
  f22 := ⟨Try.f81.name, by decide, Try.func81.trans (congrArg some (by kernel_rfl))⟩
  f23 := ⟨Try.f82.name, by decide, Try.func82.trans (congrArg some (by kernel_rfl))⟩
  f24 := ⟨Try.f83.name, by decide, Try.func83.trans (congrArg some (by kernel_rfl))⟩
  f25 := ⟨Try.f84.name, by decide, Try.func84.trans (congrArg some (by kernel_rfl))⟩
  f26 := ⟨Try.f85.name, by decide, Try.func85.trans (congrArg some (by kernel_rfl))⟩
  f27 := ⟨Try.f86.name, by decide, Try.func86.trans (congrArg some (by kernel_rfl))⟩
  f28 := Try.func87.trans (congrArg some (by kernel_rfl))
  f29 := Try.func88.trans (congrArg some (by kernel_rfl))
  f46 := ⟨Try.f89.name, by decide, Try.func89.trans (congrArg some (by kernel_rfl))⟩
  f47 := Try.func90.trans (congrArg some (by kernel_rfl))
  f48 := Try.func91.trans (congrArg some (by kernel_rfl))
  f49 := ⟨Try.f92.name, by decide, Try.func92.trans (congrArg some (by kernel_rfl))⟩
  f50 := ⟨Try.f93.name, by decide, Try.func93.trans (congrArg some (by kernel_rfl))⟩
  f57 := ⟨Try.f94.name, by decide, Try.func94.trans (congrArg some (by kernel_rfl))⟩
  t0 := Try.underlying0
  a0 := Try.isAgg0
  z0 := Try.sizeOf0
  v0 := Try.zeroValue0
  t3 := Try.underlying3
  a3 := Try.isAgg3
  z3 := Try.sizeOf3
  v3 := Try.zeroValue3
  t4 := Try.underlying4
  a4 := Try.isAgg4
  z4 := Try.sizeOf4
  v4 := Try.zeroValue4
  t5 := Try.underlying5
  a5 := Try.isAgg5
  z5 := Try.sizeOf5
  v5 := Try.zeroValue5
  t9 := Try.underlying9
  a9 := Try.isAgg9
  z9 := Try.sizeOf9
  v9 := Try.zeroValue9
  t22 := Try.underlying25
  a22 := Try.isAgg25
  z22 := Try.sizeOf25
  v22 := Try.zeroValue25
  t25 := Try.underlying92
  a25 := Try.isAgg92
  z25 := Try.sizeOf92
  v25 := Try.zeroValue92
  t39 := Try.underlying98
  a39 := Try.isAgg98
  z39 := Try.sizeOf98
  v39 := Try.zeroValue98
  t45 := Try.underlying103
  a45 := Try.isAgg103
  z45 := Try.sizeOf103
  v45 := Try.zeroValue103
  t46 := Try.underlying104
  a46 := Try.isAgg104
  z46 := Try.sizeOf104
  v46 := Try.zeroValue104
  t50 := Try.underlying53
  a50 := Try.isAgg53
  z50 := Try.sizeOf53
  v50 := Try.zeroValue53
  t53 := Try.underlying110
  a53 := Try.isAgg110
  z53 := Try.sizeOf110
  v53 := Try.zeroValue110
  t55 := Try.underlying112
  a55 := Try.isAgg112
  z55 := Try.sizeOf112
  v55 := Try.zeroValue112
  t66 := Try.underlying113
  a66 := Try.isAgg113
  z66 := Try.sizeOf113
  v66 := Try.zeroValue113
  t70 := Try.underlying117
  a70 := Try.isAgg117
  z70 := Try.sizeOf117
  v70 := Try.zeroValue117
  t76 := Try.underlying119
  a76 := Try.isAgg119
  z76 := Try.sizeOf119
  v76 := Try.zeroValue119
  t77 := Try.underlying62
  a77 := Try.isAgg62
  z77 := Try.sizeOf62
  v77 := Try.zeroValue62 }

end Go.Proofs.Ytmbobjhplkpfoaa

namespace Go.Proofs.Ytmbobjhplkpfoaa
open Go.RowKit Go.Maps

theorem lawStr : Keyed Try.prog 9 := string_keyed Try.underlying9
theorem keyStr {s : ByteArray} (h : s.size ≤ 9223372036854775807) : keyOf Try.prog 9 (.string s) = some (kS s) := WideMaps.keyOf_string_mk Try.underlying9 (by simpa [maxLen] using h)
set_option maxHeartbeats 1000000 in
theorem nameMap_any (a : Option Addr) (n cap : Nat) (l : List MEntry) (w : World) (hx : l.length = n) (hl : LeafL 2 rEntry w.heap.size w a cap l) (hn : n ≤ 1048576) :
    Calls Try.prog 29 #[.slice a n cap] w fun e w' => ∃ D : DataW Unit, e = .returned (.map (some w.heap.size)) ∧ w'.ownsMap Try.prog 9 (plainElem Try.prog 3) w.heap.size n D ∧ NMap D l n ∧ Below w.heap.size w w' := by
  have HX := Hid.mk hx
  have HRS := Hid.mk hl.2.2
  clear hx hl
  have hmm := @run_makeMap Try.prog
  go_enter Try.func29, Try.ntmps29
  go_wp2_with fail
  go_loopw [9] (fun i wr => ∃ (k : Nat) (D : DataW Unit), k ≤ n ∧ i = .int .i64 k ∧ wr.ownsMap Try.prog 9 (plainElem Try.prog 3) w.heap.size k D ∧ NMap D l k ∧ Below w.heap.size w wr) (fun i _ => n - (intOf i).toNat)
  case atStart => exact ⟨0, .map [], Nat.zero_le _, rfl, World.ownsMap_made _ _ _ _, NMap.start _, (Below.refl _ _).alloc (Nat.le_refl _) _⟩
  case round =>
    obtain ⟨k, D, hk, rfl, hown, hU, hbk⟩ := hrel
    have HU := Hid.mk hU
    clear hU hmm
    by_cases hlt : k < n
    · have hkl : k < l.length := by rw [HX.out]; exact hlt
      obtain ⟨b1, o1, rfl, hB, cs, hcl, hcell, rfl, hsz, hwf, _⟩ := (HRS.out.below rEntry_good hbk) k hkl
      have k0 := hcell 0 _ rfl
      have k1 := hcell 1 _ rfl
      rw [Nat.add_zero] at k0
      clear hcell hcl
      have hkey := keyStr hsz
      have HU' := Hid.mk (HU.out.put hkl)
      generalize l[k].fName = nm at *
      generalize l[k].fId = id at *
      have hmz := ownsMap_lt hown
      have hown0 := ownsMap_below hown ((Below.refl _ _).alloc (Nat.le_refl _) (.cells #[.string nm, .int .i64 id] 61))
      go_wp2_with (at_mapUpdate; refine wpList_mapUpdate_own _ rfl _ _ _ 51 rfl 9 3 lawStr Try.underlying51 _ w.heap.size k _ rfl hown0 (by unfold maxLen; omega) _ _ _ rfl rfl hkey _ [] (plainElem_int Try.underlying3 hwf) ?_; intro w3 hown3 hgrow3)
      have hT : Turn [w.heap.size] wr w3 := Turn.after ((Below.refl _ _).alloc (Nat.le_refl _) _) (Turn.ofGrown hgrow3 (fun k hk => by cases hk; simp))
      go_roundw
      case rel => exact ⟨k + 1, _, by omega, by go_num, hown3, HU'.out, Turn.under hbk hT (fun k hk => by simp at hk; omega)⟩
      case measure => simp [intOf]; omega
    · have hkn : k = n := by omega
      subst hkn
      go_wp2_with fail
      go_ret
      exact ⟨D, rfl, hown, HU.out, hbk⟩

set_option maxHeartbeats 1000000 in
theorem formOk1_any (cs : List Value) (m : MDisk) (a : Option Addr) (c : Nat) (s : ByteArray) (w : World) (hr : rDisk w.heap.size w cs m) (hw : wDisk m ≤ 1048576) (hs : s.size ≤ 9223372036854775807) (ha : ∃ b, a = some ⟨b, 0, none⟩ ∧ b < w.heap.size ∧ w.cell? ⟨b, 0, none⟩ = some (.string s)) :
    Calls Try.prog 27 #[.agg cs.toArray, .slice a 1 c] w fun e w' => e = .returned (.bool (diskOk m && nameOk s)) ∧ Below w.heap.size w w' := by
  have hq := hr
  obtain ⟨a0, c0, a1, c1, a2, c2, rfl, _⟩ := hq
  obtain ⟨b, rfl, hbl, hcs⟩ := ha
  have HW := Hid.mk hw
  have HR := Hid.mk hr
  clear hr hw
  have hCd := fun W (hb : Below w.heap.size w W) => implDiskOk_c _ m W (rDisk_good.mono (rDisk_good.below HR.out hb) hb.size) HW.out
  have hbA := (Below.refl w.heap.size w).alloc (Nat.le_refl _) (.cells #[.slice a0 m.fInodes.length c0, .slice a1 m.fNames.length c1, .slice a2 m.fSafe.length c2, .int .i64 m.fNext] 27)
  go_enter Try.func27, Try.ntmps27
  go_wp2_with fail
  refine wp_loop_rounds 2 ?_
  rw [rounds_succ]
  go_wp2_with fail
  refine (implNameOk_any s _ hs).mono ?_
  rintro e w1 ⟨rfl, hx1⟩
  have hb1 := bthen hbA hx1
  have hbx := (Bx.new w [.slice a0 m.fInodes.length c0, .slice a1 m.fNames.length c1, .slice a2 m.fSafe.length c2, .int .i64 m.fNext] 27).under hx1
  have y0 := hbx.2 0 _ rfl
  have y1 := hbx.2 1 _ rfl
  have y2 := hbx.2 2 _ rfl
  have y3 := hbx.2 3 _ rfl
  by_cases hN : nameOk s = true
  · rw [hN]
    go_wp2_with fail
    rw [rounds_succ]
    go_wp2_with fail
    refine Calls.mono (hCd _ hb1) ?_
    rintro e w2 ⟨rfl, hx2⟩
    go_wp2_with fail
    go_ret
    exact ⟨by rw [hN, Bool.and_true]; rfl, bthen hb1 hx2⟩
  · have hN2 : nameOk s = false := Bool.eq_false_iff.2 hN
    rw [hN2]
    go_wp2_with fail
    go_ret
    exact ⟨by rw [hN2, Bool.and_false]; rfl, hb1⟩

set_option maxHeartbeats 1000000 in
theorem findFile_any (cs : List Value) (m : MDisk) (s : ByteArray) (w : World) (hr : rDisk w.heap.size w cs m) (hw : wDisk m ≤ 1048576) (hs : s.size ≤ 9223372036854775807) :
    Calls Try.prog 36 #[.agg cs.toArray, .string s] w fun e w' => ∃ p : Nat, e = .returned (.tuple #[.int .i64 p, .int .i64 (callP m s)]) ∧ (callP m s = 0 → ∃ h : p < m.fInodes.length, m.fInodes[p].fId = idOf m.fNames s) ∧ Below w.heap.size w w' := by
  have hq := hr
  obtain ⟨a0, c0, a1, c1, a2, c2, rfl, hI, hNm, hSf, hnx, _⟩ := hq
  have hw2 : m.fInodes.length + sumW wInode m.fInodes + (m.fNames.length + sumW wEntry m.fNames) + (m.fSafe.length + sumW wEntry m.fSafe) ≤ 1048576 := hw
  have HW := Hid.mk hw
  have HR := Hid.mk hr
  have HI := Hid.mk hI
  have HNL := Hid.mk hNm
  clear hr hI hNm hSf hw
  have hbA := (Below.refl w.heap.size w).alloc (Nat.le_refl _) (.cells #[.slice a0 m.fInodes.length c0, .slice a1 m.fNames.length c1, .slice a2 m.fSafe.length c2, .int .i64 m.fNext] 27)
  have hbB := hbA.alloc (by simp) (.cells #[.string s] 9)
  go_enter Try.func36, Try.ntmps36
  go_wp2_with fail
  refine (formOk1_any _ m _ 1 s _ (rDisk_good.mono (rDisk_good.below HR.out hbB) hbB.size) HW.out hs ⟨w.heap.size + 1, rfl, by simp, by simp⟩).mono ?_
  rintro e w1 ⟨rfl, hx1⟩
  have hb1 := bthen hbB hx1
  have hbx := ((Bx.new w [.slice a0 m.fInodes.length c0, .slice a1 m.fNames.length c1, .slice a2 m.fSafe.length c2, .int .i64 m.fNext] 27).alloc (.cells #[.string s] 9)).under hx1
  have y0 := hbx.2 0 _ rfl
  have y1 := hbx.2 1 _ rfl
  by_cases hF : (diskOk m && nameOk s) = true
  · rw [hF]
    have hF2 := hF
    rw [Bool.and_eq_true] at hF2
    obtain ⟨q1, q2, _⟩ := diskOk_parts hF2.1
    have HSO := Hid.mk (okI_sorted q1)
    have HNO := Hid.mk (fun i j hi hj he => names_once (okE_names q2).2 (i := i) (j := j) hi hj he)
    have HOK := Hid.mk hF2.1
    clear q1 q2 hF2
    go_wp2_with fail
    refine (nameMap_any a1 _ c1 m.fNames w1 rfl (LeafL.mono rEntry_good (HNL.out.below rEntry_good hb1) hb1.size) (by omega)).mono ?_
    rintro e w2 ⟨D, rfl, hown, hNM, hx2⟩
    have HNM := Hid.mk hNM
    clear hNM
    have hb2 := bthen hb1 hx2
    have hbx2 := hbx.under hx2
    have z0 := hbx2.2 0 _ rfl
    by_cases hH : hasName m.fNames s = true
    · have HV : Hid (callP m s = 0) := by show callP m s = 0; unfold callP; rw [hF, if_pos rfl, if_pos hH]
      obtain ⟨hk, hid, hhas⟩ := file_there HOK.out hH
      obtain ⟨_, hnm⟩ := hasName_at hH
      have hhs : Maps.has D (kS s) = true := (HNM.out.2 s).1.2 ⟨_, hk, hk, hnm⟩
      have HC : Hid (D.atKey (kS s) (.lit (.int .i64 0)) = .lit (.int .i64 (idOf m.fNames s))) := by
        obtain ⟨j, hj, _, he, ha⟩ := (HNM.out.2 s).2 hhs
        have : j = nameAt m.fNames s := HNO.out j _ hj hk (he.trans hnm.symm)
        subst this
        show D.atKey _ _ = _
        rw [ha, hid]
      have HHas := Hid.mk hhas
      clear hF hH hk hid hhas hnm
      go_wp2_with (at_lookup; refine wpList_lookup_own_ok_int _ rfl _ _ 51 rfl 9 3 .i64 lawStr Try.underlying51 Try.underlying3 (zeroInt _) w1.heap.size m.fNames.length D rfl hown _ _ rfl (keyStr hs) ?_; intro c hat hwc)
      have hce : c = idOf m.fNames s := by
        rw [HC.out] at hat
        simp only [DataW.lit.injEq, Lit.int.injEq, true_and] at hat
        exact hat.symm
      subst hce
      refine (inodePlace_any a0 c0 m.fInodes (idOf m.fNames s) w2 (LeafL.mono rInode_good (HI.out.below rInode_good hb2) hb2.size) (by omega) HSO.out).mono ?_
      rintro e w3 ⟨p, rfl, hp, hx3⟩
      have HP := Hid.mk (hp HHas.out)
      rw [HHas.out]
      clear hp
      go_wp2_with fail
      refine bodyPost_ret (v := .tuple #[.int .i64 p, .int .i64 0]) (by simp [results, Try.results36, go_sem, *]) rfl ⟨p, by rw [HV.out], fun _ => HP.out, bthen hb2 hx3⟩
    · have HV : Hid (callP m s = 2) := by show callP m s = 2; unfold callP; rw [hF, if_pos rfl, if_neg hH]
      have hhs : Maps.has D (kS s) = false := by
        rw [Bool.eq_false_iff]
        intro h
        obtain ⟨j, hj, _, he⟩ := (HNM.out.2 s).1.1 h
        exact hH (hasName_yes hj he)
      go_wp2_with (at_lookup; refine wpList_lookup_own_ok_int _ rfl _ _ 51 rfl 9 3 .i64 lawStr Try.underlying51 Try.underlying3 (zeroInt _) w1.heap.size m.fNames.length D rfl hown _ _ rfl (keyStr hs) ?_; intro c hat hwc)
      refine bodyPost_ret (v := .tuple #[.int .i64 0, .int .i64 2]) (by simp [results, Try.results36, go_sem, *]) rfl ⟨0, by rw [HV.out]; rfl, (fun h => by rw [HV.out] at h; cases h), hb2⟩
  · have hF2 : (diskOk m && nameOk s) = false := Bool.eq_false_iff.2 hF
    have HV : Hid (callP m s = 1) := by show callP m s = 1; unfold callP; rw [hF2]; rfl
    rw [hF2]
    go_wp2_with fail
    refine bodyPost_ret (v := .tuple #[.int .i64 0, .int .i64 1]) (by simp [results, Try.results36, go_sem, *]) rfl ⟨0, by rw [HV.out]; rfl, (fun h => by rw [HV.out] at h; cases h), hb1⟩

theorem dataOf_at {m : MDisk} {s : ByteArray} {p : Nat} (hso : m.fInodes.Pairwise fun x y => x.fId < y.fId) (h : p < m.fInodes.length) (he : m.fInodes[p].fId = idOf m.fNames s) : dataOf m s = m.fInodes[p].fData := by
  unfold dataOf
  have : placeOf m.fInodes (idOf m.fNames s) = p := by
    unfold placeOf
    rw [List.findIdx_eq h]
    refine ⟨decide_eq_true he, fun j hj => ?_⟩
    have := sorted_at hso h hj
    simp
    omega
  rw [this, List.getElem?_eq_getElem h]
  rfl

end Go.Proofs.Ytmbobjhplkpfoaa

namespace Go.Proofs.Ytmbobjhplkpfoaa
open Go.RowKit

/-- One element: what it leads to, and what the list is once one of its cells is written, in a world in which what it led to may have turned. -/
theorem ownS.split {α : Type} {size : Nat} {e : TypeId} {O : ORep α} {R : Rep α} (hO : O.Good R size) {w : World} {g cap : Nat} {l : List α} {F : List Nat} (h : ownS size e O w (.slice (some ⟨g, 0, none⟩) l.length cap) l F) (hN : F.Nodup) {k : Nat} (hk : k < l.length) :
    ∃ cs Fk, O w cs l[k] Fk ∧ Fk.Nodup ∧ (∀ b, b ∈ Fk → b ∈ F ∧ b ≠ g) ∧ g ∈ F ∧ (∀ i u, cs[i]? = some u → w.cell? ⟨g, k * size + i, none⟩ = some u) ∧ (∀ i, w.frozen? ⟨g, i, none⟩ = false) ∧
      ∀ (W : World) (i : Nat) (u : Value) (m' : α) (G Fn : List Nat), i < size → Turn Fk w W → O W (cs.set i u) m' G → G.Nodup → (∀ b, b ∈ G → b ∈ Fk ∨ b ∈ Fn) → (∀ b, b ∈ Fn → b ∉ F) →
        ∃ F', ownS size e O (W.setCell ⟨g, k * size + i, none⟩ u) (.slice (some ⟨g, 0, none⟩) l.length cap) (l.set k m') F' ∧ F'.Nodup ∧ ∀ b, b ∈ F' → b ∈ F ∨ b ∈ Fn := by
  rcases h with ⟨h0, _, _⟩ | ⟨g', cap', cur, Fs, h1, h2, h3, h4, h5, h6, h7, rfl⟩
  · cases h0
  · simp only [Value.slice.injEq, Option.some.injEq, Addr.mk.injEq, and_true, true_and] at h1
    obtain ⟨rfl, rfl⟩ := h1
    rw [List.nodup_cons] at hN
    have hkF : k < Fs.length := by omega
    have hgk : Fs.getD k [] = Fs[k] := by rw [List.getD_eq_getElem?_getD, List.getElem?_eq_getElem hkF]; rfl
    have hfn := flatten_nodup_iff.1 hN.2
    have hnk : (Fs.getD k []).Nodup := by rw [hgk]; exact hfn.1 _ (List.getElem_mem hkF)
    refine ⟨_, _, h7 k hk, hnk, fun b hb => ⟨List.mem_cons_of_mem _ (mem_flatten_getD hkF hb), fun e => hN.1 (by rw [← e]; exact mem_flatten_getD hkF hb)⟩, by simp, fun i u hu => ?_, fun i => frozen_of_row w g i cur e h2, ?_⟩
    · rw [cell_of_row w g _ cur e (0, 0) h2]
      rw [List.getElem?_take] at hu
      split at hu
      · rw [List.getElem?_drop] at hu
        simpa using hu
      · cases hu
    intro W i u m' G Fn hi hT g1 g2 g3 hFn
    have hFn' : ∀ b, b ∈ Fn → b ∉ Fs.flatten := fun b hb hb2 => hFn b hb (List.mem_cons_of_mem _ hb2)
    obtain ⟨n1, n2⟩ := set_nodup hkF hN.2 g2 g3 hFn'
    have hgF : g ∉ (Fs.set k G).flatten := by
      intro hg
      rcases n2 g hg with hg | hg
      · exact hN.1 hg
      · exact hFn g hg (by simp)
    have hgW : W.heap[g]? = some (.cells cur e (0, 0)) := (hT.block g (Array.getElem?_eq_some_iff.1 h2).1 (fun hm => hN.1 (mem_flatten_getD hkF hm))).trans h2
    have hs := heap_setCell_same W g (k * size + i) cur e u hgW
    refine ⟨g :: (Fs.set k G).flatten, .inr ⟨g, cap, cur.setIfInBounds (k * size + i) u, Fs.set k G, by simp, hs, by simpa using h3, h4, by simpa using h5, by simp [h6], ?_, rfl⟩, List.nodup_cons.2 ⟨hgF, n1⟩, ?_⟩
    · intro j hj
      have hj' : j < l.length := by simpa using hj
      have hfr : ∀ b, b ∈ (Fs.set k G).getD j [] → (W.setCell ⟨g, k * size + i, none⟩ u).heap[b]? = W.heap[b]? := by
        intro b hb
        have hbf : b ∈ (Fs.set k G).flatten := mem_flatten_getD (by simp; omega) hb
        exact heap_setCell_other W ⟨g, k * size + i, none⟩ b u (fun hh => hgF (by have : b = g := hh; rw [← this]; exact hbf))
      have hlen : cur.toList.length = cap * size := by simpa using h5
      by_cases hjk : j = k
      · subst hjk
        have e1 : ((cur.setIfInBounds (j * size + i) u).toList.drop (j * size)).take size = ((cur.toList.drop (j * size)).take size).set i u := by
          rw [Array.toList_setIfInBounds]
          apply List.ext_getElem?
          intro x
          rw [List.getElem?_take, List.getElem?_drop, List.getElem?_set, List.getElem?_set, List.getElem?_take, List.getElem?_drop]
          by_cases hx : x < size
          · rw [if_pos hx, if_pos hx]
            by_cases hxi : i = x
            · subst hxi
              have hmul : (j + 1) * size ≤ cap * size := Nat.mul_le_mul_right _ (by omega)
              rw [Nat.succ_mul] at hmul
              rw [if_pos rfl, if_pos rfl, if_pos (by omega), if_pos (by simp; omega)]
            · rw [if_neg (by omega), if_neg hxi]
          · rw [if_neg hx, if_neg (by omega), if_neg hx]
        have e2 : (Fs.set j G).getD j [] = G := by rw [List.getD_eq_getElem?_getD, List.getElem?_set_self (by omega)]; rfl
        rw [List.getElem_set_self, e1]
        rw [e2] at hfr ⊢
        exact hO.frame g1 hfr
      · have e1 : ((cur.setIfInBounds (k * size + i) u).toList.drop (j * size)).take size = (cur.toList.drop (j * size)).take size := by
          rw [Array.toList_setIfInBounds]
          apply List.ext_getElem?
          intro x
          rw [List.getElem?_take, List.getElem?_drop, List.getElem?_set, List.getElem?_take, List.getElem?_drop]
          by_cases hx : x < size
          · rw [if_pos hx, if_pos hx]
            have : k * size + i ≠ j * size + x := by
              intro hh
              rcases Nat.lt_or_gt_of_ne hjk with hlt | hlt
              · have hmul : (j + 1) * size ≤ k * size := Nat.mul_le_mul_right _ hlt
                rw [Nat.succ_mul] at hmul; omega
              · have hmul : (k + 1) * size ≤ j * size := Nat.mul_le_mul_right _ hlt
                rw [Nat.succ_mul] at hmul; omega
            rw [if_neg this]
          · rw [if_neg hx, if_neg hx]
        have e2 : (Fs.set k G).getD j [] = Fs.getD j [] := by rw [List.getD_eq_getElem?_getD, List.getD_eq_getElem?_getD, List.getElem?_set_ne (Ne.symm hjk)]
        rw [List.getElem_set_ne (Ne.symm hjk), e1]
        rw [e2] at hfr ⊢
        have hjF : j < Fs.length := by omega
        have hgj : Fs.getD j [] = Fs[j] := by rw [List.getD_eq_getElem?_getD, List.getElem?_eq_getElem hjF]; rfl
        have hW : O W ((cur.toList.drop (j * size)).take size) l[j] (Fs.getD j []) := hO.frame (h7 j hj') (fun b hb => hT.block b (hO.lt (h7 j hj') b hb) (fun hm => by
          rw [hgj] at hb
          rw [hgk] at hm
          have hp := List.pairwise_iff_getElem.1 hfn.2
          rcases Nat.lt_or_gt_of_ne hjk with hlt | hlt
          · exact hp j k hjF hkF hlt b hb hm
          · exact hp k j hkF hjF hlt b hm hb))
        exact hO.frame hW hfr
    · intro b hb
      rcases List.mem_cons.1 hb with rfl | hb
      · exact .inl (by simp)
      · rcases n2 b hb with h | h
        · exact .inl (List.mem_cons_of_mem _ h)
        · exact .inr h


/-- The disk with one inode changed. -/
theorem oDisk_put {W : World} {g c0 : Nat} {a1 a2 : Option Addr} {c1 c2 : Nat} {m : MDisk} {F0 F1 F2 : List Nat} {p : Nat} {f : MInode → MInode} (hp : p < m.fInodes.length) (h0 : ownS 3 56 oInode W (.slice (some ⟨g, 0, none⟩) m.fInodes.length c0) (m.fInodes.set p (f m.fInodes[p])) F0) (h1 : ownS 2 61 oEntry W (.slice a1 m.fNames.length c1) m.fNames F1) (h2 : ownS 2 61 oEntry W (.slice a2 m.fSafe.length c2) m.fSafe F2)
    (h3 : (Lit.int .i64 m.fNext).wf = true) : oDisk W [.slice (some ⟨g, 0, none⟩) m.fInodes.length c0, .slice a1 m.fNames.length c1, .slice a2 m.fSafe.length c2, .int .i64 m.fNext] { m with fInodes := updI m.fInodes p f } (F0 ++ F1 ++ F2 ++ []) :=
  ⟨_, F0, _, F1, _, F2, rfl, by rw [updI_at hp]; exact h0, h1, h2, h3, rfl⟩

end Go.Proofs.Ytmbobjhplkpfoaa

namespace Go.Proofs.Ytmbobjhplkpfoaa
open Go.RowKit Go.Maps Go.Shelf Go.Lib Go.Sort

/-- How an entry's two cells lie. -/
def encE (e : MEntry) : List Value := [.string e.fName, .int .i64 e.fId]

def cmpN (a b : ByteArray) : Int := if strLt a b then -1 else if strLt b a then 1 else 0
def cmpE (a b : MEntry) : Int := cmpN a.fName b.fName

theorem ltOfE (a b : MEntry) : ltOf cmpE a b = strLt a.fName b.fName := by
  unfold ltOf cmpE cmpN
  by_cases h : strLt a.fName b.fName = true
  · simp [h]
  · simp only [h]
    by_cases h2 : strLt b.fName a.fName = true
    · simp [h2]
    · simp [h2]

@[reducible] def inhE : Inhabited MEntry := ⟨⟨ByteArray.empty, 0⟩⟩

theorem swoE : SWO (ltOf cmpE) where
  irrefl x := by rw [ltOfE]; exact strLt_irrefl _
  trans x y z h1 h2 := by rw [ltOfE] at *; exact strLt_trans h1 h2
  ntrans x y z h1 h2 := by
    rw [ltOfE] at *
    by_cases hxy : x.fName = y.fName
    · rw [hxy]; exact h2
    · have h3 := strLt_tri h1 hxy
      by_cases hyz : y.fName = z.fName
      · rw [← hyz]; exact h1
      · exact strLt_asymm (strLt_trans (strLt_tri h2 hyz) h3)

set_option maxHeartbeats 1000000 in
theorem compareStr_any (a b : ByteArray) (w : World) :
    Calls Try.prog 69 #[.string a, .string b] w fun e w' => e = .returned (.int .i64 (cmpN a b)) ∧ w' = w := by
  by_cases h1 : strLt a b = true
  · have hv : cmpN a b = -1 := by unfold cmpN; rw [if_pos h1]
    rw [hv]
    obtain ⟨p1, p2, p3⟩ := strLt_facts h1
    clear hv h1
    go_enter Try.func69, Try.ntmps69
    go_wp2
    go_ret
    exact ⟨rfl, rfl⟩
  · have h1' : strLt a b = false := Bool.eq_false_iff.2 h1
    by_cases h2 : strLt b a = true
    · have hv : cmpN a b = 1 := by unfold cmpN; rw [if_neg h1, if_pos h2]
      rw [hv]
      obtain ⟨p1, p2, p3⟩ := strLt_facts h2
      clear hv h1 h2 h1'
      go_enter Try.func69, Try.ntmps69
      go_wp2
      go_ret
      exact ⟨rfl, rfl⟩
    · have h2' : strLt b a = false := Bool.eq_false_iff.2 h2
      have hv : cmpN a b = 0 := by unfold cmpN; rw [if_neg h1, if_neg h2]
      rw [hv]
      have p1 : Op.bytesLess a.toList b.toList = false := h1'
      have p2 : Op.bytesLess b.toList a.toList = false := h2'
      have hab : a.toList = b.toList := by
        by_cases h : a.toList = b.toList
        · exact h
        · have := bl_total p1 h; rw [p2] at this; cases this
      have p3 : (a.toList == b.toList) = true := by rw [hab]; simp
      have p4 : (b.toList == a.toList) = true := by rw [hab]; simp
      clear hab hv h1 h2 h1' h2'
      go_enter Try.func69, Try.ntmps69
      go_wp2
      go_ret
      exact ⟨rfl, rfl⟩

set_option maxHeartbeats 1000000 in
theorem closureE (x y : MEntry) (w : World) : Calls Try.prog 68 #[.agg (encE x).toArray, .agg (encE y).toArray] w fun e w' => e = .returned (.int .i64 (cmpE x y)) ∧ ∃ q os', w' = grow (w.drewN q) os' := by
  have hcon := fun W' => compareStr_any x.fName y.fName W'
  have hv : cmpE x y = cmpN x.fName y.fName := rfl
  rw [hv]
  clear hv
  generalize cmpN x.fName y.fName = r at hcon ⊢
  unfold encE
  go_enter Try.func68, Try.ntmps68
  go_wp2_with (go_at_call 69; refine (hcon _).mono ?_; rintro e w' ⟨rfl, rfl⟩)
  go_ret
  exact ⟨rfl, 0, _, by rw [alloc_eq_grow, alloc_eq_grow, grow_grow]; rfl⟩

theorem isAggE (w : World) : (isAgg 61).run Try.prog w = .ok true w := by kernel_rfl
theorem sizeOfE (w : World) : (Go.sizeOf 61).run Try.prog w = .ok 2 w := by kernel_rfl

section
variable [Inhabited MEntry]

theorem cmpLaysE (blk off size : Nat) (w : World) : CmpLays Try.prog 68 #[] encE 2 cmpE blk off size w :=
  fun _ _ _ _ x y => closureE x y _


/-- The library's sort, at a row of entries. -/
theorem sortE_any (blk cap : Nat) (d : Array MEntry) (w : World) (hH : HoldsK encE 2 w blk 0 d) (hblk : blk < w.heap.size) (hsz : d.size < 4611686018427387904) :
    Calls Try.prog 67 #[.slice (some ⟨blk, 0, none⟩) d.size cap, .func (.func 68) #[] #[]] w fun e w' => e = .returned (.tuple #[]) ∧ ∃ d' n os, PermIn 0 d.size d d' ∧ SortedIn (ltOf cmpE) 0 d.size d' ∧ w' = sortWorldK encE 2 w blk 0 n d' os := by
  have eg : ∀ args w, (callFunc 68 args).run Try.prog w = .ok (.enter 68 args) w := enters_of Try.func68 (by kernel_rfl) rfl
  exact AnyQ.slices_SortFunc sortEnt 2 isAggE sizeOfE encE (fun _ => rfl) (fun x v hv => by simp [encE] at hv; rcases hv with rfl | rfl <;> rfl) cmpE swoE 68 #[] blk 0 cap d w eg (cmpLaysE blk 0 d.size w) hH hblk hsz

end

end Go.Proofs.Ytmbobjhplkpfoaa
