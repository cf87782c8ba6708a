/-
  Part 11 of the texts that the proof leans on.
-/
import Derived.Test.YtmbobjhplkpfoaaFnn7
import Derived.Test.YtmbobjhplkpfoaaFnn9
import Derived.Test.YtmbobjhplkpfoaaFnn0
import Derived.Test.YtmbobjhplkpfoaaFnn3
import Derived.Shelf.SlSortCmp.WholeK
import Derived.Shelf.SlGeneric
import Derived.Ground.SlsfProg
import Derived.Test.YtmbobjhplkpfoaaProg
set_option linter.unusedVariables false
set_option linter.unusedSimpArgs false
set_option maxRecDepth 10000

namespace Go.Proofs.Ytmbobjhplkpfoaa
open Go.RowKit Go.Maps

def endsD (m n : MDisk) : MDisk := if diskOk (keepD n) then keepD n else m
def endsC (n : MDisk) : Int := if diskOk (keepD n) then 0 else 4

theorem rKeep {F0 F1 F2 : List Nat} {B base : Nat} {W : World} {ak b1 b2 : Option Addr} {ck d1 d2 : Nat} {n : MDisk} (h : RowR 3 56 (repO F0) B W base (.slice ak (keepI n).length ck) (keepI n)) (hN : ownS 2 61 oEntry W (.slice b1 n.fNames.length d1) n.fNames F1) (hS : ownS 2 61 oEntry W (.slice b2 n.fSafe.length d2) n.fSafe F2) (hx : (Lit.int .i64 n.fNext).wf = true) :
    ∃ F', oDisk W [.slice ak (keepI n).length ck, .slice b1 n.fNames.length d1, .slice b2 n.fSafe.length d2, .int .i64 n.fNext] (keepD n) F' ∧ ∀ b, b ∈ F' → b ∈ F0 ++ F1 ++ F2 ∨ base ≤ b := by
  obtain ⟨F', h1, h2⟩ := h.own
  refine ⟨F' ++ F1 ++ F2 ++ [], ⟨_, F', _, F1, _, F2, rfl, h1, hN, hS, hx, rfl⟩, fun b hb => ?_⟩
  simp at hb
  rcases hb with hb | hb | hb
  · rcases h2 b hb with h | h
    · exact .inl (by simp [h])
    · exact .inr h
  · exact .inl (by simp [hb])
  · exact .inl (by simp [hb])

set_option maxHeartbeats 4000000 in
theorem l2Ends_any (cs : List Value) (b0 b1 b2 : Option Addr) (d0 d1 d2 : Nat) (m n : MDisk) (F0 F1 F2 : List Nat) (w : World) (hr : rDisk w.heap.size w cs m) (hw : wDisk m ≤ 1048576) (hnI : ownS 3 56 oInode w (.slice b0 n.fInodes.length d0) n.fInodes F0) (hnN : ownS 2 61 oEntry w (.slice b1 n.fNames.length d1) n.fNames F1) (hnS : ownS 2 61 oEntry w (.slice b2 n.fSafe.length d2) n.fSafe F2) (hnx' : (Lit.int .i64 n.fNext).wf = true) (hwn : wDisk n ≤ 16777216) (hwl : n.fInodes.length ≤ 1048576 ∧ n.fNames.length ≤ 1048576 ∧ n.fSafe.length ≤ 1048576) :
    Calls Try.prog 35 #[.agg cs.toArray, .agg #[.slice b0 n.fInodes.length d0, .slice b1 n.fNames.length d1, .slice b2 n.fSafe.length d2, .int .i64 n.fNext]] w fun e w' => ∃ (cs' : List Value) (F : List Nat), e = .returned (.tuple #[.agg cs'.toArray, .int .i64 (endsC n)]) ∧ oDisk w' cs' (endsD m n) F ∧ (∀ b, b ∈ F → b ∈ F0 ++ F1 ++ F2 ∨ w.heap.size ≤ b) ∧ Below w.heap.size w w' := by
  have hq := hr
  obtain ⟨a0, c0, a1, c1, a2, c2, rfl, hI, hNm, hSf, hnx, _⟩ := hq
  have hw2 : m.fInodes.length + sumW wInode m.fInodes + (m.fNames.length + sumW wEntry m.fNames) + (m.fSafe.length + sumW wEntry m.fSafe) ≤ 1048576 := hw
  have HW := Hid.mk hw
  have HR := Hid.mk hr
  clear hr hI hNm hSf hw
  have HNI := Hid.mk hnI
  have HNN := Hid.mk hnN
  have HNS := Hid.mk hnS
  clear hnI hnN hnS
  have HWK : Hid (wDisk (keepD n) ≤ 16777216) := Nat.le_trans (keepD_weight n) hwn
  go_enter Try.func35, Try.ntmps35
  go_wp2_with fail
  obtain ⟨wq, hwq⟩ : ∃ wq, wq = (((w.alloc (.cells #[.slice a0 m.fInodes.length c0, .slice a1 m.fNames.length c1, .slice a2 m.fSafe.length c2, .int .i64 m.fNext] 27)).alloc (.cells #[.slice b0 n.fInodes.length d0, .slice b1 n.fNames.length d1, .slice b2 n.fSafe.length d2, .int .i64 n.fNext] 27)).alloc (.cells #[.slice none 0 0, .slice none 0 0, .slice none 0 0, .int .i64 0] 27)) := ⟨_, rfl⟩
  have hbW : Below w.heap.size w wq := by rw [hwq]; exact Below.alloc (Below.alloc (Below.alloc (Below.refl _ _) (by exact Nat.le_refl _) _) (by simp; try omega) _) (by simp; try omega) _
  have hbd : Bw wq (w.heap.size) 27 [.slice a0 m.fInodes.length c0, .slice a1 m.fNames.length c1, .slice a2 m.fSafe.length c2, .int .i64 m.fNext] := by rw [hwq]; exact Bw.alloc (Bw.alloc (Bw.new' _ _ _ (by simp)) _) _
  have hbn : Bw wq (w.heap.size + 1) 27 [.slice b0 n.fInodes.length d0, .slice b1 n.fNames.length d1, .slice b2 n.fSafe.length d2, .int .i64 n.fNext] := by rw [hwq]; exact Bw.alloc (Bw.new' _ _ _ (by simp)) _
  have hbr : Bw wq (w.heap.size + 2) 27 [.slice none 0 0, .slice none 0 0, .slice none 0 0, .int .i64 0] := by rw [hwq]; exact Bw.new' _ _ _ (by simp)
  rw [← hwq]
  clear hwq
  have hfN : ∀ W, Below w.heap.size w W → ownS 2 61 oEntry W (.slice b1 n.fNames.length d1) n.fNames F1 := fun W hb => ownS.frame oEntry_good HNN.out (fun b hbF => hb.block b (ownS.lt oEntry_good HNN.out b hbF))
  have hfS : ∀ W, Below w.heap.size w W → ownS 2 61 oEntry W (.slice b2 n.fSafe.length d2) n.fSafe F2 := fun W hb => ownS.frame oEntry_good HNS.out (fun b hbF => hb.block b (ownS.lt oEntry_good HNS.out b hbF))
  have HFN := Hid.mk hfN
  have HFS := Hid.mk hfS
  clear hfN hfS
  refine (l2Keep_any (repO F0) (repO_good F0) (repO_read F0) b0 b1 b2 d0 d1 d2 n wq w.heap.size hbW.size (HNI.out.leafO.below (repO_good F0) hbW) (LeafL.mono rEntry_good ((ownS.leaf oEntry_good HNN.out).below rEntry_good hbW) hbW.size) (LeafL.mono rEntry_good ((ownS.leaf oEntry_good HNS.out).below rEntry_good hbW) hbW.size) hwl).mono ?_
  rintro e w1 ⟨ak, ck, rfl, hrow, hx1⟩
  have HROW := Hid.mk hrow
  have hb1 := bthen hbW hx1
  have hbd1 := hbd.under hx1
  have hbn1 := hbn.under hx1
  have hbr1 := hbr.under hx1
  have hl1 := hbn1.lt
  have hz1 := hx1.size
  have hzq := hbW.size
  have hlr := hbr1.lt
  have hbnq := hbn.lt
  have hbrq := hbr.lt
  clear hrow hbd hbn hbr
  have y0 := hbn1.cell 0 _ rfl
  have y1 := hbn1.cell 1 _ rfl
  have y2 := hbn1.cell 2 _ rfl
  have y3 := hbn1.cell 3 _ rfl
  have f0 := hbn1.free 0
  have f1 := hbn1.free 1
  have f2 := hbn1.free 2
  have f3 := hbn1.free 3
  go_wp2_with fail
  obtain ⟨ws, hws⟩ : ∃ ws, ws = ((((w1.setCell ⟨w.heap.size + 1, 0, none⟩ (.slice ak (keepI n).length ck)).setCell ⟨w.heap.size + 1, 1, none⟩ (.slice b1 n.fNames.length d1)).setCell ⟨w.heap.size + 1, 2, none⟩ (.slice b2 n.fSafe.length d2)).setCell ⟨w.heap.size + 1, 3, none⟩ (.int .i64 n.fNext)) := ⟨_, rfl⟩
  have hTs : Turn [w.heap.size + 1] w1 ws := by rw [hws]; exact turn4 _ _ _ _ _ _
  have hbns : Bw ws (w.heap.size + 1) 27 [.slice ak (keepI n).length ck, .slice b1 n.fNames.length d1, .slice b2 n.fSafe.length d2, .int .i64 n.fNext] := by rw [hws]; exact (((hbn1.put 0 _).put 1 _).put 2 _).put 3 _
  rw [← hws]
  clear hws y0 y1 y2 y3 f0 f1 f2 f3
  have hbds := hbd1.turn hTs (by simp)
  have hbrs := hbr1.turn hTs (by simp)
  have hBs : Below w.heap.size w ws := hb1.trans (hTs.below (fun k hk => by simp at hk; omega) hb1.size)
  have hrs : RowR 3 56 (repO F0) w.heap.size ws wq.heap.size (.slice ak (keepI n).length ck) (keepI n) := RowR.turn (repO_good F0) HROW.out hTs (fun k hk => by simp at hk; omega) hb1.size (Nat.le_refl _)
  have HRS := Hid.mk hrs
  have HRK : Hid (rDisk ws.heap.size ws [.slice ak (keepI n).length ck, .slice b1 n.fNames.length d1, .slice b2 n.fSafe.length d2, .int .i64 n.fNext] (keepD n)) := by
    obtain ⟨F', h1, _⟩ := rKeep hrs (HFN.out _ hBs) (HFS.out _ hBs) hnx'
    exact oDisk_good.read h1
  have HBS := Hid.mk hBs
  clear hrs HROW hTs
  have z0 := hbns.cell 0 _ rfl
  have z1 := hbns.cell 1 _ rfl
  have z2 := hbns.cell 2 _ rfl
  have z3 := hbns.cell 3 _ rfl
  refine (specDiskOk_b [.slice ak (keepI n).length ck, .slice b1 n.fNames.length d1, .slice b2 n.fSafe.length d2, .int .i64 n.fNext] (keepD n) ws HRK.out HWK.out).mono ?_
  rintro e w2 ⟨rfl, hx2⟩
  have hb2 := bthen HBS.out hx2
  have hbd2 := hbds.under hx2
  have hbn2 := hbns.under hx2
  have hbr2 := hbrs.under hx2
  have hl2 := hbn2.lt
  have hl3 := hbr2.lt
  have hl4 := hbd2.lt
  clear z0 z1 z2 z3
  by_cases hK : diskOk (keepD n) = true
  · have HV : Hid (endsD m n = keepD n ∧ endsC n = 0) := by refine ⟨?_, ?_⟩ <;> simp [endsD, endsC, hK]
    rw [hK]
    clear hK
    have y0 := hbn2.cell 0 _ rfl
    have y1 := hbn2.cell 1 _ rfl
    have y2 := hbn2.cell 2 _ rfl
    have y3 := hbn2.cell 3 _ rfl
    have ze0 := hbr2.cell 0 _ rfl
    have ze1 := hbr2.cell 1 _ rfl
    have ze2 := hbr2.cell 2 _ rfl
    have ze3 := hbr2.cell 3 _ rfl
    have zf0 := hbr2.free 0
    have zf1 := hbr2.free 1
    have zf2 := hbr2.free 2
    have zf3 := hbr2.free 3
    have hkey : ∀ W', Turn [w.heap.size + 2] w2 W' → (∃ F', oDisk W' [.slice ak (keepI n).length ck, .slice b1 n.fNames.length d1, .slice b2 n.fSafe.length d2, .int .i64 n.fNext] (keepD n) F' ∧ ∀ b, b ∈ F' → b ∈ F0 ++ F1 ++ F2 ∨ w.heap.size ≤ b) ∧ Below w.heap.size w W' := fun W' hT => by
      have hBf : Below w.heap.size w W' := hb2.trans (hT.below (fun k hk => by simp at hk; omega) hb2.size)
      obtain ⟨F', h1, h2⟩ := rKeep (RowR.turn (repO_good F0) (F := [w.heap.size + 2]) (RowR.keep (repO_good F0) HRS.out hx2 HBS.out.size) hT (fun k hk => by simp at hk; omega) hb2.size (Nat.le_refl _)) (HFN.out _ hBf) (HFS.out _ hBf) hnx'
      exact ⟨⟨F', h1, fun b hb => (h2 b hb).imp id (fun h => by omega)⟩, hBf⟩
    have HKEY := Hid.mk hkey
    clear hkey
    go_wp2_with fail
    obtain ⟨⟨F', h1, h2⟩, h3⟩ := HKEY.out _ (show Turn [w.heap.size + 2] w2 ((((w2.setCell ⟨w.heap.size + 2, 0, none⟩ (.slice ak (keepI n).length ck)).setCell ⟨w.heap.size + 2, 1, none⟩ (.slice b1 n.fNames.length d1)).setCell ⟨w.heap.size + 2, 2, none⟩ (.slice b2 n.fSafe.length d2)).setCell ⟨w.heap.size + 2, 3, none⟩ (.int .i64 n.fNext)) from turn4 _ _ _ _ _ _)
    exact bodyPost_ret (v := .tuple #[.agg #[.slice ak (keepI n).length ck, .slice b1 n.fNames.length d1, .slice b2 n.fSafe.length d2, .int .i64 n.fNext], .int .i64 0]) (by simp [results, Try.results35, go_sem, *]) rfl ⟨[.slice ak (keepI n).length ck, .slice b1 n.fNames.length d1, .slice b2 n.fSafe.length d2, .int .i64 n.fNext], F', by rw [HV.out.2], by rw [HV.out.1]; exact h1, h2, h3⟩
  · have hK2 : diskOk (keepD n) = false := Bool.eq_false_iff.2 hK
    have HV : Hid (endsD m n = m ∧ endsC n = 4) := by refine ⟨?_, ?_⟩ <;> simp [endsD, endsC, hK2]
    rw [hK2]
    clear hK hK2
    have y0 := hbd2.cell 0 _ rfl
    have y1 := hbd2.cell 1 _ rfl
    have y2 := hbd2.cell 2 _ rfl
    have y3 := hbd2.cell 3 _ rfl
    go_wp2_with fail
    refine (l2Copy_any _ m w2 (rDisk_good.mono (rDisk_good.below HR.out hb2) hb2.size) HW.out).mono ?_
    rintro e w3 ⟨cs3, F3, rfl, ho3, hN3, hge3, hx3⟩
    have hb3 := bthen hb2 hx3
    have hbr3 := hbr2.under hx3
    have hl5 := hbr3.lt
    obtain ⟨q0, p0, q1, p1, q2, p2, G0, G1, G2, rfl, _, _, _, _, rfl⟩ := oDisk_cells ho3
    have hkey : ∀ W', Turn [w.heap.size + 2] w3 W' → oDisk W' [.slice q0 m.fInodes.length p0, .slice q1 m.fNames.length p1, .slice q2 m.fSafe.length p2, .int .i64 m.fNext] m (G0 ++ G1 ++ G2 ++ []) ∧ Below w.heap.size w W' := fun W' hT =>
      ⟨oDisk_good.frame ho3 (fun b hb => hT.block b (oDisk_good.lt ho3 b hb) (fun h => by simp at h; have := hge3 b hb; omega)), hb3.trans (hT.below (fun k hk => by simp at hk; omega) hb3.size)⟩
    have HKEY := Hid.mk hkey
    have HGE := Hid.mk hge3
    clear hkey ho3 hN3 hge3 y0 y1 y2 y3
    have ze0 := hbr3.cell 0 _ rfl
    have ze1 := hbr3.cell 1 _ rfl
    have ze2 := hbr3.cell 2 _ rfl
    have ze3 := hbr3.cell 3 _ rfl
    have zf0 := hbr3.free 0
    have zf1 := hbr3.free 1
    have zf2 := hbr3.free 2
    have zf3 := hbr3.free 3
    go_wp2_with fail
    obtain ⟨h1, h3⟩ := HKEY.out _ (show Turn [w.heap.size + 2] w3 ((((w3.setCell ⟨w.heap.size + 2, 0, none⟩ (.slice q0 m.fInodes.length p0)).setCell ⟨w.heap.size + 2, 1, none⟩ (.slice q1 m.fNames.length p1)).setCell ⟨w.heap.size + 2, 2, none⟩ (.slice q2 m.fSafe.length p2)).setCell ⟨w.heap.size + 2, 3, none⟩ (.int .i64 m.fNext)) from turn4 _ _ _ _ _ _)
    exact bodyPost_ret (v := .tuple #[.agg #[.slice q0 m.fInodes.length p0, .slice q1 m.fNames.length p1, .slice q2 m.fSafe.length p2, .int .i64 m.fNext], .int .i64 4]) (by simp [results, Try.results35, go_sem, *]) rfl ⟨[.slice q0 m.fInodes.length p0, .slice q1 m.fNames.length p1, .slice q2 m.fSafe.length p2, .int .i64 m.fNext], _, by rw [HV.out.2], by rw [HV.out.1]; exact h1, fun b hb => .inr (by have := HGE.out b hb; have := hb2.size; omega), h3⟩

end Go.Proofs.Ytmbobjhplkpfoaa

namespace Go.Proofs.Ytmbobjhplkpfoaa
open Go.RowKit

set_option maxHeartbeats 400000 in
theorem l2At_any (a : Option Addr) (n cap : Nat) (l : List MEntry) (s : ByteArray) (w : World) (B : Nat) (hx : l.length = n) (hlen : n ≤ 1099511627776) (hr : RdS 2 rEntry B w a l) :
    Calls Try.prog 44 #[.slice a n cap, .string s] w fun e w' => e = .returned (.int .i64 (nameZ l s)) ∧ w' = w := by
  have HX := Hid.mk hx
  clear hx
  go_enter Try.func44, Try.ntmps44
  go_wp2
  go_loop [5] (fun i => ∃ k : Nat, k ≤ n ∧ i = .int .i64 k ∧ ∀ j, (hj : j < l.length) → j < k → l[j].fName ≠ s) (fun i => n - (intOf i).toNat)
  case atStart => exact ⟨0, Nat.zero_le _, rfl, fun j _ hj => by omega⟩
  case round =>
    obtain ⟨k, hk, rfl, hno⟩ := hrel
    have HNo := Hid.mk hno
    clear hno
    by_cases hlt : k < n
    · have hkl : k < l.length := by rw [HX.out]; exact hlt
      obtain ⟨b1, o1, rfl, _, cs, hcl, hcell, rfl, _⟩ := hr k hkl
      have k1 := hcell 0 _ rfl
      rw [Nat.add_zero] at k1
      by_cases he : l[k].fName = s
      · have HV := Hid.mk (nameZ_at hkl he HNo.out)
        have heb := str_same he
        generalize l[k].fName = y at k1 heb
        clear hr hcell hcl he HNo
        go_wp2
        go_ret
        exact ⟨by rw [HV.out]; rfl, rfl⟩
      · have heb := str_ne he
        have HNo' : Hid (∀ j, (hj : j < l.length) → j < k + 1 → l[j].fName ≠ s) := fun j hj hjk => by
          by_cases hjk' : j = k
          · subst hjk'; exact he
          · exact HNo.out j hj (by omega)
        generalize l[k].fName = y at k1 heb
        clear hr hcell hcl he HNo
        go_wp2
        go_round
        case rel => exact ⟨k + 1, by omega, by go_num, HNo'.out⟩
        case measure => simp [intOf]; omega
    · have HV := Hid.mk (nameZ_no (l := l) (s := s) (fun j hj => HNo.out j hj (by have := HX.out; omega)))
      clear HNo
      go_wp2
      go_ret
      exact ⟨by rw [HV.out]; rfl, rfl⟩

end Go.Proofs.Ytmbobjhplkpfoaa

namespace Go.Proofs.Ytmbobjhplkpfoaa
open Go.Proofs Go.Shelf

def sortEnt_ren : Go.Shelf.Ren := ⟨fun | 6 => 67 | 15 => 76 | 14 => 75 | 28 => 87 | 29 => 88 | 20 => 79 | 21 => 80 | 22 => 81 | 23 => 82 | 24 => 83 | 25 => 84 | 26 => 85 | 27 => 86 | 46 => 89 | 47 => 90 | 48 => 91 | 49 => 92 | 50 => 93 | 57 => 94 | n => n, fun | 22 => 25 | 24 => 61 | 25 => 92 | 3 => 3 | 39 => 98 | 0 => 0 | 53 => 110 | 55 => 112 | 4 => 4 | 46 => 104 | 45 => 103 | 50 => 53 | 5 => 5 | 9 => 9 | 66 => 113 | 70 => 117 | 76 => 119 | 77 => 62 | n => n, fun | n => n⟩
theorem sortEnt : Go.Proofs.SlLaysF0.n6 Try.prog sortEnt_ren := {
  mixed := by kernel_rfl
  f6 := ⟨Try.f67.name, by decide, Try.func67.trans (congrArg some (by kernel_rfl))⟩
  f14 := ⟨Try.f75.name, by decide, Try.func75.trans (congrArg some (by kernel_rfl))⟩
  f15 := Try.func76.trans (congrArg some (by kernel_rfl))
  f20 := ⟨Try.f79.name, by decide, Try.func79.trans (congrArg some (by kernel_rfl))⟩
  f21 := ⟨Try.f80.name, by decide, Try.func80.trans (congrArg some (by kernel_rfl))⟩
  f22 := ⟨Try.f81.name, by decide, Try.func81.trans (congrArg some (by kernel_rfl))⟩
  f23 := ⟨Try.f82.name, by decide, Try.func82.trans (congrArg some (by kernel_rfl))⟩
  f24 := ⟨Try.f83.name, by decide, Try.func83.trans (congrArg some (by kernel_rfl))⟩
  f25 := ⟨Try.f84.name, by decide, Try.func84.trans (congrArg some (by kernel_rfl))⟩
  f26 := ⟨Try.f85.name, by decide, Try.func85.trans (congrArg some (by kernel_rfl))⟩
  f27 := ⟨Try.f86.name, by decide, Try.func86.trans (congrArg some (by kernel_rfl))⟩
  f28 := Try.func87.trans (congrArg some (by kernel_rfl))
  f29 := Try.func88.trans (congrArg some (by kernel_rfl))
  f46 := ⟨Try.f89.name, by decide, Try.func89.trans (congrArg some (by kernel_rfl))⟩
  f47 := Try.func90.trans (congrArg some (by kernel_rfl))
  f48 := Try.func91.trans (congrArg some (by kernel_rfl))
  f49 := ⟨Try.f92.name, by decide, Try.func92.trans (congrArg some (by kernel_rfl))⟩
  f50 := ⟨Try.f93.name, by decide, Try.func93.trans (congrArg some (by kernel_rfl))⟩
  f57 := ⟨Try.f94.name, by decide, Try.func94.trans (congrArg some (by kernel_rfl))⟩
  t0 := Try.underlying0
  a0 := Try.isAgg0
  z0 := Try.sizeOf0
  v0 := Try.zeroValue0
  t3 := Try.underlying3
  a3 := Try.isAgg3
  z3 := Try.sizeOf3
  v3 := Try.zeroValue3
  t4 := Try.underlying4
  a4 := Try.isAgg4
  z4 := Try.sizeOf4
  v4 := Try.zeroValue4
  t5 := Try.underlying5
  a5 := Try.isAgg5
  z5 := Try.sizeOf5
  v5 := Try.zeroValue5
  t9 := Try.underlying9
  a9 := Try.isAgg9
  z9 := Try.sizeOf9
  v9 := Try.zeroValue9
  t22 := Try.underlying25
  a22 := Try.isAgg25
  z22 := Try.sizeOf25
  v22 := Try.zeroValue25
  t25 := Try.underlying92
  a25 := Try.isAgg92
  z25 := Try.sizeOf92
  v25 := Try.zeroValue92
  t39 := Try.underlying98
  a39 := Try.isAgg98
  z39 := Try.sizeOf98
  v39 := Try.zeroValue98
  t45 := Try.underlying103
  a45 := Try.isAgg103
  z45 := Try.sizeOf103
  v45 := Try.zeroValue103
  t46 := Try.underlying104
  a46 := Try.isAgg104
  z46 := Try.sizeOf104
  v46 := Try.zeroValue104
  t50 := Try.underlying53
  a50 := Try.isAgg53
  z50 := Try.sizeOf53
  v50 := Try.zeroValue53
  t53 := Try.underlying110
  a53 := Try.isAgg110
  z53 := Try.sizeOf110
  v53 := Try.zeroValue110
  t55 := Try.underlying112
  a55 := Try.isAgg112
  z55 := Try.sizeOf112
  v55 := Try.zeroValue112
  t66 := Try.underlying113
  a66 := Try.isAgg113
  z66 := Try.sizeOf113
  v66 := Try.zeroValue113
  t70 := Try.underlying117
  a70 := Try.isAgg117
  z70 := Try.sizeOf117
  v70 := Try.zeroValue117
  t76 := Try.underlying119
  a76 := Try.isAgg119
  z76 := Try.sizeOf119
  v76 := Try.zeroValue119
  t77 := Try.underlying62
  a77 := Try.isAgg62
  z77 := Try.sizeOf62
  v77 := Try.zeroValue62 }

end Go.Proofs.Ytmbobjhplkpfoaa
