/-
  What is sure at the replicas: the program's list and the specification's.
-/
import Derived.Test.YtjipinjdfeihjaaUDat
import Derived.Test.YtjipinjdfeihjaaChecked
import Derived.Test.YtjipinjdfeihjaaDatR
import Derived.Test.YtjipinjdfeihjaaRowG
namespace Go.Proofs.Ytjipinjdfeihjaa
open Go.RowKit Go.Maps
set_option linter.unusedVariables false
set_option linter.unusedSimpArgs false
set_option maxRecDepth 10000

def sureF (l : List MReplica) : List MRec := l.flatMap fun r => r.fRecs.filter MRec.fSure
theorem sureF_take {l : List MReplica} {i : Nat} (h : i < l.length) : sureF (l.take (i + 1)) = sureF (l.take i) ++ l[i].fRecs.filter MRec.fSure := by
  unfold sureF
  rw [List.take_succ_eq_append_getElem h, List.flatMap_append]
  simp
theorem filter_take {l : List MRec} {k : Nat} (h : k < l.length) : (l.take (k + 1)).filter MRec.fSure = (l.take k).filter MRec.fSure ++ (if l[k].fSure = true then [l[k]] else []) := by
  rw [List.take_succ_eq_append_getElem h, List.filter_append]
  congr 1
  rw [List.filter_cons]
  simp
theorem sureF_len : ∀ l : List MReplica, (sureF l).length ≤ sumW wReplica l
  | [] => by simp [sureF]
  | r :: l => by
    have h1 := sureF_len l
    have h2 : (r.fRecs.filter MRec.fSure).length ≤ r.fRecs.length := List.length_filter_le _ _
    have h3 : r.fRecs.length ≤ wReplica r := by unfold wReplica; omega
    unfold sureF at h1 ⊢
    rw [List.flatMap_cons, List.length_append]
    simp only [sumW]
    omega
theorem sure_len {l : List MReplica} {i : Nat} (h : i < l.length) (k : Nat) : (sureF (l.take i) ++ (l[i].fRecs.take k).filter MRec.fSure).length ≤ sumW wReplica l := by
  have h1 := sureF_len (l.take i)
  have h2 : ((l[i].fRecs.take k).filter MRec.fSure).length ≤ (l[i].fRecs.take k).length := List.length_filter_le _ _
  have h3 : (l[i].fRecs.take k).length ≤ l[i].fRecs.length := by rw [List.length_take]; omega
  have h4 : l[i].fRecs.length ≤ wReplica l[i] := by unfold wReplica; omega
  have h5 := sumW_take_succ (f := wReplica) h
  have h6 := sumW_take_le wReplica l (i + 1)
  rw [List.length_append]
  omega
theorem Try.infoRec7 : (Try.prog.info? 48).map (fun i => (i.zero, i.size, i.bytes)) = some (some (.agg #[.int .i64 0, .int .i64 0, .int .i64 0, .string ⟨#[]⟩, .string ⟨#[]⟩, .slice none 0 0, .bool false]), 7, 88) := by kernel_rfl

set_option maxHeartbeats 4000000 in
theorem sureI_any (a0 : Option Addr) (n0 c0 : Nat) (l : List MReplica) (w : World) (hn0 : l.length = n0) (hr : LeafL 8 rReplica w.heap.size w a0 c0 l) (hw : l.length + sumW wReplica l ≤ 1048576) :
    Calls Try.prog 25 #[.slice a0 n0 c0] w fun e w' => ∃ v, e = .returned v ∧ RowR 7 48 rRec w.heap.size w' w.heap.size v (sureF l) ∧ Below w.heap.size w w' := by
  obtain ⟨iR, hiR, hzR0, hzR1, hzR2⟩ := info_parts Try.infoRec7
  have HL := Hid.mk hr
  have HN := Hid.mk hn0
  have HW := Hid.mk hw
  have hn : n0 ≤ 1048576 := by omega
  clear hr hn0 hw
  go_enter Try.func25, Try.ntmps25
  go_wp2_with fail
  go_loopw [3, 10] (fun v i wr => ∃ k : Nat, k ≤ n0 ∧ i = .int .i64 k ∧ RowR 7 48 rRec w.heap.size wr w.heap.size v (sureF (l.take k)) ∧ Below w.heap.size w wr) (fun _ i _ => n0 - (intOf i).toNat)
  case atStart => exact ⟨0, Nat.zero_le _, rfl, by simpa [sureF] using RowR.start, Below.refl _ _⟩
  case round =>
    obtain ⟨i, hi, rfl, hrow, hbk⟩ := hrel
    have hbz := hbk.size
    by_cases hlt : i < n0
    · have hil : i < l.length := by rw [HN.out]; exact hlt
      obtain ⟨b1, o1, rfl, hB, cs, hcl, hcell, a3, c3, a4, c4, b5, d5, a6, c6, a7, c7, rfl, g0, g1, g2, hLR, _⟩ := HL.out.2.2 i hil
      have HSL : Hid (∀ k, (sureF (l.take i) ++ (l[i].fRecs.take k).filter MRec.fSure).length ≤ 1048576) := fun k => by have h1 := sure_len hil k; have h2 := HW.out; omega
      have hnr : l[i].fRecs.length ≤ 1048576 := by
        have h1 := sumW_le (f := wReplica) hil
        have h2 := HW.out
        have h3 : l[i].fRecs.length ≤ wReplica l[i] := by unfold wReplica; omega
        omega
      have HST := Hid.mk (sureF_take hil)
      obtain ⟨r, hrq⟩ : ∃ r, l[i] = r := ⟨_, rfl⟩
      rw [hrq] at hcell hLR HSL HST hnr g0 g1 g2
      have HLR := Hid.mk hLR
      have hB' : b1 < wr.heap.size := by omega
      have k0 := (hbk.cell (p := ⟨b1, o1 + i * 8 + 0, none⟩) hB).trans (hcell 0 _ rfl)
      have k1 := (hbk.cell (p := ⟨b1, o1 + i * 8 + 1, none⟩) hB).trans (hcell 1 _ rfl)
      have k2 := (hbk.cell (p := ⟨b1, o1 + i * 8 + 2, none⟩) hB).trans (hcell 2 _ rfl)
      have k3 := (hbk.cell (p := ⟨b1, o1 + i * 8 + 3, none⟩) hB).trans (hcell 3 _ rfl)
      have k4 := (hbk.cell (p := ⟨b1, o1 + i * 8 + 4, none⟩) hB).trans (hcell 4 _ rfl)
      have k5 := (hbk.cell (p := ⟨b1, o1 + i * 8 + 5, none⟩) hB).trans (hcell 5 _ rfl)
      have k6 := (hbk.cell (p := ⟨b1, o1 + i * 8 + 6, none⟩) hB).trans (hcell 6 _ rfl)
      have k7 := (hbk.cell (p := ⟨b1, o1 + i * 8 + 7, none⟩) hB).trans (hcell 7 _ rfl)
      rw [Nat.add_zero] at k0
      clear hcell hcl hrq hLR
      have HROW := Hid.mk hrow
      clear hrow
      obtain ⟨nr, hnrq⟩ : ∃ q, q = r.fRecs.length := ⟨_, rfl⟩
      rw [← hnrq] at k3 hnr
      have HNR := Hid.mk hnrq
      clear hnrq
      obtain ⟨Wx, hWx⟩ : ∃ Wx, Wx = wr.alloc (.cells #[.int .i64 r.fId, .int .i64 r.fN, .int .i64 r.fNext, .slice a3 nr c3, .slice a4 r.fAcks.length c4, .slice b5 r.fDone.length d5, .slice a6 r.fMap.length c6, .slice a7 r.fSaid.length c7] 65) := ⟨_, rfl⟩
      have hbx0 : Below wr.heap.size wr Wx := by rw [hWx]; exact (Below.refl _ _).alloc (Nat.le_refl _) _
      have HRX := Hid.mk (HROW.out.keep rRec_good hbx0 hbz)
      have HBX : Hid (Below w.heap.size w Wx) := bthen hbk hbx0
      clear hbx0 HROW
      go_wp2_with fail
      rw [← hWx]
      clear hWx k0 k1 k2 k3 k4 k5 k6 k7
      go_loopw [3, 17] (fun v j wv => ∃ k : Nat, k ≤ nr ∧ j = .int .i64 k ∧ RowR 7 48 rRec w.heap.size wv w.heap.size v (sureF (l.take i) ++ (r.fRecs.take k).filter MRec.fSure) ∧ Below w.heap.size w wv) (fun _ j _ => nr - (intOf j).toNat)
      case atStart => exact ⟨0, Nat.zero_le _, rfl, by simpa using HRX.out, HBX.out⟩
      case round =>
        clear HRX
        obtain ⟨k, hk, rfl, hrow, hbv⟩ := hrel
        have hvz := hbv.size
        by_cases hkt : k < nr
        · have hkl : k < r.fRecs.length := by rw [← HNR.out]; exact hkt
          obtain ⟨b2, o2, rfl, hB2, cs2, hcl2, hcell2, a5, c5, rfl, q0, q1, q2, q3, q4, hLD, _⟩ := HLR.out.2.2 k hkl
          have HFT := Hid.mk (filter_take hkl)
          have hfl := HSL.out k
          obtain ⟨x, hxq⟩ : ∃ x, r.fRecs[k] = x := ⟨_, rfl⟩
          rw [hxq] at hcell2 HFT q0 q1 q2 q3 q4 hLD
          have hB2' : b2 < wr.heap.size := by omega
          have y0 := (hbv.cell (p := ⟨b2, o2 + k * 7 + 0, none⟩) hB2).trans (hcell2 0 _ rfl)
          have y1 := (hbv.cell (p := ⟨b2, o2 + k * 7 + 1, none⟩) hB2).trans (hcell2 1 _ rfl)
          have y2 := (hbv.cell (p := ⟨b2, o2 + k * 7 + 2, none⟩) hB2).trans (hcell2 2 _ rfl)
          have y3 := (hbv.cell (p := ⟨b2, o2 + k * 7 + 3, none⟩) hB2).trans (hcell2 3 _ rfl)
          have y4 := (hbv.cell (p := ⟨b2, o2 + k * 7 + 4, none⟩) hB2).trans (hcell2 4 _ rfl)
          have y5 := (hbv.cell (p := ⟨b2, o2 + k * 7 + 5, none⟩) hB2).trans (hcell2 5 _ rfl)
          have y6 := (hbv.cell (p := ⟨b2, o2 + k * 7 + 6, none⟩) hB2).trans (hcell2 6 _ rfl)
          rw [Nat.add_zero] at y0
          have HRR : Hid (∀ W, Below w.heap.size w W → rRec w.heap.size W [.int .i64 x.fD.fR, .int .i64 x.fD.fN, .int .i64 x.fC.fKind, .string x.fC.fKey, .string x.fC.fVal, .slice a5 x.fDeps.length c5, .bool x.fSure] x) := fun W hW => ⟨a5, c5, rfl, q0, q1, q2, q3, q4, hLD.below rDot_good hW, trivial, trivial⟩
          clear hcell2 hcl2 hxq hLD
          obtain ⟨fl, hfq⟩ : ∃ fl, fl = sureF (l.take i) ++ (r.fRecs.take k).filter MRec.fSure := ⟨_, rfl⟩
          have HTK : Hid (sureF (l.take i) ++ (r.fRecs.take (k + 1)).filter MRec.fSure = fl ++ (if x.fSure = true then [x] else [])) := by show _ = _; rw [HFT.out, hfq, List.append_assoc]
          rw [← hfq] at hrow hfl
          clear hfq HFT
          cases hsu : x.fSure
          · rw [hsu] at HTK HRR y6
            have hT1 : Below wr.heap.size wr (wr.alloc (.cells #[.int .i64 x.fD.fR, .int .i64 x.fD.fN, .int .i64 x.fC.fKind, .string x.fC.fKey, .string x.fC.fVal, .slice a5 x.fDeps.length c5, .bool false] 48)) := (Below.refl _ _).alloc (Nat.le_refl _) _
            have HRW := Hid.mk (hrow.keep rRec_good hT1 hvz)
            have HBW := Hid.mk (bthen hbv hT1)
            clear hrow hT1
            go_wp2_with fail
            go_roundw
            case rel => exact ⟨k + 1, by omega, by go_num, by rw [HTK.out]; simpa using HRW.out, HBW.out⟩
            case measure => simp [intOf]; omega
          · rw [hsu] at HTK HRR y6
            obtain ⟨css, r1, r2, r3, r4⟩ := hrow
            obtain ⟨Wy, hWy⟩ : ∃ Wy, Wy = (wr.alloc (.cells #[.int .i64 x.fD.fR, .int .i64 x.fD.fN, .int .i64 x.fC.fKind, .string x.fC.fKey, .string x.fC.fVal, .slice a5 x.fDeps.length c5, .bool true] 48)).alloc (.cells #[.int .i64 x.fD.fR, .int .i64 x.fD.fN, .int .i64 x.fC.fKind, .string x.fC.fKey, .string x.fC.fVal, .slice a5 x.fDeps.length c5, .bool true] 48) := ⟨_, rfl⟩
            have hbx0 : Below wr.heap.size wr Wy := by rw [hWy]; exact ((Below.refl _ _).alloc (Nat.le_refl _) _).alloc (by simp) _
            have hbx : Bx Wy (wr.heap.size + 1) [.int .i64 x.fD.fR, .int .i64 x.fD.fN, .int .i64 x.fC.fKind, .string x.fC.fKey, .string x.fC.fVal, .slice a5 x.fDeps.length c5, .bool true] := by rw [hWy]; have := Bx.new (wr.alloc (.cells #[.int .i64 x.fD.fR, .int .i64 x.fD.fN, .int .i64 x.fC.fKind, .string x.fC.fKey, .string x.fC.fVal, .slice a5 x.fDeps.length c5, .bool true] 48)) [.int .i64 x.fD.fR, .int .i64 x.fD.fN, .int .i64 x.fC.fKind, .string x.fC.fKey, .string x.fC.fVal, .slice a5 x.fDeps.length c5, .bool true] 48; simpa using this
            have r4x := own_below r4 hbx0
            have hzx := hbx0.size
            go_wp2_with (at_builtin; rw [← hWy]; refine wpList_append_own_at _ rfl _ _ 40 rfl w.heap.size 48 iR (.agg #[.int .i64 0, .int .i64 0, .int .i64 0, .string ⟨#[]⟩, .string ⟨#[]⟩, .slice none 0 0, .bool false]) 7 88 Try.underlying40 hiR hzR0 hzR1 hzR2 rfl (by decide) _ _ _ rfl r4x ⟨wr.heap.size + 1, 0, none⟩ 1 1 [.int .i64 x.fD.fR, .int .i64 x.fD.fN, .int .i64 x.fC.fKind, .string x.fC.fKey, .string x.fC.fVal, .slice a5 x.fDeps.length c5, .bool true] rfl rfl (bx_news hbx) (by intro u hu; simp at hu; rcases hu with rfl | rfl | rfl | rfl | rfl | rfl | rfl <;> rfl) (by unfold maxLen; omega) (by omega) (by omega) ?_; intro v' w3 hown3 hgrow3 hnil hloc)
            have hT := Turn.after hbx0 (turnOwn hgrow3)
            have hge : ∀ k, k ∈ (Value.ownBlock _).toList → w.heap.size ≤ k := fun k hk => (r4.lt k (by simpa using hk)).1
            have hBl : Below w.heap.size wr w3 := Turn.below hT (fun k hk => hge k hk) hvz
            go_roundw
            case rel => exact ⟨k + 1, by omega, by go_num, by rw [HTK.out]; exact RowR.push rRec_good r1 r2 r3 hBl rfl (HRR.out w3 (hbv.trans hBl)) hown3, hbv.trans hBl⟩
            case measure => simp [intOf]; omega
        · have hkn : k = nr := by omega
          have HTA : Hid (sureF (l.take i) ++ (r.fRecs.take k).filter MRec.fSure = sureF (l.take (i + 1))) := by show _ = _; rw [hkn, HNR.out, List.take_length, HST.out]
          rw [HTA.out] at hrow
          have HRW := Hid.mk hrow
          clear hrow
          go_wp2_with fail
          go_roundw
          case rel => exact ⟨i + 1, by omega, by go_num, HRW.out, hbv⟩
          case measure => simp [intOf]; omega
    · have hkn : i = n0 := by omega
      have HTA : Hid (l.take i = l) := by show _ = _; rw [hkn, ← HN.out]; exact List.take_length
      rw [HTA.out] at hrow
      have HRW := Hid.mk hrow
      clear hrow
      go_wp2_with fail
      go_ret
      exact ⟨_, rfl, HRW.out, hbk⟩

set_option maxHeartbeats 4000000 in
theorem sureS_any (cs : List Value) (m : MCluster) (w : World) (hr : rCluster w.heap.size w cs m) (hw : wCluster m ≤ 1048576) :
    Calls Try.prog 18 #[.agg cs.toArray] w fun e w' => ∃ v, e = .returned v ∧ RowR 7 48 rRec w.heap.size w' w.heap.size v (sureF m.fReps) ∧ Below w.heap.size w w' := by
  obtain ⟨a0, c0, a1, c1, a2, c2, rfl, hr, _⟩ := hr
  have hw : m.fReps.length + sumW wReplica m.fReps ≤ 1048576 := by unfold wCluster at hw; omega
  obtain ⟨n1, hn1⟩ : ∃ n, n = m.fNet.length := ⟨_, rfl⟩
  obtain ⟨n2, hn2⟩ : ∃ n, n = m.fAsked.length := ⟨_, rfl⟩
  rw [← hn1, ← hn2]
  obtain ⟨l, hl⟩ : ∃ l, l = m.fReps := ⟨_, rfl⟩
  rw [← hl] at hr hw ⊢
  clear hl hn1 hn2
  obtain ⟨n0, hn0⟩ : ∃ n, l.length = n := ⟨_, rfl⟩
  rw [hn0]
  obtain ⟨iR, hiR, hzR0, hzR1, hzR2⟩ := info_parts Try.infoRec7
  have HL := Hid.mk hr
  have HN := Hid.mk hn0
  have HW := Hid.mk hw
  have hn : n0 ≤ 1048576 := by omega
  clear hr hn0 hw
  go_enter Try.func18, Try.ntmps18
  obtain ⟨w0, hw0⟩ : ∃ q, q = (w.alloc (.cells #[.slice a0 n0 c0, .slice a1 n1 c1, .slice a2 n2 c2] 33)).alloc (.cells #[] 48) := ⟨_, rfl⟩
  have hb0 : Below w.heap.size w w0 := by rw [hw0]; exact ((Below.refl _ _).alloc (Nat.le_refl _) _).alloc (by simp) _
  have hq0 : Bw w0 w.heap.size 33 [.slice a0 n0 c0, .slice a1 n1 c1, .slice a2 n2 c2] := by rw [hw0]; exact (Bw.new _ _ _).alloc _
  have ho0 : w0.ownsRow (w.heap.size + 1) 48 7 (.slice (some ⟨w.heap.size + 1, 0, none⟩) 0 0) 0 [] := by
    have h := World.ownsRow_lit (base := w.heap.size + 1) (e := 48) (size := 7) (w.alloc (.cells #[.slice a0 n0 c0, .slice a1 n1 c1, .slice a2 n2 c2] 33)) #[] 0 (by simp) (by unfold maxLen; omega) (by simp)
    rw [hw0]; simpa using h
  have HR0 : Hid (RowR 7 48 rRec w.heap.size w0 (w.heap.size + 1) (.slice (some ⟨w.heap.size + 1, 0, none⟩) 0 0) []) := ⟨[], rfl, (fun _ h => by cases h), (fun _ h => by simp at h), ho0⟩
  have HQ0 := Hid.mk hq0
  have HB0 := Hid.mk hb0
  clear hb0 hq0 ho0
  go_wp2_with fail
  rw [← hw0]
  clear hw0
  go_loopw [3, 4] (fun v i wr => ∃ k : Nat, k ≤ n0 ∧ i = .int .i64 k ∧ RowR 7 48 rRec w.heap.size wr (w.heap.size + 1) v (sureF (l.take k)) ∧ Below w.heap.size w wr ∧ Hid (Bw wr w.heap.size 33 [.slice a0 n0 c0, .slice a1 n1 c1, .slice a2 n2 c2])) (fun _ i _ => n0 - (intOf i).toNat)
  case atStart => exact ⟨0, Nat.zero_le _, rfl, by simpa [sureF] using HR0.out, HB0.out, HQ0⟩
  case round =>
    clear HR0 HB0 HQ0
    obtain ⟨i, hi, rfl, hrow, hbk, HQ⟩ := hrel
    have xb := HQ.out.cell 0 _ rfl
    have hlb := HQ.out.lt
    have hbz := hbk.size
    by_cases hlt : i < n0
    · have hil : i < l.length := by rw [HN.out]; exact hlt
      obtain ⟨b1, o1, rfl, hB, cs, hcl, hcell, a3, c3, a4, c4, b5, d5, a6, c6, a7, c7, rfl, g0, g1, g2, hLR, _⟩ := HL.out.2.2 i hil
      have HSL : Hid (∀ k, (sureF (l.take i) ++ (l[i].fRecs.take k).filter MRec.fSure).length ≤ 1048576) := fun k => by have h1 := sure_len hil k; have h2 := HW.out; omega
      have hnr : l[i].fRecs.length ≤ 1048576 := by
        have h1 := sumW_le (f := wReplica) hil
        have h2 := HW.out
        have h3 : l[i].fRecs.length ≤ wReplica l[i] := by unfold wReplica; omega
        omega
      have HST := Hid.mk (sureF_take hil)
      obtain ⟨r, hrq⟩ : ∃ r, l[i] = r := ⟨_, rfl⟩
      rw [hrq] at hcell hLR HSL HST hnr g0 g1 g2
      have HLR := Hid.mk hLR
      have HK3 : Hid (∀ W, Below w.heap.size w W → W.cell? ⟨b1, o1 + i * 8 + 3, none⟩ = some (.slice a3 r.fRecs.length c3)) := fun W hW => (hW.cell (p := ⟨b1, o1 + i * 8 + 3, none⟩) hB).trans (hcell 3 _ rfl)
      have HBb := Hid.mk hB
      clear hcell hcl hrq hLR hB
      obtain ⟨nr, hnrq⟩ : ∃ q, q = r.fRecs.length := ⟨_, rfl⟩
      rw [← hnrq] at HK3 hnr
      have HNR := Hid.mk hnrq
      clear hnrq
      have HRX := Hid.mk hrow
      have HBX := Hid.mk hbk
      clear hrow
      go_wp2_with fail
      go_loopw [3, 5] (fun v j wv => ∃ k : Nat, k ≤ nr ∧ j = .int .i64 k ∧ RowR 7 48 rRec w.heap.size wv (w.heap.size + 1) v (sureF (l.take i) ++ (r.fRecs.take k).filter MRec.fSure) ∧ Below w.heap.size w wv ∧ Hid (Bw wv w.heap.size 33 [.slice (some ⟨b1, o1, none⟩) n0 c0, .slice a1 n1 c1, .slice a2 n2 c2])) (fun _ j _ => nr - (intOf j).toNat)
      case atStart => exact ⟨0, Nat.zero_le _, rfl, by simpa using HRX.out, HBX.out, HQ⟩
      case round =>
        clear HRX HQ xb hlb
        obtain ⟨k, hk, rfl, hrow, hbv, HQ⟩ := hrel
        have hvz := hbv.size
        have xb := HQ.out.cell 0 _ rfl
        have hlb := HQ.out.lt
        have z3 := HK3.out _ hbv
        have hB1' : b1 < wr.heap.size := Nat.lt_of_lt_of_le HBb.out hvz
        by_cases hkt : k < nr
        · have hkl : k < r.fRecs.length := by rw [← HNR.out]; exact hkt
          obtain ⟨b2, o2, rfl, hB2, cs2, hcl2, hcell2, a5, c5, rfl, q0, q1, q2, q3, q4, hLD, _⟩ := HLR.out.2.2 k hkl
          have HFT := Hid.mk (filter_take hkl)
          have hfl := HSL.out k
          obtain ⟨x, hxq⟩ : ∃ x, r.fRecs[k] = x := ⟨_, rfl⟩
          rw [hxq] at hcell2 HFT q0 q1 q2 q3 q4 hLD
          have hB2' : b2 < wr.heap.size := by omega
          have y0 := (hbv.cell (p := ⟨b2, o2 + k * 7 + 0, none⟩) hB2).trans (hcell2 0 _ rfl)
          have y1 := (hbv.cell (p := ⟨b2, o2 + k * 7 + 1, none⟩) hB2).trans (hcell2 1 _ rfl)
          have y2 := (hbv.cell (p := ⟨b2, o2 + k * 7 + 2, none⟩) hB2).trans (hcell2 2 _ rfl)
          have y3 := (hbv.cell (p := ⟨b2, o2 + k * 7 + 3, none⟩) hB2).trans (hcell2 3 _ rfl)
          have y4 := (hbv.cell (p := ⟨b2, o2 + k * 7 + 4, none⟩) hB2).trans (hcell2 4 _ rfl)
          have y5 := (hbv.cell (p := ⟨b2, o2 + k * 7 + 5, none⟩) hB2).trans (hcell2 5 _ rfl)
          have y6 := (hbv.cell (p := ⟨b2, o2 + k * 7 + 6, none⟩) hB2).trans (hcell2 6 _ rfl)
          rw [Nat.add_zero] at y0
          have HRR : Hid (∀ W, Below w.heap.size w W → rRec w.heap.size W [.int .i64 x.fD.fR, .int .i64 x.fD.fN, .int .i64 x.fC.fKind, .string x.fC.fKey, .string x.fC.fVal, .slice a5 x.fDeps.length c5, .bool x.fSure] x) := fun W hW => ⟨a5, c5, rfl, q0, q1, q2, q3, q4, hLD.below rDot_good hW, trivial, trivial⟩
          clear hcell2 hcl2 hxq hLD
          obtain ⟨fl, hfq⟩ : ∃ fl, fl = sureF (l.take i) ++ (r.fRecs.take k).filter MRec.fSure := ⟨_, rfl⟩
          have HTK : Hid (sureF (l.take i) ++ (r.fRecs.take (k + 1)).filter MRec.fSure = fl ++ (if x.fSure = true then [x] else [])) := by show _ = _; rw [HFT.out, hfq, List.append_assoc]
          rw [← hfq] at hrow hfl
          clear hfq HFT
          cases hsu : x.fSure
          · rw [hsu] at HTK HRR y6
            have HRW := Hid.mk hrow
            have HBW := Hid.mk hbv
            clear hrow
            go_wp2_with fail
            go_roundw
            case rel => exact ⟨k + 1, by omega, by go_num, by rw [HTK.out]; simpa using HRW.out, HBW.out, HQ⟩
            case measure => simp [intOf]; omega
          · rw [hsu] at HTK HRR y6
            obtain ⟨css, r1, r2, r3, r4⟩ := hrow
            obtain ⟨Wy, hWy⟩ : ∃ Wy, Wy = wr.alloc (.cells #[.int .i64 x.fD.fR, .int .i64 x.fD.fN, .int .i64 x.fC.fKind, .string x.fC.fKey, .string x.fC.fVal, .slice a5 x.fDeps.length c5, .bool true] 48) := ⟨_, rfl⟩
            have hbx0 : Below wr.heap.size wr Wy := by rw [hWy]; exact (Below.refl _ _).alloc (Nat.le_refl _) _
            have hbx : Bx Wy wr.heap.size [.int .i64 x.fD.fR, .int .i64 x.fD.fN, .int .i64 x.fC.fKind, .string x.fC.fKey, .string x.fC.fVal, .slice a5 x.fDeps.length c5, .bool true] := by rw [hWy]; exact Bx.new _ _ _
            have r4x := own_below r4 hbx0
            have hzx := hbx0.size
            go_wp2_with (at_builtin; rw [← hWy]; refine wpList_append_own_at _ rfl _ _ 40 rfl (w.heap.size + 1) 48 iR (.agg #[.int .i64 0, .int .i64 0, .int .i64 0, .string ⟨#[]⟩, .string ⟨#[]⟩, .slice none 0 0, .bool false]) 7 88 Try.underlying40 hiR hzR0 hzR1 hzR2 rfl (by decide) _ _ _ rfl r4x ⟨wr.heap.size, 0, none⟩ 1 1 [.int .i64 x.fD.fR, .int .i64 x.fD.fN, .int .i64 x.fC.fKind, .string x.fC.fKey, .string x.fC.fVal, .slice a5 x.fDeps.length c5, .bool true] rfl rfl (bx_news hbx) (by intro u hu; simp at hu; rcases hu with rfl | rfl | rfl | rfl | rfl | rfl | rfl <;> rfl) (by unfold maxLen; omega) (by omega) (by omega) ?_; intro v' w3 hown3 hgrow3 hnil hloc)
            have hT := Turn.after hbx0 (turnOwn hgrow3)
            have hge : ∀ k, k ∈ (Value.ownBlock _).toList → w.heap.size + 1 ≤ k := fun k hk => (r4.lt k (by simpa using hk)).1
            have hBl : Below w.heap.size wr w3 := Turn.below hT (fun k hk => Nat.le_of_succ_le (hge k hk)) hvz
            go_roundw
            case rel => exact ⟨k + 1, by omega, by go_num, by rw [HTK.out]; exact RowR.push rRec_good r1 r2 r3 hBl rfl (HRR.out w3 (hbv.trans hBl)) hown3, hbv.trans hBl, HQ.out.turn hT (fun hm => by have := hge _ hm; omega)⟩
            case measure => simp [intOf]; omega
        · have hkn : k = nr := by omega
          have HTA : Hid (sureF (l.take i) ++ (r.fRecs.take k).filter MRec.fSure = sureF (l.take (i + 1))) := by show _ = _; rw [hkn, HNR.out, List.take_length, HST.out]
          rw [HTA.out] at hrow
          have HRW := Hid.mk hrow
          clear hrow
          go_wp2_with fail
          go_roundw
          case rel => exact ⟨i + 1, by omega, by go_num, HRW.out, hbv, HQ⟩
          case measure => simp [intOf]; omega
    · have hkn : i = n0 := by omega
      have HTA : Hid (l.take i = l) := by show _ = _; rw [hkn, ← HN.out]; exact List.take_length
      rw [HTA.out] at hrow
      have HRW := Hid.mk hrow
      clear hrow
      go_wp2_with fail
      go_ret
      exact ⟨_, rfl, HRW.out.base (by omega), hbk⟩

end Go.Proofs.Ytjipinjdfeihjaa
