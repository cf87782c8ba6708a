/-
  Part 24 of the texts that the proof leans on.
-/
import Derived.Test.YtegonncmopecnaaGreatDoorMnd22
import Derived.Test.YtegonncmopecnaaGreatDoorMnd0
import Derived.Test.YtegonncmopecnaaGreatDoorMnd3
import Derived.Test.YtegonncmopecnaaGreatDoorMnd5
import Derived.Test.YtegonncmopecnaaGreatDoorMnd10
import Derived.Test.YtegonncmopecnaaGreatDoorMnd12
import Derived.Test.YtegonncmopecnaaGreatDoorMnd13
import Derived.Test.YtegonncmopecnaaGreatDoorMnd19
import Derived.Test.YtegonncmopecnaaGreatDoorMnd19p
import Derived.Test.YtegonncmopecnaaGreatDoorMnd1
set_option linter.unusedVariables false
set_option linter.unusedSimpArgs false
set_option maxRecDepth 10000

namespace Go.Proofs.YtegonncmopecnaaGreatDoor
open Go.RowKit
theorem append_good {m : MDisk} {s : ByteArray} {b : List Int} {P : MInode -> Prop} (h : FileIs m s P) (hc : appendC m s b = 0) : FileIs (appendP m s b) s (fun x => ∃ y, P y /\ x = longI b y) := by
 have hok : diskOk (appendD m s b) = true := by
  unfold appendC at hc
  rw [if_pos h.1] at hc
  by_cases hd : diskOk (appendD m s b) = true
  ·exact hd
  ·rw [if_neg hd] at hc; cases hc
 have e : appendP m s b = appendD m s b := by unfold appendP; rw [if_pos ⟨h.1, hok⟩]
 rw [e]
 exact file_upd h (fun n => rfl) hok
theorem switch_file {m : MDisk} {t : ByteArray} {b : List Int} {s : ByteArray} (h : (switchP m t b s).2 = 0) : FileIs (switchP m t b s).1 s (fun x => x.fData = b) := by
 have step : ∀ k, k < 5 -> SwAt m t b s k -> swC (removeP m t) t b s k = 0 := fun k hk hs => by
  by_cases hc : swC (removeP m t) t b s k = 0
  ·exact hc
  ·rw [hs.out hk hc] at h; exact h
 have s0 := SwAt.start m t b s
 have c0 := step 0 (by omega) s0
 have s1 := s0.on (by omega) c0
 have c1 := step 1 (by omega) s1
 have s2 := s1.on (by omega) c1
 have c2 := step 2 (by omega) s2
 have s3 := s2.on (by omega) c2
 have c3 := step 3 (by omega) s3
 have s4 := s3.on (by omega) c3
 have c4 := step 4 (by omega) s4
 have s5 := s4.on (by omega) c4
 rw [s5.done]
 have f1 := file_create (m := removeP m t) (s := t) c0
 have f2 := append_good (b := b) f1 c1
 have f3 := file_sync f2
 obtain ⟨x, ⟨y, ⟨z, hz, hy⟩, hx⟩, hd⟩ := f3.data
 have hb : dataOf (syncP (appendP (createP (removeP m t) t) t b) t) t = b := by
  rw [hd, hx, hy]
  simp [sureI, longI, hz.1]
 have hrd := rename_data c3
 have hrt := rename_to c3
 rw [hb] at hrd
 obtain ⟨x4, h1, h2, h3⟩ := data_has hrt
 have f4 : FileIs (renameP (syncP (appendP (createP (removeP m t) t) t b) t) t s) s (fun x => x.fData = b) := ⟨hrt, x4, h1, h2, by show x4.fData = b; rw [<- h3, hrd]⟩
 exact (file_syncDir f4).1
theorem file_bytes {m : MDisk} {s : ByteArray} {b : List Int} (h : FileIs m s (fun x => x.fData = b)) : callP m s = 0 /\ bytesP m s = b /\ diskOk m = true := by
 obtain ⟨x, hx, hd⟩ := h.data
 refine ⟨h.1, ?_, (call_good h.1).1⟩
 unfold bytesP
 rw [if_pos h.1, hd, hx]
structure MendOk (m : MDisk) (s : ByteArray) : Prop where
 was : callP m s = 0
 now : callP (mendD m s) s = 0
 ok : diskOk (mendD m s) = true
 old : (recsP (bytesP m s)).1 = mendL m s
 recs : recsP (bytesP (mendD m s) s) = (mendL m s, ((bytesP (mendD m s) s).length : Int))
 bytes : BytesOk (bytesP (mendD m s) s)
theorem mend_ok {m : MDisk} {s : ByteArray} (hb : BytesOk (dataOf m s)) (h : mendC m s = 0) : MendOk m s := by
 have hcall : callP m s = 0 := by
  by_cases hc : callP m s = 0
  ·exact hc
  ·unfold mendC at h; rw [mend_no hc] at h; exact h
 have hbp : bytesP m s = dataOf m s := by unfold bytesP; rw [if_pos hcall]
 have hpl := recs_place hb
 by_cases hw : (recsP (dataOf m s)).2 = ((dataOf m s).length : Int)
 ·have e := mend_whole hcall hw
  have eD : mendD m s = m := by unfold mendD; rw [e]
  have eL : mendL m s = (recsP (dataOf m s)).1 := by unfold mendL; rw [e]
  exact ⟨hcall, by rw [eD]; exact hcall, by rw [eD]; exact (call_good hcall).1, by rw [hbp, eL], by rw [eD, hbp, eL, <- hw], by rw [eD, hbp]; exact hb⟩
 ·have hsw : (switchP m mendN (foreP m s) s).2 = 0 := by
   by_cases hs : (switchP m mendN (foreP m s) s).2 = 0
   ·exact hs
   ·unfold mendC at h; rw [mend_bad hcall hw hs] at h; exact h
  have e := mend_good hcall hw hsw
  have eD : mendD m s = (switchP m mendN (foreP m s) s).1 := by unfold mendD; rw [e]
  have eL : mendL m s = (recsP (dataOf m s)).1 := by unfold mendL; rw [e]
  obtain ⟨h1, h2, h3⟩ := file_bytes (switch_file hsw)
  have hk : (recsP (dataOf m s)).2.toNat <= (dataOf m s).length := by omega
  have hsplit : foreP m s ++ (dataOf m s).drop (recsP (dataOf m s)).2.toNat = dataOf m s := List.take_append_drop _ _
  have hflen : ((foreP m s).length : Int) = (recsP (dataOf m s)).2 := by unfold foreP; rw [List.length_take]; omega
  have hcut := recs_cut (c := foreP m s) (r := (dataOf m s).drop (recsP (dataOf m s)).2.toNat) (by rw [hsplit]; exact hb) (by rw [hsplit, hflen])
  rw [hsplit] at hcut
  have hfb : BytesOk (foreP m s) := by
   intro x hx
   exact hb x (List.mem_of_mem_take hx)
  exact ⟨hcall, by rw [eD]; exact h1, by rw [eD]; exact h3, by rw [hbp, eL], by rw [eD, h2, hcut, eL], by rw [eD, h2]; exact hfb⟩
theorem mend_none {m : MDisk} {s : ByteArray} (h : mendC m s ≠ 0) : mendL m s = [] := by
 by_cases hc : callP m s = 0
 ·by_cases hw : (recsP (dataOf m s)).2 = ((dataOf m s).length : Int)
  ·exact absurd (by unfold mendC; rw [mend_whole hc hw]) h
  ·by_cases hs : (switchP m mendN (foreP m s) s).2 = 0
   ·exact absurd (by unfold mendC; rw [mend_good hc hw hs]) h
   ·unfold mendL; rw [mend_bad hc hw hs]
 ·unfold mendL; rw [mend_no hc]
theorem mend_more {m : MDisk} {s : ByteArray} (h : MendOk m s) (hc : appendC (mendD m s) s (frame [5]) = 0) : (recsP (bytesP (appendP (mendD m s) s (frame [5])) s)).1.length = (mendL m s).length + 1 := by
 obtain ⟨x0, h1, h2, h3⟩ := data_has h.now
 have hbp : bytesP (mendD m s) s = dataOf (mendD m s) s := by unfold bytesP; rw [if_pos h.now]
 have f : FileIs (mendD m s) s (fun x => x.fData = bytesP (mendD m s) s) := ⟨h.now, x0, h1, h2, by show x0.fData = _; rw [hbp, h3]⟩
 have g := append_good f hc
 obtain ⟨x, ⟨y, hy, hx⟩, hd⟩ := g.data
 have hb2 : bytesP (appendP (mendD m s) s (frame [5])) s = bytesP (mendD m s) s ++ frame [5] := by
  show (if _ then _ else _) = _
  rw [if_pos g.1, hd, hx]
  simp [longI, hy]
 rw [hb2, recs_more h.bytes (by rw [h.recs]) (by intro x hx; simp at hx; subst hx; constructor <;> decide) (by decide), h.recs]
 simp
end Go.Proofs.YtegonncmopecnaaGreatDoor

namespace Go.Proofs.YtegonncmopecnaaGreatDoor
open Go.RowKit Go.Maps
abbrev q8c8_52_4_0 : Oper := ⟨some 19, .fieldAddr 27 (.tmp 8) 0, 0, "l02_files.go:144", #[], none⟩
abbrev q8c8_52_4_1 : Oper := ⟨some 20, .load 24 (.tmp 19), 24, "l02_files.go:144", #[⟨0, .data⟩], none⟩
abbrev q8c8_52_4_2 : Oper := ⟨some 21, .move (.tmp 6), 3, "l02_files.go:144", #[], none⟩
abbrev q8c8_52_4_3 : Oper := ⟨some 22, .fieldAddr 27 (.tmp 8) 0, 0, "l02_files.go:144", #[], none⟩
abbrev q8c8_52_4_4 : Oper := ⟨some 23, .load 24 (.tmp 22), 24, "l02_files.go:144", #[⟨3, .data⟩], none⟩
abbrev q8c8_52_4_5 : Oper := ⟨some 24, .move (.tmp 6), 3, "l02_files.go:144", #[], none⟩
abbrev q8c8_52_4_6 : Oper := ⟨some 25, .indexAddr 24 (.tmp 23) (.tmp 24), 0, "l02_files.go:144", #[⟨4, .data⟩, ⟨5, .data⟩], none⟩
abbrev q8c8_52_4_7 : Oper := ⟨some 26, .fieldAddr 50 (.tmp 25) 1, 0, "l02_files.go:144", #[⟨6, .data⟩], none⟩
abbrev q8c8_52_4_8 : Oper := ⟨some 27, .load 22 (.tmp 26), 22, "l02_files.go:144", #[⟨7, .data⟩], none⟩
abbrev q8c8_52_4_9 : Oper := ⟨some 28, .call { callee := .builtin .len, args := #[.tmp 27], argTypes := #[22] }, 3, "l02_files.go:144", #[⟨8, .data⟩], none⟩
abbrev q8c8_52_4_10 : Oper := ⟨some 29, .indexAddr 24 (.tmp 20) (.tmp 21), 0, "l02_files.go:144", #[⟨1, .data⟩, ⟨2, .data⟩, ⟨0, .phase⟩, ⟨1, .phase⟩, ⟨2, .phase⟩, ⟨3, .phase⟩, ⟨4, .phase⟩, ⟨5, .phase⟩, ⟨6, .phase⟩, ⟨7, .phase⟩, ⟨8, .phase⟩, ⟨9, .phase⟩], none⟩
abbrev q8c8_52_4_11 : Oper := ⟨some 30, .fieldAddr 50 (.tmp 29) 2, 0, "l02_files.go:144", #[⟨10, .data⟩, ⟨0, .phase⟩, ⟨1, .phase⟩, ⟨2, .phase⟩, ⟨3, .phase⟩, ⟨4, .phase⟩, ⟨5, .phase⟩, ⟨6, .phase⟩, ⟨7, .phase⟩, ⟨8, .phase⟩, ⟨9, .phase⟩], none⟩
abbrev q8c8_52_4_12 : Oper := ⟨none, .store 3 (.tmp 30) (.tmp 28), 0, "l02_files.go:144", #[⟨11, .data⟩, ⟨9, .data⟩, ⟨0, .phase⟩, ⟨1, .phase⟩, ⟨2, .phase⟩, ⟨3, .phase⟩, ⟨4, .phase⟩, ⟨5, .phase⟩, ⟨6, .phase⟩, ⟨7, .phase⟩, ⟨8, .phase⟩, ⟨9, .phase⟩], none⟩
set_option maxHeartbeats 4000000 in
theorem implSync_c (cs : List Value) (m : MDisk) (s : ByteArray) (w : World) (hr : rDisk w.heap.size w cs m) (hs : s.size <= 9223372036854775807) (hw : wDisk m <= 1048576) (hw1 : s.size <= 1048576) :
  Calls Tryz.prog 52 #[.agg cs.toArray, .string s] w fun e w' => ∃ (cs' : List Value) (F : List Nat), e = .returned (.tuple #[.agg cs'.toArray, .int .i64 (callP m s)]) /\ oDisk w' cs' (syncP m s) F /\ F.Nodup /\ (∀ b, b ∈ F -> w.heap.size <= b) /\ Below w.heap.size w w' := by
 have hq := hr
 obtain ⟨a0, c0, a1, c1, a2, c2, rfl, hI, hNm, hSf, hnx, _⟩ := hq
 have hw2 : m.fInodes.length + sumW wInode m.fInodes + (m.fNames.length + sumW wEntry m.fNames) + (m.fSafe.length + sumW wEntry m.fSafe) <= 1048576 := hw
 have HW := Hm hw
 have HR := Hm hr
 clear hr hI hNm hSf hw
 go_enter Tryz.func52, Tryz.ntmps52
 go_wp2_with fail
 obtain ⟨wq, hwq⟩ : ∃ wq, wq = ((w.alloc (.cells #[.slice a0 m.fInodes.length c0, .slice a1 m.fNames.length c1, .slice a2 m.fSafe.length c2, .int .i64 m.fNext] 27)).alloc (.cells #[.slice none 0 0, .slice none 0 0, .slice none 0 0, .int .i64 0] 27)) := ⟨_, rfl⟩
 have hbW : Below w.heap.size w wq := by rw [hwq]; exact Below.alloc (Below.alloc rB (by exact rN) _) (by simp; try omega) _
 have hbd : Bw wq (w.heap.size) 27 [.slice a0 m.fInodes.length c0, .slice a1 m.fNames.length c1, .slice a2 m.fSafe.length c2, .int .i64 m.fNext] := by rw [hwq]; exact Bw.alloc (Bw.new' _ _ _ (by simp)) _
 have hbr : Bw wq (w.heap.size + 1) 27 [.slice none 0 0, .slice none 0 0, .slice none 0 0, .int .i64 0] := by rw [hwq]; exact Bw.new' _ _ _ (by simp)
 rw [<- hwq]
 clear hwq
 refine (findFile_any _ m s wq (rDisk_good.mono (rDisk_good.below HR.out hbW) hbW.size) HW.out hs).mono ?_
 rintro e w1 ⟨p, rfl, hp, hx1⟩
 have HP := Hm hp
 clear hp
 have hb1 := bthen hbW hx1
 have hbd1 := hbd.under hx1
 have hbr1 := hbr.under hx1
 obtain ⟨y0, y1, y2, y3⟩ := hbd1.c4
 clear hbd hbr
 go_wp2_with fail
 refine (copyDisk_any _ m w1 (rDisk_good.mono (rDisk_good.below HR.out hb1) hb1.size) HW.out).mono ?_
 rintro e w2 ⟨cs2, F2, rfl, ho2, hN2, hge2, hx2⟩
 obtain ⟨d0, e0, d1, e1, d2, e2, G0, G1, G2, rfl, o0, o1, o2, _, rfl⟩ := oDisk_cells ho2
 have HO0 := Hm o0
 have HO1 := Hm o1
 have HO2 := Hm o2
 have HO := Hm ho2
 have HN := Hm hN2
 have HGE : Hid (∀ b, b ∈ G0 ++ G1 ++ G2 ++ [] -> w1.heap.size <= b) := hge2
 have HLT : Hid (∀ b, b ∈ G0 ++ G1 ++ G2 ++ [] -> b < w2.heap.size) := fun b hb => oDisk_good.lt ho2 b hb
 clear ho2 hN2 hge2 o0 o1 o2
 have hb2 := bthen hb1 hx2
 have hbr2 := hbr1.under hx2
 have hz2 := hx2.size
 have hl1 := hbr1.lt
 have hB2 := hb2
 have hbd2 := hbd1.under hx2
 by_cases hC : callP m s = 0
 ·obtain ⟨hpl, hpi⟩ := HP.out hC
  have HPF := Hm (file_only hC hpl hpi)
  have HV : Hid (syncP m s = { m with fInodes := updI m.fInodes p sureI }) := by show _ = _; unfold syncP; rw [if_pos hC, HPF.out]
  obtain ⟨g, cap, hv, hgG, hgl⟩ := ownS.shape HO0.out (by omega)
  simp only [Value.slice.injEq, true_and] at hv
  obtain ⟨rfl, rfl⟩ := hv
  obtain ⟨cs3, Fk, o3, f3, n3, c3, z3⟩ := ownS.cells oInode_good HO0.out hpl
  obtain ⟨v3, F3, rfl, i3, b3, s3, rfl⟩ := o3
  obtain ⟨a3, l3, rfl, _⟩ := b3.read
  have k1 := c3 1 _ rfl
  have k2 := c3 2 _ rfl
  have r1 := z3 (p * 3 + 1)
  have r2 := z3 (p * 3 + 2)
  have hge1 := HGE.out g (by simp [hgG])
  have hdl : m.fInodes[p].fData.length <= 1048576 := by have h1 := sumW_le (f := wInode) hpl; have h2 : wInode m.fInodes[p] = m.fInodes[p].fData.length := rfl; omega
  obtain ⟨dn, hdn⟩ : ∃ dn, m.fInodes[p].fData.length = dn := ⟨_, rfl⟩
  rw [hdn] at k1 hdl
  have HDN := Hm hdn
  have HPL := Hm hpl
  have hpn : (0 : Int) <= (p : Int) := by omega
  have hpn2 : (p : Int) < (m.fInodes.length : Int) := by omega
  rw [hC]
  have HB2 := Hm hb2
  have HBR2 := Hm hbr2
  clear hdn c3 z3 n3 hbd1 hbr1 hbr2 hbd2 y0 y1 y2 y3 hpi hb2 hB2
  go_wp2_with fail
  obtain ⟨wo, hwo⟩ : ∃ wo, wo = w2.alloc (.cells #[.slice (some ⟨g, 0, none⟩) m.fInodes.length e0, .slice d1 m.fNames.length e1, .slice d2 m.fSafe.length e2, .int .i64 m.fNext] 27) := ⟨_, rfl⟩
  have hbo : Below w2.heap.size w2 wo := by rw [hwo]; exact rB.alloc rN _
  have hwb : Bw wo w2.heap.size 27 [.slice (some ⟨g, 0, none⟩) m.fInodes.length e0, .slice d1 m.fNames.length e1, .slice d2 m.fSafe.length e2, .int .i64 m.fNext] := by rw [hwo]; exact Bw.new _ _ _
  rw [<- hwo]
  clear hwo
  have k1o := (hbo.cell (p := ⟨g, p * 3 + 1, none⟩) hgl).trans k1
  have k2o := (hbo.cell (p := ⟨g, p * 3 + 2, none⟩) hgl).trans k2
  have r2o := (hbo.frozen (p := ⟨g, p * 3 + 2, none⟩) hgl).trans r2
  have x0 := hwb.cell 0 _ rfl
  clear k1 k2 r2 r1
  have HG1 : Hid (g ≠ w2.heap.size) := by show _ ≠ _; omega
  refine wp_region_held_drew (S := fun W => W.cell? ⟨w2.heap.size, 0, none⟩ = some (.slice (some ⟨g, 0, none⟩) m.fInodes.length e0) /\ W.cell? ⟨g, p * 3 + 1, none⟩ = some (.slice a3 dn l3) /\ Turn [g] wo W) (by kernel_rfl) (⟨x0, k1o, Turn.ofBelow (Below.drew rB)⟩) (fun hZ => ?_)
  refine uq 0 q8c8_52_4_0 19 hZ ?_
  refine uq 1 q8c8_52_4_1 20 hZ ?_
  refine uq 2 q8c8_52_4_2 21 hZ ?_
  refine uq 3 q8c8_52_4_3 22 hZ ?_
  refine uq 4 q8c8_52_4_4 23 hZ ?_
  refine uq 5 q8c8_52_4_5 24 hZ ?_
  refine uq 6 q8c8_52_4_6 25 hZ ?_
  refine uq 7 q8c8_52_4_7 26 hZ ?_
  refine uq 8 q8c8_52_4_8 27 hZ ?_
  refine uq 9 q8c8_52_4_9 28 hZ ?_
  refine uq 10 q8c8_52_4_10 29 hZ ?_
  refine uq 11 q8c8_52_4_11 30 hZ ?_
  refine ar1 12 q8c8_52_4_12 fun K hK => ?_
  go_simp
  go_simp
  refine hK.out _ _ (⟨(World.cell?_setCell_other _ _ _ _ (fun h => HG1.out (congrArg Addr.block h))).trans x0, (World.cell?_setCell_other _ _ _ _ (fun h => by have := congrArg Addr.off h; simp at this)).trans k1o, Turn.drew (Turn.setCell (F := [g]) (a := wo) (b := wo) (p := ⟨g, p * 3 + 2, none⟩) (Turn.refl _ _) (by simp) (.int .i64 dn))⟩) (fun hZ => ?_)
  clear hK K
  try simp only[Act.put,sa,s0,s1]
  refine wpAnyH_done (by kernel_rfl) ?_ _
  obtain ⟨w3, hw3⟩ : ∃ w3, w3 = (wo.setCell ⟨g, p * 3 + 2, none⟩ (.int .i64 dn)).drew := ⟨_, rfl⟩
  have hT3 : Turn [g] wo w3 := by rw [hw3]; exact Turn.drew (Turn.setCell (F := [g]) (a := wo) (b := wo) (p := ⟨g, p * 3 + 2, none⟩) (Turn.refl _ _) (by simp) _)
  have hwb3 := hwb.turn hT3 (by simp; omega)
  have hbr3 := (HBR2.out.under hbo).turn hT3 (by simp; omega)
  have hB3 : Below w.heap.size w w3 := (bthen HB2.out hbo).trans (hT3.below (fun k hk => by simp at hk; have := HB2.out.size; omega) (bthen HB2.out hbo).size)
  have HPL2 := HPL
  have hod : ∃ F', oDisk w3 [.slice (some ⟨g, 0, none⟩) m.fInodes.length e0, .slice d1 m.fNames.length e1, .slice d2 m.fSafe.length e2, .int .i64 m.fNext] (syncP m s) F' /\ F'.Nodup /\ ∀ b, b ∈ F' -> b ∈ G0 ++ G1 ++ G2 := by
   have hfr : ∀ b, b ∈ G0 ++ G1 ++ G2 -> b < w2.heap.size := fun b hb => HLT.out b (by simpa using hb)
   have q0 := ownS.frame (w' := wo) oInode_good HO0.out (fun b hb => hbo.block b (hfr b (by simp [hb])))
   have q1 := ownS.frame (w' := wo) oEntry_good HO1.out (fun b hb => hbo.block b (hfr b (by simp [hb])))
   have q2 := ownS.frame (w' := wo) oEntry_good HO2.out (fun b hb => hbo.block b (hfr b (by simp [hb])))
   have hsf : ∀ n : MInode, n.fData.length = dn -> (sureI n).fSure = (dn : Int) := fun n h => by unfold sureI; simp [h]
   obtain ⟨F', o1, o2, o3, _⟩ := oDisk_inode q0 q1 q2 hnx HN.out HPL.out (i := 2) (by omega) (.int .i64 dn) sureI [] (fun b hb => by cases hb) (fun cs Fk h hN => by
    obtain ⟨v, F, rfl, q1, q2, q3, rfl⟩ := h
    refine ⟨F ++ [], ⟨v, F, ?_, q1, q2, ?_, rfl⟩, hN, fun b hb => .inl hb⟩
    ·rw [hsf _ HDN.out]
     rfl
    ·rw [hsf _ HDN.out]
     exact WalkArith.wf_i64 (by omega))
   refine ⟨F', ?_, o2, fun b hb => ?_⟩
   ·rw [HV.out, hw3]
    exact o1
   ·rcases o3 b hb with h | h
    ·exact h
    ·cases h
  obtain ⟨F3x, hO3, hN3, hS3⟩ := hod
  have hG3 : ∀ b, b ∈ F3x -> w.heap.size + 2 <= b := fun b hb => by have := HGE.out b (by simpa using hS3 b hb); have := hb1.size; omega
  have HCz := Hm hC
  rw [<- hw3]
  clear hw3 hC hZ x0 k1o k2o r2o
  have zo0 := hwb3.cell 0 _ rfl
  have ze0 := hbr3.cell 0 _ rfl
  have zf0 := hbr3.free 0
  have zo1 := hwb3.cell 1 _ rfl
  have ze1 := hbr3.cell 1 _ rfl
  have zf1 := hbr3.free 1
  have zo2 := hwb3.cell 2 _ rfl
  have ze2 := hbr3.cell 2 _ rfl
  have zf2 := hbr3.free 2
  have zo3 := hwb3.cell 3 _ rfl
  have ze3 := hbr3.cell 3 _ rfl
  have zf3 := hbr3.free 3
  have hTf := turn4 w3 (w.heap.size + 1) (.slice (some ⟨g, 0, none⟩) m.fInodes.length e0) (.slice d1 m.fNames.length e1) (.slice d2 m.fSafe.length e2) (.int .i64 m.fNext)
  have HTf := Hm hTf
  have HBf := Hm hB3
  clear hTf
  go_wp2_with fail
  refine bodyPost_ret (v := .tuple #[.agg #[.slice (some ⟨g, 0, none⟩) m.fInodes.length e0, .slice d1 m.fNames.length e1, .slice d2 m.fSafe.length e2, .int .i64 m.fNext], .int .i64 0]) (by simp [results, Tryz.results52, go_sem, *]) rfl ⟨[.slice (some ⟨g, 0, none⟩) m.fInodes.length e0, .slice d1 m.fNames.length e1, .slice d2 m.fSafe.length e2, .int .i64 m.fNext], F3x, by rw [HCz.out], ?_, hN3, ?_, ?_⟩
  ·exact oDisk_good.frame (hO3) (fun b hb => HTf.out.block b (oDisk_good.lt (hO3) b hb) (by intro h; simp at h; have := hG3 b hb; omega))
  ·intro b hb
   have := hG3 b hb
   omega
  ·exact HBf.out.trans (HTf.out.below (fun k hk => by simp at hk; omega) HBf.out.size)
 ·have HV : Hid (syncP m s = m) := by show _ = _; unfold syncP; rw [if_neg hC]
  have hcn : (callP m s == 0) = false := beq_eq_false_iff_ne.2 hC
  clear HP
  obtain ⟨cp, hcp⟩ : ∃ cp, callP m s = cp := ⟨_, rfl⟩
  rw [hcp] at hcn ⊢
  have HCP := Hm hcp
  clear hcp hC
  obtain ⟨ze0, zf0, ze1, zf1, ze2, zf2, ze3, zf3⟩ := hbr2.c8
  have hlt0 := hbr2.lt
  have hO3 : oDisk w2 [.slice d0 m.fInodes.length e0, .slice d1 m.fNames.length e1, .slice d2 m.fSafe.length e2, .int .i64 m.fNext] (syncP m s) (G0 ++ G1 ++ G2 ++ []) := by rw [HV.out]; exact HO.out
  have hG3 : ∀ b, b ∈ G0 ++ G1 ++ G2 ++ [] -> w.heap.size + 2 <= b := fun b hb => by have := HGE.out b hb; omega
  have HBf := Hm hb2
  have HO3 := Hm hO3
  clear hO3
  go_wp2_with fail
  refine bodyPost_ret (v := .tuple #[.agg #[.slice d0 m.fInodes.length e0, .slice d1 m.fNames.length e1, .slice d2 m.fSafe.length e2, .int .i64 m.fNext], .int .i64 cp]) (by simp [results, Tryz.results52, go_sem, *]) rfl ⟨[.slice d0 m.fInodes.length e0, .slice d1 m.fNames.length e1, .slice d2 m.fSafe.length e2, .int .i64 m.fNext], G0 ++ G1 ++ G2 ++ [], by first | rfl | rw [HCP.out], ?_, HN.out, ?_, ?_⟩
  ·exact oDisk_good.frame HO3.out (fun b hb => (show Turn [w.heap.size + 1] w2 _ from by repeat (first | with_reducible exact Turn.refl _ _ | with_reducible refine Turn.setCell ?_ (by simp) _ | with_reducible refine Turn.alloc ?_ _ | with_reducible refine Turn.drew ?_)).block b (oDisk_good.lt HO3.out b hb) (by intro h; simp at h; have := hG3 b hb; omega))
  ·intro b hb
   have := hG3 b hb
   omega
  ·exact HBf.out.trans ((show Turn [w.heap.size + 1] w2 _ from by repeat (first | with_reducible exact Turn.refl _ _ | with_reducible refine Turn.setCell ?_ (by simp) _ | with_reducible refine Turn.alloc ?_ _ | with_reducible refine Turn.drew ?_)).below (fun k hk => by simp at hk; omega) HBf.out.size)
set_option maxHeartbeats 2000000 in
theorem formOk2_any (cs : List Value) (m : MDisk) (a : Option Addr) (c : Nat) (s t : ByteArray) (w : World) (hr : rDisk w.heap.size w cs m) (hw : wDisk m <= 1048576) (hs : s.size <= 9223372036854775807) (ht : t.size <= 9223372036854775807) (ha : ∃ b, a = some ⟨b, 0, none⟩ /\ b < w.heap.size /\ w.cell? ⟨b, 0, none⟩ = some (.string s) /\ w.cell? ⟨b, 1, none⟩ = some (.string t)) :
  Calls Tryz.prog 44 #[.agg cs.toArray, .slice a 2 c] w fun e w' => e = .returned (.bool (diskOk m && nameOk s && nameOk t)) /\ Below w.heap.size w w' := by
 have hq := hr
 obtain ⟨a0, c0, a1, c1, a2, c2, rfl, _⟩ := hq
 obtain ⟨b, rfl, hbl, hcs, hct⟩ := ha
 have HW := Hm hw
 have HR := Hm hr
 clear hr hw
 have hCd := fun W (hb : Below w.heap.size w W) => implDiskOk_c _ m W (rDisk_good.mono (rDisk_good.below HR.out hb) hb.size) HW.out
 have hbA := (Below.refl w.heap.size w).alloc rN (.cells #[.slice a0 m.fInodes.length c0, .slice a1 m.fNames.length c1, .slice a2 m.fSafe.length c2, .int .i64 m.fNext] 27)
 go_enter Tryz.func44, Tryz.ntmps44
 go_wp2_with fail
 refine wp_loop_rounds 3 ?_
 rw [rounds_succ]
 go_wp2_with fail
 refine (implNameOk_any s _ hs).mono ?_
 rintro e w1 ⟨rfl, hx1⟩
 have hb1 := bthen hbA hx1
 have hbx := (Bx.new w [.slice a0 m.fInodes.length c0, .slice a1 m.fNames.length c1, .slice a2 m.fSafe.length c2, .int .i64 m.fNext] 27).under hx1
 have hct1 := (hb1.cell (p := ⟨b, 1, none⟩) hbl).trans hct
 by_cases hN : nameOk s = true
 ·rw [hN]
  go_wp2_with fail
  rw [rounds_succ]
  go_wp2_with fail
  refine (implNameOk_any t _ ht).mono ?_
  rintro e w2 ⟨rfl, hx2⟩
  have hb2 := bthen hb1 hx2
  have hbx2 := hbx.under hx2
  have y0 := hbx2.2 0 _ rfl
  have y1 := hbx2.2 1 _ rfl
  have y2 := hbx2.2 2 _ rfl
  have y3 := hbx2.2 3 _ rfl
  by_cases hM : nameOk t = true
  ·rw [hM]
   go_wp2_with fail
   rw [rounds_succ]
   go_wp2_with fail
   refine Calls.mono (hCd _ hb2) ?_
   rintro e w3 ⟨rfl, hx3⟩
   go_wp2_with fail
   go_ret
   exact ⟨by rw [hN, hM, Bool.and_true, Bool.and_true]; rfl, bthen hb2 hx3⟩
  ·have hM2 : nameOk t = false := Bool.eq_false_iff.2 hM
   rw [hM2]
   go_wp2_with fail
   go_ret
   exact ⟨by rw [hM2, Bool.and_false]; rfl, hb2⟩
 ·have hN2 : nameOk s = false := Bool.eq_false_iff.2 hN
  rw [hN2]
  go_wp2_with fail
  go_ret
  exact ⟨by rw [hN2, Bool.and_false, Bool.false_and]; rfl, hb1⟩
set_option maxHeartbeats 4000000 in
theorem implRename_c (cs : List Value) (m : MDisk) (s t : ByteArray) (w : World) (hr : rDisk w.heap.size w cs m) (hs : s.size <= 9223372036854775807) (ht : t.size <= 9223372036854775807) (hw : wDisk m <= 1048576) (hw1 : s.size <= 1048576) (hwt1 : t.size <= 1048576) :
  Calls Tryz.prog 54 #[.agg cs.toArray, .string s, .string t] w fun e w' => ∃ (cs' : List Value) (F : List Nat), e = .returned (.tuple #[.agg cs'.toArray, .int .i64 (renameC m s t)]) /\ oDisk w' cs' (renameP m s t) F /\ F.Nodup /\ (∀ b, b ∈ F -> w.heap.size <= b) /\ Below w.heap.size w w' := by
 have hq := hr
 obtain ⟨a0, c0, a1, c1, a2, c2, rfl, hI, hNm, hSf, hnx, _⟩ := hq
 have hw2 : m.fInodes.length + sumW wInode m.fInodes + (m.fNames.length + sumW wEntry m.fNames) + (m.fSafe.length + sumW wEntry m.fSafe) <= 1048576 := hw
 have HW := Hm hw
 have HR := Hm hr
 have HNM := Hm hNm
 clear hr hI hNm hSf hw
 go_enter Tryz.func54, Tryz.ntmps54
 go_wp2_with fail
 obtain ⟨wq, hwq⟩ : ∃ wq, wq = ((w.alloc (.cells #[.slice a0 m.fInodes.length c0, .slice a1 m.fNames.length c1, .slice a2 m.fSafe.length c2, .int .i64 m.fNext] 27)).alloc (.cells #[.slice none 0 0, .slice none 0 0, .slice none 0 0, .int .i64 0] 27)) := ⟨_, rfl⟩
 have hbW : Below w.heap.size w wq := by rw [hwq]; exact Below.alloc (Below.alloc rB (by exact rN) _) (by simp; try omega) _
 have hbd : Bw wq (w.heap.size) 27 [.slice a0 m.fInodes.length c0, .slice a1 m.fNames.length c1, .slice a2 m.fSafe.length c2, .int .i64 m.fNext] := by rw [hwq]; exact Bw.alloc (Bw.new' _ _ _ (by simp)) _
 have hbr : Bw wq (w.heap.size + 1) 27 [.slice none 0 0, .slice none 0 0, .slice none 0 0, .int .i64 0] := by rw [hwq]; exact Bw.new' _ _ _ (by simp)
 have HQS : Hid (wq.heap.size = w.heap.size + 1 + 1) := by show _ = _; rw [hwq]; simp
 rw [<- hwq]
 clear hwq
 have hbL : Below wq.heap.size wq (wq.alloc (.cells #[.string s, .string t] 9)) := rB.alloc rN _
 have hbB := bthen hbW hbL
 have hfa : ∃ b, (some ⟨w.heap.size + 1 + 1, 0, none⟩ : Option Addr) = some ⟨b, 0, none⟩ /\ b < (wq.alloc (.cells #[.string s, .string t] 9)).heap.size /\ (wq.alloc (.cells #[.string s, .string t] 9)).cell? ⟨b, 0, none⟩ = some (.string s) /\ (wq.alloc (.cells #[.string s, .string t] 9)).cell? ⟨b, 1, none⟩ = some (.string t) := by
  rw [<- HQS.out]
  exact ⟨wq.heap.size, rfl, by simp, by simp, by simp⟩
 refine (formOk2_any _ m (some ⟨w.heap.size + 1 + 1, 0, none⟩) 2 s t _ (rDisk_good.mono (rDisk_good.below HR.out hbB) hbB.size) HW.out hs ht hfa).mono ?_
 clear hfa
 rintro e w1 ⟨rfl, hx1'⟩
 have hx1 := bthen hbL hx1'
 have hb1 := bthen hbW hx1
 have hbd1 := hbd.under hx1
 have hbr1 := hbr.under hx1
 have hl1 := hbd1.lt
 have hl1r := hbr1.lt
 obtain ⟨y0, y1, y2, y3⟩ := hbd1.c4
 clear hbd hbr hbL hbB hx1'
 by_cases hF : (diskOk m && nameOk s && nameOk t) = true
 ·have hF2 := hF
  rw [Bool.and_eq_true, Bool.and_eq_true] at hF2
  obtain ⟨⟨hK, hNs⟩, hNt⟩ := hF2
  have hDR := diskOk_iff.1 hK
  have hRi : Rise m.fNames := hDR.names.rise
  have HNO := Hm (fun i j hi hj he => names_once hRi (i := i) (j := j) hi hj he)
  have HRI0 := Hm hRi
  have HDR := Hm hDR
  have HNT := Hm hNt
  have HCA : Hid (renameC m s t = if hasName m.fNames s = true then 0 else 2) := by
   show _ = _
   unfold renameC callP
   rw [if_pos hNt, hK, hNs]
   rfl
  rw [hF]
  clear hF hK hNs hNt hDR hRi
  go_wp2_with fail
  refine (nameMap_any a1 m.fNames.length c1 m.fNames w1 rfl (LeafL.mono rEntry_good (HNM.out.below rEntry_good hb1) hb1.size) (by omega)).mono ?_
  rintro e w2 ⟨Dm, rfl, hown, hNM, hx2⟩
  have HNM2 := Hm hNM
  clear hNM
  have hb2 := bthen hb1 hx2
  have hbd2 := hbd1.under hx2
  have hbr2 := hbr1.under hx2
  have hl2 := hbd2.lt
  have hl2r := hbr2.lt
  have hz2 := hx2.size
  have hzb1 := hb1.size
  clear y0 y1 y2 y3 hbd1 hbr1
  obtain ⟨y0, y1, y2, y3⟩ := hbd2.c4
  by_cases hH : hasName m.fNames s = true
  ·have HC0 : Hid (renameC m s t = 0) := by show _ = _; rw [HCA.out, if_pos hH]
   have HV : Hid (renameP m s t = keepD { m with fNames := renameN m s t }) := by show _ = _; unfold renameP renameD; rw [if_pos HC0.out]
   obtain ⟨hk, hnm⟩ := hasName_at hH
   have hid : idOf m.fNames s = m.fNames[nameAt m.fNames s].fId := by unfold idOf; rw [List.getElem?_eq_getElem hk]; rfl
   have hhs : Maps.has Dm (kS s) = true := (HNM2.out.2 s).1.2 ⟨_, hk, hk, hnm⟩
   have HC : Hid (Dm.atKey (kS s) (.lit (.int .i64 0)) = .lit (.int .i64 (idOf m.fNames s))) := by
    obtain ⟨j, hj, _, he, ha⟩ := (HNM2.out.2 s).2 hhs
    have : j = nameAt m.fNames s := HNO.out j _ hj hk (he.trans hnm.symm)
    subst this
    show Dm.atKey _ _ = _
    rw [ha, hid]
   have h3 := renameN_ok HDR.out hH HNT.out
   have HRI : Hid (Rise (renameN m s t)) := h3.1.rise
   have HLN : Hid ((renameN m s t).length <= 1000) := by show _ <= _; have := h3.2; omega
   have hwt := ok_weight (diskOk_iff.2 HDR.out)
   have h7 := sumW_names (fun e he => (h3.1.1 e he).2)
   have h8 := h3.2
   have HWN : Hid (wDisk { m with fNames := renameN m s t } <= 1048576) := by
    show _ <= _
    rw [wDisk_eq]
    simp only
    omega
   have HM : Hid (MapIs ((Dm.del (kS s)).put (kS t) (.lit (.int .i64 (idOf m.fNames s)))) (renameN m s t)) := ((MapIs.ofN rfl HNM2.out HRI0.out).del s).put ⟨t, idOf m.fNames s⟩
   have hkey := keyStr hs
   have hkeyt := keyStr ht
   have hnl : m.fNames.length <= 30 := hwt.2.2.1
   clear hid hk hnm hH h3 h7 h8 hwt
   go_wp2_with first
    | (at_lookup; refine wpList_lookup_own_ok_int _ rfl _ _ 77 rfl 9 3 .i64 lawStr Tryz.underlying77 Tryz.underlying3 (zeroInt _) w1.heap.size m.fNames.length Dm rfl hown _ _ rfl hkey ?_; intro c hat hwc; have hce : c = idOf m.fNames s := (by rw [HC.out] at hat; simp only [DataW.lit.injEq, Lit.int.injEq, true_and] at hat; exact hat.symm); subst hce; clear hat)
    | (at_delete; refine wpList_delete_own _ rfl _ _ 77 9 rfl 3 lawStr Tryz.underlying77 _ w1.heap.size m.fNames.length Dm rfl hown _ _ rfl hkey ?_; intro w3 hown3 hturn3; have hT3 : Turn [w1.heap.size] w2 w3 := Turn.ofGrown hturn3.grown (fun k hk => by cases hk; simp))
    | (at_mapUpdate; refine wpList_mapUpdate_own _ rfl _ _ _ 77 rfl 9 3 lawStr Tryz.underlying77 _ w1.heap.size m.fNames.length _ rfl hown3 (by unfold maxLen; omega) _ _ _ rfl rfl hkeyt _ [] (plainElem_int Tryz.underlying3 hwc) ?_; intro w4 hown4 hgrow4; have hT4 : Turn [w1.heap.size] w2 w4 := hT3.trans (Turn.ofGrown hgrow4 (fun k hk => by cases hk; simp)); have hbd3 := hbd2.turn hT4 (by simp; omega); have hbr3 := hbr2.turn hT4 (by simp; omega); have yy0 := hbd3.cell 0 _ rfl; have yy1 := hbd3.cell 1 _ rfl; have yy2 := hbd3.cell 2 _ rfl; have yy3 := hbd3.cell 3 _ rfl)
   have hb3 : Below w.heap.size w w4 := hb2.trans (hT4.below (fun k hk => by simp at hk; omega) hb2.size)
   clear y0 y1 y2 y3 hown hown3 hturn3 hgrow4
   obtain ⟨kd, hkd⟩ : ∃ kd, kd = keepD { m with fNames := renameN m s t } := ⟨_, rfl⟩
   have HKD := Hm hkd
   clear hkd
   have hcall := withNames_any _ m w1.heap.size _ _ (renameN m s t) w4 (rDisk_good.mono (rDisk_good.below HR.out hb3) hb3.size) hown4 HM.out HRI.out HLN.out HWN.out
   rw [<- HKD.out] at hcall
   clear hown4
   refine hcall.mono ?_
   rintro e w5 ⟨cs3, F3, rfl, ho3, hN3, hge3, hx5⟩
   have hb5 := bthen hb3 hx5
   have hbr5 := hbr3.under hx5
   have hl5 := hbr5.lt
   have hz5 := hb3.size
   have hlq5 := hbr3.lt
   obtain ⟨q0, p0, q1, p1, q2, p2, G0, G1, G2, rfl, _, _, _, _, rfl⟩ := oDisk_cells ho3
   have hkey : ∀ W', Turn [w.heap.size + 1] w5 W' -> oDisk W' [.slice q0 (kd).fInodes.length p0, .slice q1 (kd).fNames.length p1, .slice q2 (kd).fSafe.length p2, .int .i64 (kd).fNext] (kd) (G0 ++ G1 ++ G2 ++ []) /\ Below w.heap.size w W' := fun W' hT =>
    ⟨oDisk_good.frame ho3 (fun b hb => hT.block b (oDisk_good.lt ho3 b hb) (fun h => by simp at h; have := hge3 b hb; omega)), hb5.trans (hT.below (fun k hk => by simp at hk; omega) hb5.size)⟩
   have HKEY := Hm hkey
   have HNQ := Hm hN3
   have HGQ : Hid (∀ b, b ∈ G0 ++ G1 ++ G2 ++ [] -> w.heap.size <= b) := fun b hb => by have := hge3 b hb; omega
   clear hkey ho3 hN3 hge3 
   obtain ⟨ze0, ze1, ze2, ze3⟩ := hbr5.c4
   obtain ⟨zf0, zf1, zf2, zf3⟩ := hbr5.f4
   go_wp2_with fail
   obtain ⟨h1, h3⟩ := HKEY.out _ (show Turn [w.heap.size + 1] w5 ((((w5.setCell ⟨w.heap.size + 1, 0, none⟩ (.slice q0 (kd).fInodes.length p0)).setCell ⟨w.heap.size + 1, 1, none⟩ (.slice q1 (kd).fNames.length p1)).setCell ⟨w.heap.size + 1, 2, none⟩ (.slice q2 (kd).fSafe.length p2)).setCell ⟨w.heap.size + 1, 3, none⟩ (.int .i64 (kd).fNext)) from turn4 _ _ _ _ _ _)
   exact bodyPost_ret (v := .tuple #[.agg #[.slice q0 (kd).fInodes.length p0, .slice q1 (kd).fNames.length p1, .slice q2 (kd).fSafe.length p2, .int .i64 (kd).fNext], .int .i64 0]) (by simp [results, Tryz.results54, go_sem, *]) rfl ⟨[.slice q0 (kd).fInodes.length p0, .slice q1 (kd).fNames.length p1, .slice q2 (kd).fSafe.length p2, .int .i64 (kd).fNext], _, by rw [HC0.out], by rw [HV.out, <- HKD.out]; exact h1, HNQ.out, HGQ.out, h3⟩
  ·have HC2 : Hid (renameC m s t = 2) := by show _ = _; rw [HCA.out, if_neg hH]
   have HV : Hid (renameP m s t = m) := by show _ = _; unfold renameP; rw [HC2.out]; rfl
   have hhs : Maps.has Dm (kS s) = false := by
    rw [Bool.eq_false_iff]
    intro h
    obtain ⟨j, hj, _, he⟩ := (HNM2.out.2 s).1.1 h
    exact hH (hasName_yes hj he)
   have hkey := keyStr hs
   clear hH
   go_wp2_with (at_lookup; refine wpList_lookup_own_ok_int _ rfl _ _ 77 rfl 9 3 .i64 lawStr Tryz.underlying77 Tryz.underlying3 (zeroInt _) w1.heap.size m.fNames.length Dm rfl hown _ _ rfl hkey ?_; intro c hat hwc)
   refine (copyDisk_any _ (m) w2 (rDisk_good.mono (rDisk_good.below HR.out hb2) hb2.size) HW.out).mono ?_
   rintro e w3 ⟨cs3, F3, rfl, ho3, hN3, hge3, hx3⟩
   have hb3 := bthen hb2 hx3
   have hbr3 := hbr2.under hx3
   have hl3 := hbr3.lt
   have hz3 := hb2.size
   have hlq3 := hbr2.lt
   obtain ⟨q0, p0, q1, p1, q2, p2, G0, G1, G2, rfl, _, _, _, _, rfl⟩ := oDisk_cells ho3
   have hkey : ∀ W', Turn [w.heap.size + 1] w3 W' -> oDisk W' [.slice q0 m.fInodes.length p0, .slice q1 m.fNames.length p1, .slice q2 m.fSafe.length p2, .int .i64 m.fNext] (m) (G0 ++ G1 ++ G2 ++ []) /\ Below w.heap.size w W' := fun W' hT =>
    ⟨oDisk_good.frame ho3 (fun b hb => hT.block b (oDisk_good.lt ho3 b hb) (fun h => by simp at h; have := hge3 b hb; omega)), hb3.trans (hT.below (fun k hk => by simp at hk; omega) hb3.size)⟩
   have HKEY := Hm hkey
   have HNQ := Hm hN3
   have HGQ : Hid (∀ b, b ∈ G0 ++ G1 ++ G2 ++ [] -> w.heap.size <= b) := fun b hb => by have := hge3 b hb; omega
   clear hkey ho3 hN3 hge3 
   obtain ⟨ze0, ze1, ze2, ze3⟩ := hbr3.c4
   obtain ⟨zf0, zf1, zf2, zf3⟩ := hbr3.f4
   go_wp2_with fail
   obtain ⟨h1, h3⟩ := HKEY.out _ (show Turn [w.heap.size + 1] w3 ((((w3.setCell ⟨w.heap.size + 1, 0, none⟩ (.slice q0 m.fInodes.length p0)).setCell ⟨w.heap.size + 1, 1, none⟩ (.slice q1 m.fNames.length p1)).setCell ⟨w.heap.size + 1, 2, none⟩ (.slice q2 m.fSafe.length p2)).setCell ⟨w.heap.size + 1, 3, none⟩ (.int .i64 m.fNext)) from turn4 _ _ _ _ _ _)
   exact bodyPost_ret (v := .tuple #[.agg #[.slice q0 m.fInodes.length p0, .slice q1 m.fNames.length p1, .slice q2 m.fSafe.length p2, .int .i64 m.fNext], .int .i64 2]) (by simp [results, Tryz.results54, go_sem, *]) rfl ⟨[.slice q0 m.fInodes.length p0, .slice q1 m.fNames.length p1, .slice q2 m.fSafe.length p2, .int .i64 m.fNext], _, by rw [HC2.out], by rw [HV.out]; exact h1, HNQ.out, HGQ.out, h3⟩
 ·have hF2 : (diskOk m && nameOk s && nameOk t) = false := Bool.eq_false_iff.2 hF
  have HC1 : Hid (renameC m s t = 1) := by
   show _ = _
   unfold renameC callP
   by_cases h1 : nameOk t = true
   ·rw [h1, Bool.and_true] at hF2
    rw [if_pos h1, hF2]
    rfl
   ·rw [if_neg h1]
  have HV : Hid (renameP m s t = m) := by show _ = _; unfold renameP; rw [HC1.out]; rfl
  rw [hF2]
  clear hF hF2
  go_wp2_with fail
  refine (copyDisk_any _ (m) w1 (rDisk_good.mono (rDisk_good.below HR.out hb1) hb1.size) HW.out).mono ?_
  rintro e w2 ⟨cs3, F3, rfl, ho3, hN3, hge3, hx2⟩
  have hb2 := bthen hb1 hx2
  have hbr2 := hbr1.under hx2
  have hl2 := hbr2.lt
  have hz2 := hb1.size
  have hlq2 := hbr1.lt
  obtain ⟨q0, p0, q1, p1, q2, p2, G0, G1, G2, rfl, _, _, _, _, rfl⟩ := oDisk_cells ho3
  have hkey : ∀ W', Turn [w.heap.size + 1] w2 W' -> oDisk W' [.slice q0 m.fInodes.length p0, .slice q1 m.fNames.length p1, .slice q2 m.fSafe.length p2, .int .i64 m.fNext] (m) (G0 ++ G1 ++ G2 ++ []) /\ Below w.heap.size w W' := fun W' hT =>
   ⟨oDisk_good.frame ho3 (fun b hb => hT.block b (oDisk_good.lt ho3 b hb) (fun h => by simp at h; have := hge3 b hb; omega)), hb2.trans (hT.below (fun k hk => by simp at hk; omega) hb2.size)⟩
  have HKEY := Hm hkey
  have HNQ := Hm hN3
  have HGQ : Hid (∀ b, b ∈ G0 ++ G1 ++ G2 ++ [] -> w.heap.size <= b) := fun b hb => by have := hge3 b hb; omega
  clear hkey ho3 hN3 hge3 
  obtain ⟨ze0, ze1, ze2, ze3⟩ := hbr2.c4
  obtain ⟨zf0, zf1, zf2, zf3⟩ := hbr2.f4
  go_wp2_with fail
  obtain ⟨h1, h3⟩ := HKEY.out _ (show Turn [w.heap.size + 1] w2 ((((w2.setCell ⟨w.heap.size + 1, 0, none⟩ (.slice q0 m.fInodes.length p0)).setCell ⟨w.heap.size + 1, 1, none⟩ (.slice q1 m.fNames.length p1)).setCell ⟨w.heap.size + 1, 2, none⟩ (.slice q2 m.fSafe.length p2)).setCell ⟨w.heap.size + 1, 3, none⟩ (.int .i64 m.fNext)) from turn4 _ _ _ _ _ _)
  exact bodyPost_ret (v := .tuple #[.agg #[.slice q0 m.fInodes.length p0, .slice q1 m.fNames.length p1, .slice q2 m.fSafe.length p2, .int .i64 m.fNext], .int .i64 1]) (by simp [results, Tryz.results54, go_sem, *]) rfl ⟨[.slice q0 m.fInodes.length p0, .slice q1 m.fNames.length p1, .slice q2 m.fSafe.length p2, .int .i64 m.fNext], _, by rw [HC1.out], by rw [HV.out]; exact h1, HNQ.out, HGQ.out, h3⟩
end Go.Proofs.YtegonncmopecnaaGreatDoor

namespace Go.Proofs.YtegonncmopecnaaGreatDoor
open Go.RowKit
set_option maxHeartbeats 2000000 in
theorem sw1_any (cs : List Value) (m : MDisk) (t : ByteArray)  (bT : Nat) (w : World) (hr : rDisk w.heap.size w cs m) (hw : wDisk m <= 1048576) (ht : t.size <= 1048576) (hbT : Bx w bT [.string t]) :
  Calls Tryz.prog 48 #[.agg cs.toArray, .pointer (some ⟨bT, 0, none⟩)] w fun e w' => ∃ (cs' : List Value) (F : List Nat), e = .returned (.tuple #[.agg cs'.toArray, .int .i64 (createC m t)]) /\ oDisk w' cs' (createP m t) F /\ F.Nodup /\ (∀ b, b ∈ F -> w.heap.size <= b) /\ Below w.heap.size w w' := by
 have hq := hr
 obtain ⟨a0, c0, a1, c1, a2, c2, rfl, hI, hNm, hSf, hnx, _⟩ := hq
 have HW := Hm hw
 have HR := Hm hr
 clear hr hI hNm hSf hw
 obtain ⟨wq, hwq⟩ : ∃ wq, wq = ((w.alloc (.cells #[.slice a0 m.fInodes.length c0, .slice a1 m.fNames.length c1, .slice a2 m.fSafe.length c2, .int .i64 m.fNext] 27)).alloc (.cells #[.slice none 0 0, .slice none 0 0, .slice none 0 0, .int .i64 0] 27)) := ⟨_, rfl⟩
 have hbW : Below w.heap.size w wq := by rw [hwq]; exact Below.alloc (Below.alloc rB (by exact rN) _) (by simp; try omega) _
 have hbr : Bw wq (w.heap.size + 1) 27 [.slice none 0 0, .slice none 0 0, .slice none 0 0, .int .i64 0] := by rw [hwq]; exact Bw.new' _ _ _ (by simp)
 have k0 : (((w.alloc (.cells #[.slice a0 m.fInodes.length c0, .slice a1 m.fNames.length c1, .slice a2 m.fSafe.length c2, .int .i64 m.fNext] 27)).alloc (.cells #[.slice none 0 0, .slice none 0 0, .slice none 0 0, .int .i64 0] 27))).cell? ⟨bT, 0, none⟩ = some (.string t) := by have h := (hbT.under hbW).2 0 _ rfl; rw [hwq] at h; exact h
 have n0 := hbT.1
 go_enter Tryz.func48, Tryz.ntmps48
 go_wp2_with fail
 rw [<- hwq]
 clear hwq k0
 refine (implCreate_c _ m t wq (rDisk_good.mono (rDisk_good.below HR.out hbW) hbW.size) (by omega) HW.out ht).mono ?_
 obtain ⟨D2, hD2⟩ : ∃ D2, D2 = createP m t := ⟨_, rfl⟩
 obtain ⟨C2, hC2⟩ : ∃ C2, C2 = createC m t := ⟨_, rfl⟩
 rw [<- hD2, <- hC2]
 have HD2 := Hm hD2
 have HC2 := Hm hC2
 clear hD2 hC2
 rintro e w2 ⟨cs4, F4, rfl, ho4, hN4, hge4, hy2⟩
 obtain ⟨q0, p0', q1, p1', q2, p2', E0, E1, E2, rfl, _, _, _, _, rfl⟩ := oDisk_cells ho4
 have hbr2 := hbr.under hy2
 have hl2 := hbr2.lt
 obtain ⟨e0, f0, e1, f1, e2, f2, e3, f3⟩ := hbr2.c8
 have hzW := hbr.lt
 have hgE : ∀ b, b ∈ E0 ++ E1 ++ E2 ++ [] -> w.heap.size + 2 <= b := fun b hb => by have := hge4 b hb; omega
 have hT := turn4 w2 (w.heap.size + 1) (.slice q0 D2.fInodes.length p0') (.slice q1 D2.fNames.length p1') (.slice q2 D2.fSafe.length p2') (.int .i64 D2.fNext)
 have HB : Hid (Below w.heap.size w ((((w2.setCell ⟨w.heap.size + 1, 0, none⟩ (.slice q0 D2.fInodes.length p0')).setCell ⟨w.heap.size + 1, 1, none⟩ (.slice q1 D2.fNames.length p1')).setCell ⟨w.heap.size + 1, 2, none⟩ (.slice q2 D2.fSafe.length p2')).setCell ⟨w.heap.size + 1, 3, none⟩ (.int .i64 D2.fNext))) := (bthen hbW hy2).trans (hT.below (fun k hk => by simp at hk; omega) (bthen hbW hy2).size)
 have HO : Hid (oDisk ((((w2.setCell ⟨w.heap.size + 1, 0, none⟩ (.slice q0 D2.fInodes.length p0')).setCell ⟨w.heap.size + 1, 1, none⟩ (.slice q1 D2.fNames.length p1')).setCell ⟨w.heap.size + 1, 2, none⟩ (.slice q2 D2.fSafe.length p2')).setCell ⟨w.heap.size + 1, 3, none⟩ (.int .i64 D2.fNext)) [.slice q0 D2.fInodes.length p0', .slice q1 D2.fNames.length p1', .slice q2 D2.fSafe.length p2', .int .i64 D2.fNext] D2 (E0 ++ E1 ++ E2 ++ [])) := oDisk_good.frame ho4 (fun b hb => hT.block b (oDisk_good.lt ho4 b hb) (by intro h; simp at h; have := hgE b hb; omega))
 have HG := Hm hgE
 have HN := Hm hN4
 clear hgE ho4 hge4 hT hN4 hy2 hbr hbr2
 go_wp2_with fail
 exact bodyPost_ret (v := .tuple #[.agg #[.slice q0 D2.fInodes.length p0', .slice q1 D2.fNames.length p1', .slice q2 D2.fSafe.length p2', .int .i64 D2.fNext], .int .i64 C2]) (by simp [results, Tryz.results48, go_sem, *]) rfl ⟨[.slice q0 D2.fInodes.length p0', .slice q1 D2.fNames.length p1', .slice q2 D2.fSafe.length p2', .int .i64 D2.fNext], _, by rw [<- HC2.out], by rw [<- HD2.out]; exact HO.out, HN.out, (fun b hb => by have := HG.out b hb; omega), HB.out⟩
set_option maxHeartbeats 2000000 in
theorem sw2_any (cs : List Value) (m : MDisk) (t : ByteArray) (vb : Value) (zb : List Int) (hvb0 : zb.length <= 1048576) (bT : Nat) (bB : Nat) (w : World) (hr : rDisk w.heap.size w cs m) (hw : wDisk m <= 1048576) (ht : t.size <= 1048576) (hvb : rdB w.heap.size w vb zb) (hbT : Bx w bT [.string t]) (hbB : Bx w bB [vb]) :
  Calls Tryz.prog 50 #[.agg cs.toArray, .pointer (some ⟨bT, 0, none⟩), .pointer (some ⟨bB, 0, none⟩)] w fun e w' => ∃ (cs' : List Value) (F : List Nat), e = .returned (.tuple #[.agg cs'.toArray, .int .i64 (appendC m t zb)]) /\ oDisk w' cs' (appendP m t zb) F /\ F.Nodup /\ (∀ b, b ∈ F -> w.heap.size <= b) /\ Below w.heap.size w w' := by
 have hq := hr
 obtain ⟨a0, c0, a1, c1, a2, c2, rfl, hI, hNm, hSf, hnx, _⟩ := hq
 have HW := Hm hw
 have HR := Hm hr
 clear hr hI hNm hSf hw
 obtain ⟨wq, hwq⟩ : ∃ wq, wq = ((w.alloc (.cells #[.slice a0 m.fInodes.length c0, .slice a1 m.fNames.length c1, .slice a2 m.fSafe.length c2, .int .i64 m.fNext] 27)).alloc (.cells #[.slice none 0 0, .slice none 0 0, .slice none 0 0, .int .i64 0] 27)) := ⟨_, rfl⟩
 have hbW : Below w.heap.size w wq := by rw [hwq]; exact Below.alloc (Below.alloc rB (by exact rN) _) (by simp; try omega) _
 have hbr : Bw wq (w.heap.size + 1) 27 [.slice none 0 0, .slice none 0 0, .slice none 0 0, .int .i64 0] := by rw [hwq]; exact Bw.new' _ _ _ (by simp)
 have k0 : (((w.alloc (.cells #[.slice a0 m.fInodes.length c0, .slice a1 m.fNames.length c1, .slice a2 m.fSafe.length c2, .int .i64 m.fNext] 27)).alloc (.cells #[.slice none 0 0, .slice none 0 0, .slice none 0 0, .int .i64 0] 27))).cell? ⟨bT, 0, none⟩ = some (.string t) := by have h := (hbT.under hbW).2 0 _ rfl; rw [hwq] at h; exact h
 have n0 := hbT.1
 have k1 : (((w.alloc (.cells #[.slice a0 m.fInodes.length c0, .slice a1 m.fNames.length c1, .slice a2 m.fSafe.length c2, .int .i64 m.fNext] 27)).alloc (.cells #[.slice none 0 0, .slice none 0 0, .slice none 0 0, .int .i64 0] 27))).cell? ⟨bB, 0, none⟩ = some (vb) := by have h := (hbB.under hbW).2 0 _ rfl; rw [hwq] at h; exact h
 have n1 := hbB.1
 go_enter Tryz.func50, Tryz.ntmps50
 go_wp2_with fail
 rw [<- hwq]
 clear hwq k0 k1
 refine (implAppend_b _ m t vb zb wq (rDisk_good.mono (rDisk_good.below HR.out hbW) hbW.size) (by omega) ((hvb.below hbW).mono hbW.size) HW.out ht (by omega)).mono ?_
 obtain ⟨D2, hD2⟩ : ∃ D2, D2 = appendP m t zb := ⟨_, rfl⟩
 obtain ⟨C2, hC2⟩ : ∃ C2, C2 = appendC m t zb := ⟨_, rfl⟩
 rw [<- hD2, <- hC2]
 have HD2 := Hm hD2
 have HC2 := Hm hC2
 clear hD2 hC2
 rintro e w2 ⟨cs4, F4, rfl, ho4, hN4, hge4, hy2⟩
 obtain ⟨q0, p0', q1, p1', q2, p2', E0, E1, E2, rfl, _, _, _, _, rfl⟩ := oDisk_cells ho4
 have hbr2 := hbr.under hy2
 have hl2 := hbr2.lt
 obtain ⟨e0, f0, e1, f1, e2, f2, e3, f3⟩ := hbr2.c8
 have hzW := hbr.lt
 have hgE : ∀ b, b ∈ E0 ++ E1 ++ E2 ++ [] -> w.heap.size + 2 <= b := fun b hb => by have := hge4 b hb; omega
 have hT := turn4 w2 (w.heap.size + 1) (.slice q0 D2.fInodes.length p0') (.slice q1 D2.fNames.length p1') (.slice q2 D2.fSafe.length p2') (.int .i64 D2.fNext)
 have HB : Hid (Below w.heap.size w ((((w2.setCell ⟨w.heap.size + 1, 0, none⟩ (.slice q0 D2.fInodes.length p0')).setCell ⟨w.heap.size + 1, 1, none⟩ (.slice q1 D2.fNames.length p1')).setCell ⟨w.heap.size + 1, 2, none⟩ (.slice q2 D2.fSafe.length p2')).setCell ⟨w.heap.size + 1, 3, none⟩ (.int .i64 D2.fNext))) := (bthen hbW hy2).trans (hT.below (fun k hk => by simp at hk; omega) (bthen hbW hy2).size)
 have HO : Hid (oDisk ((((w2.setCell ⟨w.heap.size + 1, 0, none⟩ (.slice q0 D2.fInodes.length p0')).setCell ⟨w.heap.size + 1, 1, none⟩ (.slice q1 D2.fNames.length p1')).setCell ⟨w.heap.size + 1, 2, none⟩ (.slice q2 D2.fSafe.length p2')).setCell ⟨w.heap.size + 1, 3, none⟩ (.int .i64 D2.fNext)) [.slice q0 D2.fInodes.length p0', .slice q1 D2.fNames.length p1', .slice q2 D2.fSafe.length p2', .int .i64 D2.fNext] D2 (E0 ++ E1 ++ E2 ++ [])) := oDisk_good.frame ho4 (fun b hb => hT.block b (oDisk_good.lt ho4 b hb) (by intro h; simp at h; have := hgE b hb; omega))
 have HG := Hm hgE
 have HN := Hm hN4
 clear hgE ho4 hge4 hT hN4 hy2 hbr hbr2
 go_wp2_with fail
 exact bodyPost_ret (v := .tuple #[.agg #[.slice q0 D2.fInodes.length p0', .slice q1 D2.fNames.length p1', .slice q2 D2.fSafe.length p2', .int .i64 D2.fNext], .int .i64 C2]) (by simp [results, Tryz.results50, go_sem, *]) rfl ⟨[.slice q0 D2.fInodes.length p0', .slice q1 D2.fNames.length p1', .slice q2 D2.fSafe.length p2', .int .i64 D2.fNext], _, by rw [<- HC2.out], by rw [<- HD2.out]; exact HO.out, HN.out, (fun b hb => by have := HG.out b hb; omega), HB.out⟩
set_option maxHeartbeats 2000000 in
theorem sw3_any (cs : List Value) (m : MDisk) (t : ByteArray)  (bT : Nat) (w : World) (hr : rDisk w.heap.size w cs m) (hw : wDisk m <= 1048576) (ht : t.size <= 1048576) (hbT : Bx w bT [.string t]) :
  Calls Tryz.prog 51 #[.agg cs.toArray, .pointer (some ⟨bT, 0, none⟩)] w fun e w' => ∃ (cs' : List Value) (F : List Nat), e = .returned (.tuple #[.agg cs'.toArray, .int .i64 (callP m t)]) /\ oDisk w' cs' (syncP m t) F /\ F.Nodup /\ (∀ b, b ∈ F -> w.heap.size <= b) /\ Below w.heap.size w w' := by
 have hq := hr
 obtain ⟨a0, c0, a1, c1, a2, c2, rfl, hI, hNm, hSf, hnx, _⟩ := hq
 have HW := Hm hw
 have HR := Hm hr
 clear hr hI hNm hSf hw
 obtain ⟨wq, hwq⟩ : ∃ wq, wq = ((w.alloc (.cells #[.slice a0 m.fInodes.length c0, .slice a1 m.fNames.length c1, .slice a2 m.fSafe.length c2, .int .i64 m.fNext] 27)).alloc (.cells #[.slice none 0 0, .slice none 0 0, .slice none 0 0, .int .i64 0] 27)) := ⟨_, rfl⟩
 have hbW : Below w.heap.size w wq := by rw [hwq]; exact Below.alloc (Below.alloc rB (by exact rN) _) (by simp; try omega) _
 have hbr : Bw wq (w.heap.size + 1) 27 [.slice none 0 0, .slice none 0 0, .slice none 0 0, .int .i64 0] := by rw [hwq]; exact Bw.new' _ _ _ (by simp)
 have k0 : (((w.alloc (.cells #[.slice a0 m.fInodes.length c0, .slice a1 m.fNames.length c1, .slice a2 m.fSafe.length c2, .int .i64 m.fNext] 27)).alloc (.cells #[.slice none 0 0, .slice none 0 0, .slice none 0 0, .int .i64 0] 27))).cell? ⟨bT, 0, none⟩ = some (.string t) := by have h := (hbT.under hbW).2 0 _ rfl; rw [hwq] at h; exact h
 have n0 := hbT.1
 go_enter Tryz.func51, Tryz.ntmps51
 go_wp2_with fail
 rw [<- hwq]
 clear hwq k0
 refine (implSync_c _ m t wq (rDisk_good.mono (rDisk_good.below HR.out hbW) hbW.size) (by omega) HW.out ht).mono ?_
 obtain ⟨D2, hD2⟩ : ∃ D2, D2 = syncP m t := ⟨_, rfl⟩
 obtain ⟨C2, hC2⟩ : ∃ C2, C2 = callP m t := ⟨_, rfl⟩
 rw [<- hD2, <- hC2]
 have HD2 := Hm hD2
 have HC2 := Hm hC2
 clear hD2 hC2
 rintro e w2 ⟨cs4, F4, rfl, ho4, hN4, hge4, hy2⟩
 obtain ⟨q0, p0', q1, p1', q2, p2', E0, E1, E2, rfl, _, _, _, _, rfl⟩ := oDisk_cells ho4
 have hbr2 := hbr.under hy2
 have hl2 := hbr2.lt
 obtain ⟨e0, f0, e1, f1, e2, f2, e3, f3⟩ := hbr2.c8
 have hzW := hbr.lt
 have hgE : ∀ b, b ∈ E0 ++ E1 ++ E2 ++ [] -> w.heap.size + 2 <= b := fun b hb => by have := hge4 b hb; omega
 have hT := turn4 w2 (w.heap.size + 1) (.slice q0 D2.fInodes.length p0') (.slice q1 D2.fNames.length p1') (.slice q2 D2.fSafe.length p2') (.int .i64 D2.fNext)
 have HB : Hid (Below w.heap.size w ((((w2.setCell ⟨w.heap.size + 1, 0, none⟩ (.slice q0 D2.fInodes.length p0')).setCell ⟨w.heap.size + 1, 1, none⟩ (.slice q1 D2.fNames.length p1')).setCell ⟨w.heap.size + 1, 2, none⟩ (.slice q2 D2.fSafe.length p2')).setCell ⟨w.heap.size + 1, 3, none⟩ (.int .i64 D2.fNext))) := (bthen hbW hy2).trans (hT.below (fun k hk => by simp at hk; omega) (bthen hbW hy2).size)
 have HO : Hid (oDisk ((((w2.setCell ⟨w.heap.size + 1, 0, none⟩ (.slice q0 D2.fInodes.length p0')).setCell ⟨w.heap.size + 1, 1, none⟩ (.slice q1 D2.fNames.length p1')).setCell ⟨w.heap.size + 1, 2, none⟩ (.slice q2 D2.fSafe.length p2')).setCell ⟨w.heap.size + 1, 3, none⟩ (.int .i64 D2.fNext)) [.slice q0 D2.fInodes.length p0', .slice q1 D2.fNames.length p1', .slice q2 D2.fSafe.length p2', .int .i64 D2.fNext] D2 (E0 ++ E1 ++ E2 ++ [])) := oDisk_good.frame ho4 (fun b hb => hT.block b (oDisk_good.lt ho4 b hb) (by intro h; simp at h; have := hgE b hb; omega))
 have HG := Hm hgE
 have HN := Hm hN4
 clear hgE ho4 hge4 hT hN4 hy2 hbr hbr2
 go_wp2_with fail
 exact bodyPost_ret (v := .tuple #[.agg #[.slice q0 D2.fInodes.length p0', .slice q1 D2.fNames.length p1', .slice q2 D2.fSafe.length p2', .int .i64 D2.fNext], .int .i64 C2]) (by simp [results, Tryz.results51, go_sem, *]) rfl ⟨[.slice q0 D2.fInodes.length p0', .slice q1 D2.fNames.length p1', .slice q2 D2.fSafe.length p2', .int .i64 D2.fNext], _, by rw [<- HC2.out], by rw [<- HD2.out]; exact HO.out, HN.out, (fun b hb => by have := HG.out b hb; omega), HB.out⟩
set_option maxHeartbeats 2000000 in
theorem sw4_any (cs : List Value) (m : MDisk) (t : ByteArray) (s : ByteArray) (hs : s.size <= 1048576) (bT : Nat) (bN : Nat) (w : World) (hr : rDisk w.heap.size w cs m) (hw : wDisk m <= 1048576) (ht : t.size <= 1048576) (hbT : Bx w bT [.string t]) (hbN : Bx w bN [.string s]) :
  Calls Tryz.prog 53 #[.agg cs.toArray, .pointer (some ⟨bT, 0, none⟩), .pointer (some ⟨bN, 0, none⟩)] w fun e w' => ∃ (cs' : List Value) (F : List Nat), e = .returned (.tuple #[.agg cs'.toArray, .int .i64 (renameC m t s)]) /\ oDisk w' cs' (renameP m t s) F /\ F.Nodup /\ (∀ b, b ∈ F -> w.heap.size <= b) /\ Below w.heap.size w w' := by
 have hq := hr
 obtain ⟨a0, c0, a1, c1, a2, c2, rfl, hI, hNm, hSf, hnx, _⟩ := hq
 have HW := Hm hw
 have HR := Hm hr
 clear hr hI hNm hSf hw
 obtain ⟨wq, hwq⟩ : ∃ wq, wq = ((w.alloc (.cells #[.slice a0 m.fInodes.length c0, .slice a1 m.fNames.length c1, .slice a2 m.fSafe.length c2, .int .i64 m.fNext] 27)).alloc (.cells #[.slice none 0 0, .slice none 0 0, .slice none 0 0, .int .i64 0] 27)) := ⟨_, rfl⟩
 have hbW : Below w.heap.size w wq := by rw [hwq]; exact Below.alloc (Below.alloc rB (by exact rN) _) (by simp; try omega) _
 have hbr : Bw wq (w.heap.size + 1) 27 [.slice none 0 0, .slice none 0 0, .slice none 0 0, .int .i64 0] := by rw [hwq]; exact Bw.new' _ _ _ (by simp)
 have k0 : (((w.alloc (.cells #[.slice a0 m.fInodes.length c0, .slice a1 m.fNames.length c1, .slice a2 m.fSafe.length c2, .int .i64 m.fNext] 27)).alloc (.cells #[.slice none 0 0, .slice none 0 0, .slice none 0 0, .int .i64 0] 27))).cell? ⟨bT, 0, none⟩ = some (.string t) := by have h := (hbT.under hbW).2 0 _ rfl; rw [hwq] at h; exact h
 have n0 := hbT.1
 have k1 : (((w.alloc (.cells #[.slice a0 m.fInodes.length c0, .slice a1 m.fNames.length c1, .slice a2 m.fSafe.length c2, .int .i64 m.fNext] 27)).alloc (.cells #[.slice none 0 0, .slice none 0 0, .slice none 0 0, .int .i64 0] 27))).cell? ⟨bN, 0, none⟩ = some (.string s) := by have h := (hbN.under hbW).2 0 _ rfl; rw [hwq] at h; exact h
 have n1 := hbN.1
 go_enter Tryz.func53, Tryz.ntmps53
 go_wp2_with fail
 rw [<- hwq]
 clear hwq k0 k1
 refine (implRename_c _ m t s wq (rDisk_good.mono (rDisk_good.below HR.out hbW) hbW.size) (by omega) (by omega) HW.out ht hs).mono ?_
 obtain ⟨D2, hD2⟩ : ∃ D2, D2 = renameP m t s := ⟨_, rfl⟩
 obtain ⟨C2, hC2⟩ : ∃ C2, C2 = renameC m t s := ⟨_, rfl⟩
 rw [<- hD2, <- hC2]
 have HD2 := Hm hD2
 have HC2 := Hm hC2
 clear hD2 hC2
 rintro e w2 ⟨cs4, F4, rfl, ho4, hN4, hge4, hy2⟩
 obtain ⟨q0, p0', q1, p1', q2, p2', E0, E1, E2, rfl, _, _, _, _, rfl⟩ := oDisk_cells ho4
 have hbr2 := hbr.under hy2
 have hl2 := hbr2.lt
 obtain ⟨e0, f0, e1, f1, e2, f2, e3, f3⟩ := hbr2.c8
 have hzW := hbr.lt
 have hgE : ∀ b, b ∈ E0 ++ E1 ++ E2 ++ [] -> w.heap.size + 2 <= b := fun b hb => by have := hge4 b hb; omega
 have hT := turn4 w2 (w.heap.size + 1) (.slice q0 D2.fInodes.length p0') (.slice q1 D2.fNames.length p1') (.slice q2 D2.fSafe.length p2') (.int .i64 D2.fNext)
 have HB : Hid (Below w.heap.size w ((((w2.setCell ⟨w.heap.size + 1, 0, none⟩ (.slice q0 D2.fInodes.length p0')).setCell ⟨w.heap.size + 1, 1, none⟩ (.slice q1 D2.fNames.length p1')).setCell ⟨w.heap.size + 1, 2, none⟩ (.slice q2 D2.fSafe.length p2')).setCell ⟨w.heap.size + 1, 3, none⟩ (.int .i64 D2.fNext))) := (bthen hbW hy2).trans (hT.below (fun k hk => by simp at hk; omega) (bthen hbW hy2).size)
 have HO : Hid (oDisk ((((w2.setCell ⟨w.heap.size + 1, 0, none⟩ (.slice q0 D2.fInodes.length p0')).setCell ⟨w.heap.size + 1, 1, none⟩ (.slice q1 D2.fNames.length p1')).setCell ⟨w.heap.size + 1, 2, none⟩ (.slice q2 D2.fSafe.length p2')).setCell ⟨w.heap.size + 1, 3, none⟩ (.int .i64 D2.fNext)) [.slice q0 D2.fInodes.length p0', .slice q1 D2.fNames.length p1', .slice q2 D2.fSafe.length p2', .int .i64 D2.fNext] D2 (E0 ++ E1 ++ E2 ++ [])) := oDisk_good.frame ho4 (fun b hb => hT.block b (oDisk_good.lt ho4 b hb) (by intro h; simp at h; have := hgE b hb; omega))
 have HG := Hm hgE
 have HN := Hm hN4
 clear hgE ho4 hge4 hT hN4 hy2 hbr hbr2
 go_wp2_with fail
 exact bodyPost_ret (v := .tuple #[.agg #[.slice q0 D2.fInodes.length p0', .slice q1 D2.fNames.length p1', .slice q2 D2.fSafe.length p2', .int .i64 D2.fNext], .int .i64 C2]) (by simp [results, Tryz.results53, go_sem, *]) rfl ⟨[.slice q0 D2.fInodes.length p0', .slice q1 D2.fNames.length p1', .slice q2 D2.fSafe.length p2', .int .i64 D2.fNext], _, by rw [<- HC2.out], by rw [<- HD2.out]; exact HO.out, HN.out, (fun b hb => by have := HG.out b hb; omega), HB.out⟩
end Go.Proofs.YtegonncmopecnaaGreatDoor
