/-
  Part 24 of the texts that the proof leans on.
-/
import Derived.Test.YtddejboifpepcaaGreatDoorInp18
import Derived.Test.YtddejboifpepcaaGreatDoorInp9
import Derived.Test.YtddejboifpepcaaGreatDoorInp3
import Derived.Test.YtddejboifpepcaaGreatDoorInp13
import Derived.Test.YtddejboifpepcaaGreatDoorInp4
import Derived.Test.YtddejboifpepcaaGreatDoorInp2
import Derived.Test.YtddejboifpepcaaGreatDoorChecked
set_option linter.unusedVariables false
set_option linter.unusedSimpArgs false
set_option maxRecDepth 10000

namespace Go.Proofs.YtddejboifpepcaaGreatDoor
open Go.RowKit Go.Maps
theorem wpList_append_lit {P : Program} (w : World) {ops : Array Oper} {rest : List Oper} {o : Oper} {a : Act} {Q : Exit → Act → World → Prop} (hgd : o.guard = none) (s x : Operand) (t tx : TypeId)
  (ho : o.op = .call { callee := .builtin .append, args := #[s, x], argTypes := #[t, tx] })
  (base : Nat) (e : TypeId) (i : TypeInfo) (z : Value) (size bytes : Nat) (ht : P.underlying t = some (.slice e)) (hi : P.info? e = some i) (hz : i.zero = some z)
  (hsize : i.size = size) (hby : i.bytes = bytes) (hzs : z.cells.size = size)
  (g : Nat) (hs : a.eval s = .slice (some ⟨g, 0, none⟩) 0 0) (hown : w.ownsRow base e size (.slice (some ⟨g, 0, none⟩) 0 0) 0 [])
  (y : Value) (hy : a.eval x = y) (m : Nat) (news : List Value) (hx : Src P size tx y m news w)
  (h63 : m ≤ maxLen) (hbytes : m * bytes ≤ 140737488355328) (hbase : base ≤ w.heap.size)
  (h : ∀ v' w', w'.ownsRow base e size v' m news → Below w.heap.size w w' → (v'.ownBlock = some g ∨ v'.ownBlock = some w.heap.size) → wpList P ops Q rest (a.put o.dst v') w') : wpList P ops Q (o :: rest) a w := by
 refine wpList_plain hgd fun K hK => ?_
 subst hy
 obtain ⟨v', w', hr, h2, h3, h4⟩ := run_append_lit (P := P) w base t tx o.type e i z size bytes ht hi hz hsize hby hzs g hown (a.eval x) m news hx h63 hbytes hbase
 unfold Oper.wp execOp
 simp only [ho, resolve, invoke, builtin, Sem.run_bind, Sem.run_pure, Result.andThen_ok, List.map_toArray, List.map_cons, List.map_nil, hs, hr]
 exact hK _ _ (h v' w' h2 h3 h4)
set_option maxHeartbeats 4000000 in
theorem specSyncDir_c (cs : List Value) (m : MDisk) (w : World) (hr : rDisk w.heap.size w cs m) (hw : wDisk m ≤ 1048576) :
  Calls Tryz.prog 30 #[.agg cs.toArray] w fun e w' => ∃ cs' : List Value, e = .returned (.tuple #[.agg cs'.toArray, .int .i64 (syncDirC m)]) ∧ rDisk w'.heap.size w' cs' (syncDirP m) ∧ Below w.heap.size w w' := by
 have hq := hr
 obtain ⟨a0, c0, a1, c1, a2, c2, rfl, hI, hNm, hSf, hnx, _⟩ := hq
 have hw2 : m.fInodes.length + sumW wInode m.fInodes + (m.fNames.length + sumW wEntry m.fNames) + (m.fSafe.length + sumW wEntry m.fSafe) ≤ 1048576 := hw
 have HW := Hid.mk hw
 have HR := Hid.mk hr
 clear hr hI hNm hSf hw
 obtain ⟨iE, hiE, hzE0, hzE1, hzE2⟩ := info_parts Tryz.infoOfEntry
 go_enter Tryz.func30, Tryz.ntmps30
 go_wp2_with fail
 obtain ⟨wq, hwq⟩ : ∃ wq, wq = ((w.alloc (.cells #[.slice a0 m.fInodes.length c0, .slice a1 m.fNames.length c1, .slice a2 m.fSafe.length c2, .int .i64 m.fNext] 34)).alloc (.cells #[.slice none 0 0, .slice none 0 0, .slice none 0 0, .int .i64 0] 34)) := ⟨_, rfl⟩
 have hbW : Below w.heap.size w wq := by rw [hwq]; exact Below.alloc (Below.alloc (Below.refl _ _) (by exact Nat.le_refl _) _) (by simp; try omega) _
 have hbd : Bw wq (w.heap.size) 34 [.slice a0 m.fInodes.length c0, .slice a1 m.fNames.length c1, .slice a2 m.fSafe.length c2, .int .i64 m.fNext] := by rw [hwq]; exact Bw.alloc (Bw.new' _ _ _ (by simp)) _
 have hbr : Bw wq (w.heap.size + 1) 34 [.slice none 0 0, .slice none 0 0, .slice none 0 0, .int .i64 0] := by rw [hwq]; exact Bw.new' _ _ _ (by simp)
 rw [← hwq]
 clear hwq
 refine (l2Copy_any _ m wq (rDisk_good.mono (rDisk_good.below HR.out hbW) hbW.size) HW.out).mono ?_
 rintro e w1 ⟨cs2, F2, rfl, ho2, hN2, hge2, hx1⟩
 obtain ⟨d0, e0, d1, e1, d2, e2, G0, G1, G2, rfl, o0, o1, o2, _, rfl⟩ := oDisk_cells ho2
 have HO0 := Hid.mk o0
 have HO1 := Hid.mk o1
 have HO2 := Hid.mk o2
 have HO := Hid.mk ho2
 have HN := Hid.mk hN2
 have HGE : Hid (∀ b, b ∈ G0 ++ G1 ++ G2 ++ [] → wq.heap.size ≤ b) := hge2
 have HLT : Hid (∀ b, b ∈ G0 ++ G1 ++ G2 ++ [] → b < w1.heap.size) := fun b hb => oDisk_good.lt ho2 b hb
 clear ho2 hN2 hge2 o0 o1 o2
 have hb1 := bthen hbW hx1
 have hbd1 := hbd.under hx1
 have hbr1 := hbr.under hx1
 have hz1 := hx1.size
 have hzW := hbW.size
 have hl0 := hbr.lt
 obtain ⟨y0, y1, y2, y3⟩ := hbd1.c4
 have hl1 := hbd1.lt
 go_wp2_with fail
 obtain ⟨wa, hwa⟩ : ∃ wa, wa = w1.alloc (.cells #[.slice d0 m.fInodes.length e0, .slice d1 m.fNames.length e1, .slice d2 m.fSafe.length e2, .int .i64 m.fNext] 34) := ⟨_, rfl⟩
 have hba : Below w1.heap.size w1 wa := by rw [hwa]; exact (Below.refl _ _).alloc (Nat.le_refl _) _
 have hwb0 : Bw wa w1.heap.size 34 [.slice d0 m.fInodes.length e0, .slice d1 m.fNames.length e1, .slice d2 m.fSafe.length e2, .int .i64 m.fNext] := by rw [hwa]; exact Bw.new _ _ _
 rw [← hwa]
 clear hwa
 have hba1 := bthen hb1 hba
 have hbda := (hbd1.under hba)
 refine (specDiskOk_c _ m wa (rDisk_good.mono (rDisk_good.below HR.out hba1) hba1.size) HW.out).mono ?_
 rintro e w2 ⟨rfl, hx2⟩
 have hb12 := bthen hba hx2
 have hb2 := bthen hba1 hx2
 have hwb := hwb0.under hx2
 have hbr2 := (hbr1.under hba).under hx2
 have hbd2 := hbda.under hx2
 clear hwb0 hbda hbd1 y0 y1 y2 y3
 obtain ⟨zo0, zo1, zo2, zo3⟩ := hwb.c4
 by_cases hK : diskOk m = true
 ·have HV : Hid (syncDirP m = keepD { m with fSafe := m.fNames } ∧ syncDirC m = 0) := by refine ⟨?_, ?_⟩ <;> simp [syncDirP, syncDirC, hK]
  have hsok := syncDir_ok hK
  have HE : Hid (endsD m { m with fSafe := m.fNames } = keepD { m with fSafe := m.fNames } ∧ endsC { m with fSafe := m.fNames } = 0) := by refine ⟨?_, ?_⟩ <;> simp only [endsD, endsC, hsok, if_true]
  have hwt := ok_weight hK
  have HWK1 : Hid (wDisk { m with fSafe := m.fNames } ≤ 16777216) := by show _ ≤ _; rw [wDisk_eq]; simp only; omega
  rw [hK]
  clear hK hsok
  have hbL : Below w2.heap.size w2 (w2.alloc (.cells #[] 101)) := (Below.refl _ _).alloc (Nat.le_refl _) _
  have hlf : LeafL 2 rEntry (w2.alloc (.cells #[] 101)).heap.size (w2.alloc (.cells #[] 101)) d1 e1 m.fNames := ownS.leaf oEntry_good (ownS.frame oEntry_good HO1.out (fun b hbF => (bthen hb12 hbL).block b (HLT.out b (by simp [hbF]))))
  obtain ⟨css, s1, s2, s3, s4⟩ := Src.ents (P := Tryz.prog) (c := e1) (n := m.fNames.length) Tryz.underlying32 rfl hlf.2.2
  have hlo := hwb.lt
  have fo2 := hwb.free 2
  have HBL := Hid.mk hbL
  clear hlf hbL
  go_wp2_with (at_builtin; refine wpList_append_lit _ rfl _ _ 32 32 rfl w2.heap.size 101 iE _ 2 24 Tryz.underlying32 hiE hzE0 hzE1 hzE2 rfl w2.heap.size rfl (own_lit0 w2 w2.heap.size _ _ (Nat.le_refl _)) (.slice d1 m.fNames.length e1) rfl m.fNames.length css.flatten s4 (by unfold maxLen; omega) (by omega) (by simp) ?_; intro v3 w3 hw3 hx3 hat3; obtain ⟨r3, q3, rfl⟩ := own_slice hw3; have hx23 := bthen HBL.out hx3; have zf2 := (hwb.under hx23).free 2; have hl3 := (hwb.under hx23).lt; have hl3d := (hbd2.under hx23).lt; have yd0 := (hbd2.under hx23).cell 0 _ rfl; have yd1 := (hbd2.under hx23).cell 1 _ rfl; have yd2 := (hbd2.under hx23).cell 2 _ rfl; have yd3 := (hbd2.under hx23).cell 3 _ rfl; have zd0 := (hwb.under hx23).cell 0 _ rfl; have zd1 := (hwb.under hx23).cell 1 _ rfl; have zd2 := (hwb.under hx23).cell 2 _ rfl; have zd3 := (hwb.under hx23).cell 3 _ rfl)
  have hos3 := ownS_row rfl s1 s2 s3 hw3
  have HGS : Hid (∀ b, b ∈ (Value.ownBlock (.slice r3 m.fNames.length q3)).toList → w2.heap.size ≤ b) := fun b hb => (hw3.lt b (by simpa using hb)).1
  obtain ⟨ws, hws⟩ : ∃ ws, ws = w3.setCell ⟨w1.heap.size, 2, none⟩ (.slice r3 m.fNames.length q3) := ⟨_, rfl⟩
  have hTs : Turn [w1.heap.size] w3 ws := by rw [hws]; exact Turn.setCell (Turn.refl _ _) (by simp) _
  have hwb3 := hwb.under hx23
  have hwbs : Bw ws w1.heap.size 34 [.slice d0 m.fInodes.length e0, .slice d1 m.fNames.length e1, .slice r3 m.fNames.length q3, .int .i64 m.fNext] := by rw [hws]; exact hwb3.put 2 _
  have hbds := (hbd2.under hx23).turn hTs (by simp; omega)
  have hbrs := (hbr2.under hx23).turn hTs (by simp; omega)
  have hb3 := bthen hb2 hx23
  have hBs : Below w.heap.size w ws := hb3.trans (hTs.below (fun k hk => by simp at hk; omega) hb3.size)
  have hfr : ∀ b, b ∈ G0 ++ G1 ++ G2 ++ [] → ws.heap[b]? = w1.heap[b]? := fun b hb => by
   have h1 := HLT.out b hb
   rw [hTs.block b (by have := (bthen hb12 hx23).size; omega) (by simp; omega), (bthen hb12 hx23).block b h1]
  have t0 := ownS.frame (w' := ws) oInode_good HO0.out (fun b hb => hfr b (by simp [hb]))
  have t1 := ownS.frame (w' := ws) oEntry_good HO1.out (fun b hb => hfr b (by simp [hb]))
  have hz12 := hb12.size
  have t2 := ownS.frame (w' := ws) oEntry_good hos3 (fun b hb => hTs.block b (ownS.lt oEntry_good hos3 b hb) (by intro h; simp at h; have := HGS.out b hb; omega))
  have HT0 := Hid.mk t0
  have HT1 := Hid.mk t1
  have HT2 := Hid.mk t2
  have HBS := Hid.mk hBs
  have HSUB : Hid (∀ b, b ∈ G0 ++ G1 ++ (Value.ownBlock (.slice r3 m.fNames.length q3)).toList → w.heap.size + 2 ≤ b) := by
   intro b hb
   rw [List.mem_append, List.mem_append] at hb
   rcases hb with (hb | hb) | hb
   ·have := HGE.out b (by simp [hb]); omega
   ·have := HGE.out b (by simp [hb]); omega
   ·have := HGS.out b hb; omega
  rw [← hws]
  clear hws t0 t1 t2 hfr hos3 hTs zf2 zo0 zo1 zo2 zo3 fo2 hw3 s4 yd0 yd1 yd2 yd3 zd0 zd1 zd2 zd3
  refine (l2Ends_any _ d0 d1 r3 e0 e1 q3 m { m with fSafe := m.fNames } G0 G1 _ ws (rDisk_good.mono (rDisk_good.below HR.out HBS.out) HBS.out.size) HW.out HT0.out HT1.out HT2.out hnx HWK1.out (by simp only; omega)).mono ?_
  rintro e w4 ⟨cs4, F4, rfl, ho4, hF4, hx4⟩
  have hb4 := bthen HBS.out hx4
  have hbr4 := hbrs.under hx4
  have hl4 := hbr4.lt
  have hzE := HBS.out.size
  have hlE := hbrs.lt
  rw [HE.out.1] at ho4
  obtain ⟨q0, p0, q1, p1, q2, p2, E0, E1, E2, rfl, _, _, _, _, rfl⟩ := oDisk_cells ho4
  have hkey : ∀ W', Turn [w.heap.size + 1] w4 W' → rDisk W'.heap.size W' [.slice q0 (keepD { m with fSafe := m.fNames }).fInodes.length p0, .slice q1 (keepD { m with fSafe := m.fNames }).fNames.length p1, .slice q2 (keepD { m with fSafe := m.fNames }).fSafe.length p2, .int .i64 (keepD { m with fSafe := m.fNames }).fNext] (keepD { m with fSafe := m.fNames }) ∧ Below w.heap.size w W' := fun W' hT =>
   ⟨oDisk_good.read (oDisk_good.frame ho4 (fun b hb => hT.block b (oDisk_good.lt ho4 b hb) (fun h => by simp at h; rcases hF4 b hb with h2 | h2; (have := HSUB.out b h2; omega); omega))), hb4.trans (hT.below (fun k hk => by simp at hk; omega) hb4.size)⟩
  have HKEY := Hid.mk hkey
  clear hkey ho4 hF4
  obtain ⟨ze0, ze1, ze2, ze3⟩ := hbr4.c4
  obtain ⟨zf0, zf1, zf2, zf3⟩ := hbr4.f4
  have HEC : Hid (endsC { m with fSafe := m.fNames } = 0) := HE.out.2
  rw [HEC.out]
  go_wp2_with fail
  obtain ⟨h1, h3⟩ := HKEY.out _ (show Turn [w.heap.size + 1] w4 ((((w4.setCell ⟨w.heap.size + 1, 0, none⟩ (.slice q0 (keepD { m with fSafe := m.fNames }).fInodes.length p0)).setCell ⟨w.heap.size + 1, 1, none⟩ (.slice q1 (keepD { m with fSafe := m.fNames }).fNames.length p1)).setCell ⟨w.heap.size + 1, 2, none⟩ (.slice q2 (keepD { m with fSafe := m.fNames }).fSafe.length p2)).setCell ⟨w.heap.size + 1, 3, none⟩ (.int .i64 (keepD { m with fSafe := m.fNames }).fNext)) from turn4 _ _ _ _ _ _)
  exact bodyPost_ret (v := .tuple #[.agg #[.slice q0 (keepD { m with fSafe := m.fNames }).fInodes.length p0, .slice q1 (keepD { m with fSafe := m.fNames }).fNames.length p1, .slice q2 (keepD { m with fSafe := m.fNames }).fSafe.length p2, .int .i64 (keepD { m with fSafe := m.fNames }).fNext], .int .i64 0]) (by simp [results, Tryz.results30, go_sem, *]) rfl ⟨[.slice q0 (keepD { m with fSafe := m.fNames }).fInodes.length p0, .slice q1 (keepD { m with fSafe := m.fNames }).fNames.length p1, .slice q2 (keepD { m with fSafe := m.fNames }).fSafe.length p2, .int .i64 (keepD { m with fSafe := m.fNames }).fNext], by rw [HV.out.2], by rw [HV.out.1]; exact h1, h3⟩
 ·have hK2 : diskOk m = false := Bool.eq_false_iff.2 hK
  have HV : Hid (syncDirP m = m ∧ syncDirC m = 1) := by refine ⟨?_, ?_⟩ <;> simp [syncDirP, syncDirC, hK2]
  have HCP : Hid (syncDirC m = 1) := HV.out.2
  rw [hK2]
  clear hK hK2
  obtain ⟨ze0, zf0, ze1, zf1, ze2, zf2, ze3, zf3⟩ := hbr2.c8
  have hlt0 := hbr2.lt
  have hO3 : oDisk w2 [.slice d0 m.fInodes.length e0, .slice d1 m.fNames.length e1, .slice d2 m.fSafe.length e2, .int .i64 m.fNext] (syncDirP m) (G0 ++ G1 ++ G2 ++ []) := by rw [HV.out.1]; exact oDisk_good.frame HO.out (fun b hb => hb12.block b (HLT.out b hb))
  have hG3 : ∀ b, b ∈ G0 ++ G1 ++ G2 ++ [] → w.heap.size + 2 ≤ b := fun b hb => by have := HGE.out b hb; omega
  have HBf := Hid.mk hb2
  have HO3 := Hid.mk hO3
  clear hO3
  go_wp2_with fail
  refine bodyPost_ret (v := .tuple #[.agg #[.slice d0 m.fInodes.length e0, .slice d1 m.fNames.length e1, .slice d2 m.fSafe.length e2, .int .i64 m.fNext], .int .i64 1]) (by simp [results, Tryz.results30, go_sem, *]) rfl ⟨[.slice d0 m.fInodes.length e0, .slice d1 m.fNames.length e1, .slice d2 m.fSafe.length e2, .int .i64 m.fNext], by first | rfl | rw [HCP.out], ?_, ?_⟩
  ·exact oDisk_good.read (oDisk_good.frame HO3.out (fun b hb => (show Turn [w.heap.size + 1] w2 _ from by repeat (first | with_reducible exact Turn.refl _ _ | with_reducible refine Turn.setCell ?_ (by simp) _ | with_reducible refine Turn.alloc ?_ _ | with_reducible refine Turn.drew ?_)).block b (oDisk_good.lt HO3.out b hb) (by intro h; simp at h; have := hG3 b hb; omega)))
  ·exact HBf.out.trans ((show Turn [w.heap.size + 1] w2 _ from by repeat (first | with_reducible exact Turn.refl _ _ | with_reducible refine Turn.setCell ?_ (by simp) _ | with_reducible refine Turn.alloc ?_ _ | with_reducible refine Turn.drew ?_)).below (fun k hk => by simp at hk; omega) HBf.out.size)
abbrev qa26_24_7_0 : Oper := ⟨some 38, .load 40 (.tmp 1), 40, "l06_manifest.go:17", #[], none⟩
abbrev qa26_24_7_1 : Oper := ⟨some 39, .load 92 (.tmp 4), 92, "l06_manifest.go:17", #[], none⟩
abbrev qa26_24_7_2 : Oper := ⟨some 40, .call { callee := .value (.func 60), args := #[.tmp 38, .tmp 39], argTypes := #[40, 92] }, 4, "l06_manifest.go:17", #[⟨0, .data⟩, ⟨1, .data⟩], none⟩
abbrev qa26_24_7_3 : Oper := ⟨some 41, .unOp .not 4 (.tmp 40), 4, "l06_manifest.go:17", #[⟨2, .data⟩], none⟩
abbrev qa26_24_7_4 : Oper := ⟨some 42, .move (.tmp 41), 4, "l06_manifest.go:17", #[⟨3, .data⟩, ⟨2, .chain⟩], none⟩
abbrev qa26_24_7_5 : Oper := ⟨some 43, .move (.tmp 3), 3, "l06_manifest.go:17", #[⟨4, .guard⟩], some (4, false)⟩
abbrev qa26_24_7_6 : Oper := ⟨some 44, .binOp .gtr 3 (.tmp 43) (.const (.int .i64 0)) 3, 4, "l06_manifest.go:17", #[⟨5, .data⟩, ⟨4, .guard⟩], some (4, false)⟩
abbrev qa26_24_7_7 : Oper := ⟨some 45, .move (.tmp 44), 4, "l06_manifest.go:17", #[⟨6, .data⟩, ⟨4, .chain⟩, ⟨4, .guard⟩], some (4, false)⟩
abbrev qa26_24_7_8 : Oper := ⟨some 46, .fieldAddr 40 (.tmp 1) 2, 0, "l06_manifest.go:17", #[⟨7, .guard⟩], some (7, true)⟩
abbrev qa26_24_7_9 : Oper := ⟨some 47, .load 38 (.tmp 46), 38, "l06_manifest.go:17", #[⟨8, .data⟩, ⟨7, .guard⟩], some (7, true)⟩
abbrev qa26_24_7_10 : Oper := ⟨some 48, .move (.tmp 3), 3, "l06_manifest.go:17", #[⟨7, .guard⟩], some (7, true)⟩
abbrev qa26_24_7_11 : Oper := ⟨some 49, .binOp .sub 3 (.tmp 48) (.const (.int .i64 1)) 3, 3, "l06_manifest.go:17", #[⟨10, .data⟩, ⟨7, .guard⟩], some (7, true)⟩
abbrev qa26_24_7_12 : Oper := ⟨some 50, .indexAddr 38 (.tmp 47) (.tmp 49), 0, "l06_manifest.go:17", #[⟨9, .data⟩, ⟨11, .data⟩, ⟨7, .guard⟩], some (7, true)⟩
abbrev qa26_24_7_13 : Oper := ⟨some 51, .fieldAddr 92 (.tmp 50) 0, 0, "l06_manifest.go:17", #[⟨12, .data⟩, ⟨7, .guard⟩], some (7, true)⟩
abbrev qa26_24_7_14 : Oper := ⟨some 52, .load 3 (.tmp 51), 3, "l06_manifest.go:17", #[⟨13, .data⟩, ⟨7, .guard⟩], some (7, true)⟩
abbrev qa26_24_7_15 : Oper := ⟨some 53, .fieldAddr 92 (.tmp 4) 0, 0, "l06_manifest.go:17", #[⟨7, .guard⟩], some (7, true)⟩
abbrev qa26_24_7_16 : Oper := ⟨some 54, .load 3 (.tmp 53), 3, "l06_manifest.go:17", #[⟨15, .data⟩, ⟨7, .guard⟩], some (7, true)⟩
abbrev qa26_24_7_17 : Oper := ⟨some 55, .binOp .geq 3 (.tmp 52) (.tmp 54) 3, 4, "l06_manifest.go:17", #[⟨14, .data⟩, ⟨16, .data⟩, ⟨7, .guard⟩], some (7, true)⟩
abbrev qa26_24_7_18 : Oper := ⟨some 56, .pick (.tmp 45) (.tmp 55) (.const (.bool false)), 4, "l06_manifest.go:17", #[⟨7, .data⟩, ⟨17, .data⟩, ⟨4, .guard⟩], some (4, false)⟩
abbrev qa26_24_7_19 : Oper := ⟨some 57, .pick (.tmp 42) (.const (.bool true)) (.tmp 56), 4, "l06_manifest.go:17", #[⟨4, .data⟩, ⟨18, .data⟩], none⟩
set_option maxHeartbeats 400000 in
theorem l6Key_any (s : ByteArray) (w : World) (hs : s.size ≤ 9223372036854775807) :
  Calls Tryz.prog 107 #[.string s] w fun e w' => e = .returned (.bool (mKeyP s)) ∧ w' = w := by
 have HV : Hid (inRange (s.size : Int) 1 20 = mKeyP s) := by show _ = _; unfold inRange mKeyP; congr 1; apply propext; omega
 go_enter Tryz.func107, Tryz.ntmps107
 go_wp2_with fail
 refine (l1In_any _ _ _ _).mono ?_
 rintro e w1 ⟨rfl, hw1⟩
 subst hw1
 rw [HV.out]
 go_wp2_with fail
 go_ret
 exact ⟨rfl, rfl⟩
set_option maxHeartbeats 2000000 in
theorem l6Meta_any (nx lg : Int) (a0 : Option Addr) (n c0 : Nat) (t : MMeta) (w : World) (hn1 : 1 ≤ nx) (hn2 : nx ≤ 100000) (h2 : t.fLo.size ≤ 9223372036854775807) (h3 : t.fHi.size ≤ 9223372036854775807) :
  Calls Tryz.prog 60 #[.agg #[.int .i64 nx, .int .i64 lg, .slice a0 n c0], .agg #[.int .i64 t.fNo, .int .i64 t.fLevel, .string t.fLo, .string t.fHi]] w fun e w' => e = .returned (.bool (metaP nx t)) ∧ Below w.heap.size w w' := by
 have HV : Hid (metaP nx t = (inRange t.fNo 1 (nx - 1) && inRange t.fLevel 0 3 && mKeyP t.fLo && mKeyP t.fHi && kLe t.fLo t.fHi)) := rfl
 obtain ⟨wp, hwp⟩ : ∃ wp, wp = (w.alloc (.cells #[.int .i64 nx, .int .i64 lg, .slice a0 n c0] 40)).alloc (.cells #[.int .i64 t.fNo, .int .i64 t.fLevel, .string t.fLo, .string t.fHi] 92) := ⟨_, rfl⟩
 have hbp : Below w.heap.size w wp := by rw [hwp]; exact ((Below.refl _ _).alloc (Nat.le_refl _) _).alloc (by simp) _
 have hbx : Bx wp (w.heap.size + 1) [.int .i64 t.fNo, .int .i64 t.fLevel, .string t.fLo, .string t.fHi] := by rw [hwp]; have h := Bx.new (w.alloc (.cells #[.int .i64 nx, .int .i64 lg, .slice a0 n c0] 40)) [.int .i64 t.fNo, .int .i64 t.fLevel, .string t.fLo, .string t.fHi] 92; simpa using h
 have hbm : Bx wp w.heap.size [.int .i64 nx, .int .i64 lg, .slice a0 n c0] := by rw [hwp]; exact (Bx.new w [.int .i64 nx, .int .i64 lg, .slice a0 n c0] 40).under ((Below.refl _ _).alloc (Nat.le_refl _) _)
 have y0 := hbx.2 0 _ rfl
 have y1 := hbx.2 1 _ rfl
 have y2 := hbx.2 2 _ rfl
 have y3 := hbx.2 3 _ rfl
 have m0 := hbm.2 0 _ rfl
 have hz := hbx.1
 have hz2 := hbm.1
 have hk1 := fun W => l6Key_any t.fLo W h2
 have hk2 := fun W => l6Key_any t.fHi W h3
 have hi1 := fun W => l1In_any t.fNo 1 (nx - 1) W
 have hi2 := fun W => l1In_any t.fLevel 0 3 W
 generalize mKeyP t.fLo = a at *
 generalize mKeyP t.fHi = b at *
 generalize inRange t.fNo 1 (nx - 1) = r1 at *
 generalize inRange t.fLevel 0 3 = r2 at *
 go_enter Tryz.func60, Tryz.ntmps60
 go_wp2_with (rw [← hwp])
 refine (hi1 _).mono ?_
 rintro e w1 ⟨rfl, hw1⟩
 subst hw1
 clear hwp
 cases r1 with
 | false =>
  have HD : Hid (metaP nx t = false) := by show _ = _; rw [HV.out]; simp
  go_wp2_with fail
  go_ret
  exact ⟨by rw [HD.out]; rfl, hbp⟩
 | true =>
  go_wp2_with fail
  refine (hi2 _).mono ?_
  rintro e w1 ⟨rfl, hw1⟩
  subst hw1
  cases r2 with
  | false =>
   have HD : Hid (metaP nx t = false) := by show _ = _; rw [HV.out]; simp
   go_wp2_with fail
   go_ret
   exact ⟨by rw [HD.out]; rfl, hbp⟩
  | true =>
   go_wp2_with fail
   refine (hk1 _).mono ?_
   rintro e w1 ⟨rfl, hw1⟩
   subst hw1
   cases a with
   | false =>
    have HD : Hid (metaP nx t = false) := by show _ = _; rw [HV.out]; simp
    go_wp2_with fail
    go_ret
    exact ⟨by rw [HD.out]; rfl, hbp⟩
   | true =>
    go_wp2_with fail
    refine (hk2 _).mono ?_
    rintro e w1 ⟨rfl, hw1⟩
    subst hw1
    cases b with
    | false =>
     have HD : Hid (metaP nx t = false) := by show _ = _; rw [HV.out]; simp
     go_wp2_with fail
     go_ret
     exact ⟨by rw [HD.out]; rfl, hbp⟩
    | true =>
     by_cases hk : kLe t.fLo t.fHi = true
     ·have HD : Hid (metaP nx t = true) := by show _ = _; rw [HV.out, hk]; rfl
      rcases kLe_yes hk with hq | hq
      ·go_wp2_with fail
       go_ret
       exact ⟨by rw [HD.out]; rfl, hbp⟩
      ·go_wp2_with fail
       go_ret
       exact ⟨by rw [HD.out]; rfl, hbp⟩
     ·have hkf := Bool.eq_false_iff.2 hk
      have HD : Hid (metaP nx t = false) := by show _ = _; rw [HV.out, hkf]; rfl
      obtain ⟨hq1, hq2⟩ := kLe_no hkf
      go_wp2_with fail
      go_ret
      exact ⟨by rw [HD.out]; rfl, hbp⟩
theorem metaP_pos {next : Int} {t : MMeta} (h : metaP next t = true) : 1 ≤ t.fNo := by
 simp only [metaP, Bool.and_eq_true, decide_eq_true_eq] at h
 exact h.1.1.1.1.1
set_option maxHeartbeats 8000000 in
theorem specManOk_c (cs : List Value) (m : MManifest) (w : World) (hr : rManifest w.heap.size w cs m) (hw : wManifest m ≤ 1048576) :
  Calls Tryz.prog 24 #[.agg cs.toArray] w fun e w' => e = .returned (.bool (manOkP m)) ∧ Below w.heap.size w w' := by
 obtain ⟨a0, c0, rfl, hwf0, hwf1, hL, _⟩ := hr
 have HL := Hid.mk hL
 obtain ⟨l, hl⟩ : ∃ l, l = m.fTables := ⟨_, rfl⟩
 obtain ⟨n, hx⟩ : ∃ n, n = l.length := ⟨_, rfl⟩
 have HV : Hid (manOkP m = (inRange m.fNext 1 100000 && inRange m.fLog 0 (m.fNext - 1) && decide (n ≤ 20) && tabsFrom m.fNext [] l)) := by show _ = _; rw [hx, hl]; rfl
 have hn : n ≤ 1048576 := by have h : m.fTables.length + sumW wMeta m.fTables ≤ 1048576 := hw; rw [hx, hl]; omega
 rw [← hl] at HL ⊢
 rw [← hx]
 have HX := Hid.mk hx.symm
 generalize m.fNext = nx at *
 generalize m.fLog = lg at *
 clear hL hw hl hx hwf0 hwf1
 go_enter Tryz.func24, Tryz.ntmps24
 obtain ⟨wq, hwq⟩ : ∃ wq, wq = w.alloc (.cells #[.int .i64 nx, .int .i64 lg, .slice a0 n c0] 40) := ⟨_, rfl⟩
 have hbq : Below w.heap.size w wq := by rw [hwq]; exact (Below.refl _ _).alloc (Nat.le_refl _) _
 have hbx : Bx wq w.heap.size [.int .i64 nx, .int .i64 lg, .slice a0 n c0] := by rw [hwq]; exact Bx.new _ _ _
 have y0 := hbx.2 0 _ rfl
 have y1 := hbx.2 1 _ rfl
 have y2 := hbx.2 2 _ rfl
 have hz := hbx.1
 go_wp2_with (rw [← hwq])
 refine (l1In_any nx 1 100000 _).mono ?_
 rintro e w1 ⟨rfl, hw1⟩
 have hw2 := hw1.symm
 clear hw1
 subst hw2
 clear hwq
 by_cases h1 : inRange nx 1 100000 = true
 rotate_left
 ·have h1f := Bool.eq_false_iff.2 h1
  have HD : Hid (manOkP m = false) := by show _ = _; rw [HV.out, h1f]; rfl
  rw [h1f]
  go_wp2_with fail
  go_ret
  exact ⟨by rw [HD.out]; rfl, hbq⟩
 have hnx1 : 1 ≤ nx := (of_decide_eq_true h1).1
 have hnx2 : nx ≤ 100000 := (of_decide_eq_true h1).2
 rw [h1] at HV ⊢
 go_wp2_with fail
 refine (l1In_any lg 0 (nx - 1) _).mono ?_
 rintro e w1 ⟨rfl, hw1⟩
 have hw2 := hw1.symm
 clear hw1
 subst hw2
 by_cases h2 : inRange lg 0 (nx - 1) = true
 rotate_left
 ·have h2f := Bool.eq_false_iff.2 h2
  have HD : Hid (manOkP m = false) := by show _ = _; rw [HV.out, h2f]; simp
  rw [h2f]
  go_wp2_with fail
  go_ret
  exact ⟨by rw [HD.out]; rfl, hbq⟩
 rw [h2] at HV ⊢
 by_cases h5 : n ≤ 20
 rotate_left
 ·have HD : Hid (manOkP m = false) := by show _ = _; rw [HV.out, decide_eq_false h5]; simp
  have h6 : (20 : Int) < (n : Int) := by omega
  go_wp2_with fail
  go_ret
  exact ⟨by rw [HD.out]; rfl, hbq⟩
 have h6 : ¬ (20 : Int) < (n : Int) := by omega
 have HV2 : Hid (manOkP m = tabsFrom nx [] l) := by show _ = _; rw [HV.out, decide_eq_true h5]; rfl
 clear HV h1 h2
 go_wp2_with fail
 clear y0 y1 y2
 go_loopw [3] (fun i wr => ∃ k : Nat, k ≤ n ∧ i = .int .i64 k ∧ Hid (tabsFrom nx [] l = tabsFrom nx (l.take k) (l.drop k)) ∧ Below wq.heap.size wq wr) (fun i _ => n - (intOf i).toNat)
 case atStart => exact ⟨0, Nat.zero_le _, rfl, rfl, Below.refl _ _⟩
 case round =>
  obtain ⟨k, hk, rfl, HI, hbk⟩ := hrel
  have hbw := bthen hbq hbk
  have hbz := hbw.size
  have hbxr := hbx.under hbk
  have y2 := hbxr.2 2 _ rfl
  have hlr := hbxr.1
  by_cases hlt : k < n
  ·have hkl : k < l.length := by rw [HX.out]; exact hlt
   obtain ⟨b1, o1, rfl, hB, cs, hcl, hcell, rfl, g0, g1, g2, g3, _⟩ := (HL.out.2.2.below rMeta_good hbw) k hkl
   have hB' : b1 < wr.heap.size := by omega
   have k0 := hcell 0 _ rfl
   have k1 := hcell 1 _ rfl
   have k2 := hcell 2 _ rfl
   have k3 := hcell 3 _ rfl
   rw [Nat.add_zero] at k0
   have HG : Hid (tabAt nx l k l[k] = true → tabsFrom nx [] l = tabsFrom nx (l.take (k + 1)) (l.drop (k + 1))) := fun h => by rw [HI.out]; exact tabs_good hkl h
   have HBad : Hid (tabAt nx l k l[k] = false → manOkP m = false) := fun h => by rw [HV2.out, HI.out]; exact tabs_bad hkl h
   clear hcell hcl HI
   obtain ⟨x, hxk⟩ : ∃ x, x = l[k] := ⟨_, rfl⟩
   rw [← hxk] at k0 k1 k2 k3 g0 g1 g2 g3 HG HBad
   clear hxk
   obtain ⟨wp, hwp⟩ : ∃ wp, wp = wr.alloc (.cells #[.int .i64 x.fNo, .int .i64 x.fLevel, .string x.fLo, .string x.fHi] 92) := ⟨_, rfl⟩
   have hbp : Below wr.heap.size wr wp := by rw [hwp]; exact (Below.refl _ _).alloc (Nat.le_refl _) _
   have hbxp : Bx wp wr.heap.size [.int .i64 x.fNo, .int .i64 x.fLevel, .string x.fLo, .string x.fHi] := by rw [hwp]; exact Bx.new _ _ _
   have hbkp := bthen hbk hbp
   have p0 : ∀ W, Below wp.heap.size wp W → W.cell? ⟨wr.heap.size, 0, none⟩ = some (.int .i64 x.fNo) := fun W hb => (hbxp.under hb).2 0 _ rfl
   have p1 : ∀ W, Below wp.heap.size wp W → W.cell? ⟨wr.heap.size, 1, none⟩ = some (.int .i64 x.fLevel) := fun W hb => (hbxp.under hb).2 1 _ rfl
   have p2 : ∀ W, Below wp.heap.size wp W → W.cell? ⟨wr.heap.size, 2, none⟩ = some (.string x.fLo) := fun W hb => (hbxp.under hb).2 2 _ rfl
   have p3 : ∀ W, Below wp.heap.size wp W → W.cell? ⟨wr.heap.size, 3, none⟩ = some (.string x.fHi) := fun W hb => (hbxp.under hb).2 3 _ rfl
   have q0 : ∀ W, Below wp.heap.size wp W → W.cell? ⟨w.heap.size, 0, none⟩ = some (.int .i64 nx) := fun W hb => ((hbxr.under hbp).under hb).2 0 _ rfl
   have q1 : ∀ W, Below wp.heap.size wp W → W.cell? ⟨w.heap.size, 1, none⟩ = some (.int .i64 lg) := fun W hb => ((hbxr.under hbp).under hb).2 1 _ rfl
   have q2 : ∀ W, Below wp.heap.size wp W → W.cell? ⟨w.heap.size, 2, none⟩ = some (.slice (some ⟨b1, o1, none⟩) n c0) := fun W hb => ((hbxr.under hbp).under hb).2 2 _ rfl
   have hCm := fun W => l6Meta_any nx lg (some ⟨b1, o1, none⟩) n c0 x W hnx1 hnx2 g2 g3
   by_cases hM : metaP nx x = true
   rotate_left
   ·have hMf := Bool.eq_false_iff.2 hM
    have HD : Hid (manOkP m = false) := HBad.out (tabAt_bad1 hMf)
    simp only [hMf] at hCm
    go_wp2_with fail
    rw [← hwp]
    clear hwp
    refine wp_region_held_drew (S := fun W => Below wp.heap.size wp W) (by kernel_rfl) (Below.drew (Below.refl _ _)) (fun hHeld => ?_)
    refine uq 0 qa26_24_7_0 38 hHeld ?_
    refine uq 1 qa26_24_7_1 39 hHeld ?_
    refine ar1 2 qa26_24_7_2 fun K hK => ?_
    go_simp
    refine Calls.mono (hCm _) ?_
    rintro e w1 ⟨rfl, hx1⟩
    go_wp2_with fail
    refine hK.out _ _ (bthen hHeld hx1) (fun hHeld => ?_)
    clear hK K
    try simp only[Act.put,sa,s0,s1]
    refine uq 3 qa26_24_7_3 41 hHeld ?_
    refine uq 4 qa26_24_7_4 42 hHeld ?_
    refine um 5 qa26_24_7_5 43 hHeld ?_
    refine um 6 qa26_24_7_6 44 hHeld ?_
    refine um 7 qa26_24_7_7 45 hHeld ?_
    refine um 8 qa26_24_7_8 46 hHeld ?_
    refine um 9 qa26_24_7_9 47 hHeld ?_
    refine um 10 qa26_24_7_10 48 hHeld ?_
    refine um 11 qa26_24_7_11 49 hHeld ?_
    refine um 12 qa26_24_7_12 50 hHeld ?_
    refine um 13 qa26_24_7_13 51 hHeld ?_
    refine um 14 qa26_24_7_14 52 hHeld ?_
    refine um 15 qa26_24_7_15 53 hHeld ?_
    refine um 16 qa26_24_7_16 54 hHeld ?_
    refine um 17 qa26_24_7_17 55 hHeld ?_
    refine um 18 qa26_24_7_18 56 hHeld ?_
    refine uq 19 qa26_24_7_19 57 hHeld ?_
    refine wpAnyH_done (by kernel_rfl) ?_ _
    go_wp2_with fail
    go_ret
    exact ⟨by rw [HD.out]; rfl, bthen hbq (bthen hbkp hHeld)⟩
   have HM := Hid.mk hM
   simp only [hM] at hCm
   clear hM
   by_cases hk0 : k = 0
   ·subst hk0
    have HLT : Hid (lastNo (l.take 0) < x.fNo) := by have h := metaP_pos HM.out; show (0 : Int) < _; omega
    simp only [Nat.zero_mul, Nat.add_zero] at k0 k1 k2 k3
    go_wp2_with fail
    rw [← hwp]
    clear hwp
    refine wp_region_held_drew (S := fun W => Below wp.heap.size wp W) (by kernel_rfl) (Below.drew (Below.refl _ _)) (fun hHeld => ?_)
    refine uq 0 qa26_24_7_0 38 hHeld ?_
    refine uq 1 qa26_24_7_1 39 hHeld ?_
    refine ar1 2 qa26_24_7_2 fun K hK => ?_
    go_simp
    refine Calls.mono (hCm _) ?_
    rintro e w1 ⟨rfl, hx1⟩
    go_wp2_with fail
    refine hK.out _ _ (bthen hHeld hx1) (fun hHeld => ?_)
    clear hK K
    try simp only[Act.put,sa,s0,s1]
    refine uq 3 qa26_24_7_3 41 hHeld ?_
    refine uq 4 qa26_24_7_4 42 hHeld ?_
    refine uq 5 qa26_24_7_5 43 hHeld ?_
    refine uq 6 qa26_24_7_6 44 hHeld ?_
    refine uq 7 qa26_24_7_7 45 hHeld ?_
    refine um 8 qa26_24_7_8 46 hHeld ?_
    refine um 9 qa26_24_7_9 47 hHeld ?_
    refine um 10 qa26_24_7_10 48 hHeld ?_
    refine um 11 qa26_24_7_11 49 hHeld ?_
    refine um 12 qa26_24_7_12 50 hHeld ?_
    refine um 13 qa26_24_7_13 51 hHeld ?_
    refine um 14 qa26_24_7_14 52 hHeld ?_
    refine um 15 qa26_24_7_15 53 hHeld ?_
    refine um 16 qa26_24_7_16 54 hHeld ?_
    refine um 17 qa26_24_7_17 55 hHeld ?_
    refine uq 18 qa26_24_7_18 56 hHeld ?_
    refine uq 19 qa26_24_7_19 57 hHeld ?_
    refine wpAnyH_done (by kernel_rfl) ?_ _
    generalize wr = wo at *
    go_wp2_with fail
    go_loopw [5] (fun i wr => ∃ j : Nat, j ≤ 0 ∧ i = .int .i64 j ∧ Hid (∀ i, (hi : i < l.length) → i < j → meetP x l[i] = false) ∧ Below wp.heap.size wp wr) (fun i _ => 0 - (intOf i).toNat)
    case atStart => exact ⟨0, Nat.zero_le _, rfl, fun i _ h => by omega, hHeld⟩
    case round =>
     obtain ⟨j, hj, rfl, HJ, hbv⟩ := hrel
     have hj0 : j = 0 := by omega
     subst hj0
     have HGD := Hid.mk (HG.out (tabAt_good HM.out HLT.out (fun i hi hlt => HJ.out i hi (by omega))))
     go_wp2_with fail
     go_roundw
     case rel => exact ⟨0 + 1, by omega, by go_num, HGD, bthen hbkp hbv⟩
     case measure => simp [intOf]; omega
   ·obtain ⟨jj, rfl⟩ : ∃ j, k = j + 1 := ⟨k - 1, by omega⟩
    have hjl : jj < l.length := by omega
    obtain ⟨b1', o1', he1, _, cs', hcl', hcell', rfl, g0', g1', _, _⟩ := (HL.out.2.2.below rMeta_good hbw) jj hjl
    simp only [Option.some.injEq, Addr.mk.injEq, and_true] at he1
    obtain ⟨rfl, rfl⟩ := he1
    have j0 := hcell' 0 _ rfl
    rw [Nat.add_zero] at j0
    have qj : ∀ W, Below wp.heap.size wp W → W.cell? ⟨b1, o1 + jj * 4, none⟩ = some (.int .i64 l[jj].fNo) := fun W hb => ((bthen hbp hb).cell (p := ⟨b1, o1 + jj * 4, none⟩) hB').trans j0
    have HLN : Hid (lastNo (l.take (jj + 1)) = l[jj].fNo) := lastNo_take hjl
    have hwr : IntKind.i64.wrap (jj : Int) = (jj : Int) := by rw [IntKind.wrap_i64]; omega
    have hj1 : (0 : Int) ≤ (jj : Int) := by omega
    have hj2 : (jj : Int) < (n : Int) := by omega
    clear hcell' hcl' j0 g0' g1'
    generalize l[jj].fNo = pn at *
    by_cases hP : pn < x.fNo
    ·have HLT : Hid (lastNo (l.take (jj + 1)) < x.fNo) := by show _ < _; rw [HLN.out]; exact hP
     have hP2 : decide (x.fNo ≤ pn) = false := decide_eq_false (by omega)
     go_wp2_with fail
     rw [← hwp]
     clear hwp
     refine wp_region_held_drew (S := fun W => Below wp.heap.size wp W) (by kernel_rfl) (Below.drew (Below.refl _ _)) (fun hHeld => ?_)
     refine uq 0 qa26_24_7_0 38 hHeld ?_
     refine uq 1 qa26_24_7_1 39 hHeld ?_
     refine ar1 2 qa26_24_7_2 fun K hK => ?_
     go_simp
     refine Calls.mono (hCm _) ?_
     rintro e w1 ⟨rfl, hx1⟩
     go_wp2_with fail
     refine hK.out _ _ (bthen hHeld hx1) (fun hHeld => ?_)
     clear hK K
     try simp only[Act.put,sa,s0,s1]
     refine uq 3 qa26_24_7_3 41 hHeld ?_
     refine uq 4 qa26_24_7_4 42 hHeld ?_
     refine uq 5 qa26_24_7_5 43 hHeld ?_
     refine uq 6 qa26_24_7_6 44 hHeld ?_
     refine uq 7 qa26_24_7_7 45 hHeld ?_
     refine uq 8 qa26_24_7_8 46 hHeld ?_
     refine uq 9 qa26_24_7_9 47 hHeld ?_
     refine uq 10 qa26_24_7_10 48 hHeld ?_
     refine uq 11 qa26_24_7_11 49 hHeld ?_
     refine uq 12 qa26_24_7_12 50 hHeld ?_
     refine uq 13 qa26_24_7_13 51 hHeld ?_
     refine uq 14 qa26_24_7_14 52 hHeld ?_
     refine uq 15 qa26_24_7_15 53 hHeld ?_
     refine uq 16 qa26_24_7_16 54 hHeld ?_
     refine uq 17 qa26_24_7_17 55 hHeld ?_
     refine uq 18 qa26_24_7_18 56 hHeld ?_
     refine uq 19 qa26_24_7_19 57 hHeld ?_
     refine wpAnyH_done (by kernel_rfl) ?_ _
     generalize wr = wo at *
     go_wp2_with fail
     go_loopw [5] (fun i wr => ∃ j : Nat, j ≤ (jj + 1) ∧ i = .int .i64 j ∧ Hid (∀ i, (hi : i < l.length) → i < j → meetP x l[i] = false) ∧ Below wp.heap.size wp wr) (fun i _ => (jj + 1) - (intOf i).toNat)
     case atStart => exact ⟨0, Nat.zero_le _, rfl, fun i _ h => by omega, hHeld⟩
     case round =>
      obtain ⟨j, hj, rfl, HJ, hbv⟩ := hrel
      by_cases hlt2 : j < (jj + 1)
      ·have hjl2 : j < l.length := by omega
       obtain ⟨b2, o2, he2, _, cs2, hcl2, hcell2, rfl, e0, e1, e2, e3, _⟩ := (HL.out.2.2.below rMeta_good (bthen (bthen hbw hbp) hbv)) j hjl2
       simp only [Option.some.injEq, Addr.mk.injEq, and_true] at he2
       obtain ⟨rfl, rfl⟩ := he2
       have c0' := hcell2 0 _ rfl
       have c1 := hcell2 1 _ rfl
       have c2 := hcell2 2 _ rfl
       have c3 := hcell2 3 _ rfl
       rw [Nat.add_zero] at c0'
       have HN0 : Hid (meetP x l[j] = false → ∀ i, (hi : i < l.length) → i < j + 1 → meetP x l[i] = false) := fun h i hi hlt => by
        by_cases he : i = j
        ·subst he; exact h
        ·exact HJ.out i hi (by omega)
       have HB0 : Hid (meetP x l[j] = true → manOkP m = false) := fun h => HBad.out (tabAt_bad3 (by omega) hjl2 h)
       have HMU : Hid (meetP x l[j] = (decide (0 < x.fLevel) && decide (l[j].fLevel = x.fLevel) && kLe l[j].fLo x.fHi && kLe x.fLo l[j].fHi)) := rfl
       clear hcell2 hcl2 p0 q0 q1 qj hCm
       replace p1 := p1 _ hbv
       replace p2 := p2 _ hbv
       replace p3 := p3 _ hbv
       replace q2 := q2 _ hbv
       have hv1 : w.heap.size < wr.heap.size := Nat.lt_of_lt_of_le hlr (Nat.le_trans hbp.size hbv.size)
       have hv2 : wo.heap.size < wr.heap.size := Nat.lt_of_lt_of_le hbxp.1 hbv.size
       have hv3 : b1 < wr.heap.size := by omega
       generalize meetP x l[j] = mt at *
       generalize l[j] = u at *
       by_cases hL0 : 0 < x.fLevel
       rotate_left
       ·have HN := Hid.mk (HN0.out (by rw [HMU.out, decide_eq_false hL0]; rfl))
        go_wp2_with fail
        go_roundw
        case rel => exact ⟨j + 1, by omega, by go_num, HN, bthen hbv ((Below.refl _ _).alloc (Nat.le_refl _) _)⟩
        case measure => simp [intOf]; omega
       by_cases hL1 : u.fLevel = x.fLevel
       rotate_left
       ·have HN := Hid.mk (HN0.out (by rw [HMU.out, decide_eq_false hL1]; simp))
        go_wp2_with fail
        go_roundw
        case rel => exact ⟨j + 1, by omega, by go_num, HN, bthen hbv ((Below.refl _ _).alloc (Nat.le_refl _) _)⟩
        case measure => simp [intOf]; omega
       have HMU2 : Hid (mt = (kLe u.fLo x.fHi && kLe x.fLo u.fHi)) := by show _ = _; rw [HMU.out, decide_eq_true hL0, decide_eq_true hL1]; rfl
       clear HMU
       rw [hL1] at c1
       clear hL1
       by_cases hK1 : kLe u.fLo x.fHi = true
       rotate_left
       ·have hK1f := Bool.eq_false_iff.2 hK1
        have HN := Hid.mk (HN0.out (by rw [HMU2.out, hK1f]; rfl))
        obtain ⟨hq1, hq2⟩ := kLe_no hK1f
        clear hK1 hK1f
        go_wp2_with fail
        go_roundw
        case rel => exact ⟨j + 1, by omega, by go_num, HN, bthen hbv ((Below.refl _ _).alloc (Nat.le_refl _) _)⟩
        case measure => simp [intOf]; omega
       by_cases hK2 : kLe x.fLo u.fHi = true
       rotate_left
       ·have hK2f := Bool.eq_false_iff.2 hK2
        have HN := Hid.mk (HN0.out (by rw [HMU2.out, hK2f]; simp))
        obtain ⟨hq1, hq2⟩ := kLe_no hK2f
        have hr := kLe_yes hK1
        clear hK1 hK2 hK2f
        rcases hr with hr | hr
        ·go_wp2_with fail
         go_roundw
         case rel => exact ⟨j + 1, by omega, by go_num, HN, bthen hbv ((Below.refl _ _).alloc (Nat.le_refl _) _)⟩
         case measure => simp [intOf]; omega
        ·go_wp2_with fail
         go_roundw
         case rel => exact ⟨j + 1, by omega, by go_num, HN, bthen hbv ((Below.refl _ _).alloc (Nat.le_refl _) _)⟩
         case measure => simp [intOf]; omega
       have HD : Hid (manOkP m = false) := HB0.out (by rw [HMU2.out, hK1, hK2]; rfl)
       have hr := kLe_yes hK1
       have hs := kLe_yes hK2
       clear hK1 hK2
       rcases hr with hr | hr
       ·rcases hs with hs | hs
        ·go_wp2_with fail
         go_ret
         exact ⟨by rw [HD.out]; rfl, bthen hbq (bthen hbkp (bthen hbv ((Below.refl _ _).alloc (Nat.le_refl _) _)))⟩
        ·go_wp2_with fail
         go_ret
         exact ⟨by rw [HD.out]; rfl, bthen hbq (bthen hbkp (bthen hbv ((Below.refl _ _).alloc (Nat.le_refl _) _)))⟩
       ·rcases hs with hs | hs
        ·go_wp2_with fail
         go_ret
         exact ⟨by rw [HD.out]; rfl, bthen hbq (bthen hbkp (bthen hbv ((Below.refl _ _).alloc (Nat.le_refl _) _)))⟩
        ·go_wp2_with fail
         go_ret
         exact ⟨by rw [HD.out]; rfl, bthen hbq (bthen hbkp (bthen hbv ((Below.refl _ _).alloc (Nat.le_refl _) _)))⟩
      ·have hje : j = (jj + 1) := by omega
       subst hje
       have HGD := Hid.mk (HG.out (tabAt_good HM.out HLT.out (fun i hi hlt => HJ.out i hi (by omega))))
       go_wp2_with fail
       go_roundw
       case rel => exact ⟨(jj + 1) + 1, by omega, by go_num, HGD, bthen hbkp hbv⟩
       case measure => simp [intOf]; omega
    ·have HD : Hid (manOkP m = false) := HBad.out (tabAt_bad2 (by rw [HLN.out]; omega))
     have hP2 : x.fNo ≤ pn := by omega
     go_wp2_with fail
     rw [← hwp]
     clear hwp
     refine wp_region_held_drew (S := fun W => Below wp.heap.size wp W) (by kernel_rfl) (Below.drew (Below.refl _ _)) (fun hHeld => ?_)
     refine uq 0 qa26_24_7_0 38 hHeld ?_
     refine uq 1 qa26_24_7_1 39 hHeld ?_
     refine ar1 2 qa26_24_7_2 fun K hK => ?_
     go_simp
     refine Calls.mono (hCm _) ?_
     rintro e w1 ⟨rfl, hx1⟩
     go_wp2_with fail
     refine hK.out _ _ (bthen hHeld hx1) (fun hHeld => ?_)
     clear hK K
     try simp only[Act.put,sa,s0,s1]
     refine uq 3 qa26_24_7_3 41 hHeld ?_
     refine uq 4 qa26_24_7_4 42 hHeld ?_
     refine uq 5 qa26_24_7_5 43 hHeld ?_
     refine uq 6 qa26_24_7_6 44 hHeld ?_
     refine uq 7 qa26_24_7_7 45 hHeld ?_
     refine uq 8 qa26_24_7_8 46 hHeld ?_
     refine uq 9 qa26_24_7_9 47 hHeld ?_
     refine uq 10 qa26_24_7_10 48 hHeld ?_
     refine uq 11 qa26_24_7_11 49 hHeld ?_
     refine uq 12 qa26_24_7_12 50 hHeld ?_
     refine uq 13 qa26_24_7_13 51 hHeld ?_
     refine uq 14 qa26_24_7_14 52 hHeld ?_
     refine uq 15 qa26_24_7_15 53 hHeld ?_
     refine uq 16 qa26_24_7_16 54 hHeld ?_
     refine uq 17 qa26_24_7_17 55 hHeld ?_
     refine uq 18 qa26_24_7_18 56 hHeld ?_
     refine uq 19 qa26_24_7_19 57 hHeld ?_
     refine wpAnyH_done (by kernel_rfl) ?_ _
     go_wp2_with fail
     go_ret
     exact ⟨by rw [HD.out]; rfl, bthen hbq (bthen hbkp hHeld)⟩
  ·have HD : Hid (manOkP m = true) := by show _ = _; rw [HV2.out, HI.out]; exact tabs_end (by rw [HX.out]; omega)
   go_wp2_with fail
   go_ret
   exact ⟨by rw [HD.out]; rfl, hbw⟩
end Go.Proofs.YtddejboifpepcaaGreatDoor
