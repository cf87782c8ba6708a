/-
  Part 16 of the texts that the proof leans on.
-/
import Derived.Test.YtegonncmopecnaaGreatDoorMnd10
import Derived.Test.YtegonncmopecnaaGreatDoorMnd1
import Derived.Test.YtegonncmopecnaaGreatDoorMnd3
import Derived.Test.YtegonncmopecnaaGreatDoorMnd7
import Derived.Test.YtegonncmopecnaaGreatDoorMnd6
import Derived.Test.YtegonncmopecnaaGreatDoorMnd0
import Derived.Test.YtegonncmopecnaaGreatDoorMnd11
import Derived.Test.YtegonncmopecnaaGreatDoorMnd13
set_option linter.unusedVariables false
set_option linter.unusedSimpArgs false
set_option maxRecDepth 10000

namespace Go.Proofs.YtegonncmopecnaaGreatDoor
open Go.RowKit Go.Maps
theorem wpList_append_lit {P : Program} (w : World) {ops : Array Oper} {rest : List Oper} {o : Oper} {a : Act} {Q : Exit -> Act -> World -> Prop} (hgd : o.guard = none) (s x : Operand) (t tx : TypeId)
  (ho : o.op = .call { callee := .builtin .append, args := #[s, x], argTypes := #[t, tx] })
  (base : Nat) (e : TypeId) (i : TypeInfo) (z : Value) (size bytes : Nat) (ht : P.underlying t = some (.slice e)) (hi : P.info? e = some i) (hz : i.zero = some z)
  (hsize : i.size = size) (hby : i.bytes = bytes) (hzs : z.cells.size = size)
  (g : Nat) (hs : a.eval s = .slice (some ⟨g, 0, none⟩) 0 0) (hown : w.ownsRow base e size (.slice (some ⟨g, 0, none⟩) 0 0) 0 [])
  (y : Value) (hy : a.eval x = y) (m : Nat) (news : List Value) (hx : Src P size tx y m news w)
  (h63 : m <= maxLen) (hbytes : m * bytes <= 140737488355328) (hbase : base <= w.heap.size)
  (h : ∀ v' w', w'.ownsRow base e size v' m news -> Below w.heap.size w w' -> (v'.ownBlock = some g ∨ v'.ownBlock = some w.heap.size) -> wpList P ops Q rest (a.put o.dst v') w') : wpList P ops Q (o :: rest) a w := by
 refine wpList_plain hgd fun K hK => ?_
 subst hy
 obtain ⟨v', w', hr, h2, h3, h4⟩ := run_append_lit (P := P) w base t tx o.type e i z size bytes ht hi hz hsize hby hzs g hown (a.eval x) m news hx h63 hbytes hbase
 unfold Oper.wp execOp
 simp only [ho, resolve, invoke, builtin, Sem.run_bind, Sem.run_pure, Result.andThen_ok, List.map_toArray, List.map_cons, List.map_nil, hs, hr]
 exact hK _ _ (h v' w' h2 h3 h4)
set_option maxHeartbeats 4000000 in
theorem specSyncDir_o (cs : List Value) (m : MDisk) (w : World) (hr : rDisk w.heap.size w cs m) (hw : wDisk m <= 1048576) :
  Calls Tryz.prog 39 #[.agg cs.toArray] w fun e w' => ∃ cs' : List Value, e = .returned (.tuple #[.agg cs'.toArray, .int .i64 (syncDirC m)]) /\ (∃ F, oDisk w' cs' (syncDirP m) F /\ ∀ b, b ∈ F -> w.heap.size <= b) /\ Below w.heap.size w w' := by
 have hq := hr
 obtain ⟨a0, c0, a1, c1, a2, c2, rfl, hI, hNm, hSf, hnx, _⟩ := hq
 have hw2 : m.fInodes.length + sumW wInode m.fInodes + (m.fNames.length + sumW wEntry m.fNames) + (m.fSafe.length + sumW wEntry m.fSafe) <= 1048576 := hw
 have HW := Hm hw
 have HR := Hm hr
 clear hr hI hNm hSf hw
 obtain ⟨iE, hiE, hzE0, hzE1, hzE2⟩ := info_parts Tryz.infoOfEntry
 go_enter Tryz.func39, Tryz.ntmps39
 go_wp2_with fail
 obtain ⟨wq, hwq⟩ : ∃ wq, wq = ((w.alloc (.cells #[.slice a0 m.fInodes.length c0, .slice a1 m.fNames.length c1, .slice a2 m.fSafe.length c2, .int .i64 m.fNext] 27)).alloc (.cells #[.slice none 0 0, .slice none 0 0, .slice none 0 0, .int .i64 0] 27)) := ⟨_, rfl⟩
 have hbW : Below w.heap.size w wq := by rw [hwq]; exact Below.alloc (Below.alloc rB (by exact rN) _) (by simp; try omega) _
 have hbd : Bw wq (w.heap.size) 27 [.slice a0 m.fInodes.length c0, .slice a1 m.fNames.length c1, .slice a2 m.fSafe.length c2, .int .i64 m.fNext] := by rw [hwq]; exact Bw.alloc (Bw.new' _ _ _ (by simp)) _
 have hbr : Bw wq (w.heap.size + 1) 27 [.slice none 0 0, .slice none 0 0, .slice none 0 0, .int .i64 0] := by rw [hwq]; exact Bw.new' _ _ _ (by simp)
 rw [<- hwq]
 clear hwq
 refine (l2Copy_any _ m wq (rDisk_good.mono (rDisk_good.below HR.out hbW) hbW.size) HW.out).mono ?_
 rintro e w1 ⟨cs2, F2, rfl, ho2, hN2, hge2, hx1⟩
 obtain ⟨d0, e0, d1, e1, d2, e2, G0, G1, G2, rfl, o0, o1, o2, _, rfl⟩ := oDisk_cells ho2
 have HO0 := Hm o0
 have HO1 := Hm o1
 have HO2 := Hm o2
 have HO := Hm ho2
 have HN := Hm hN2
 have HGE : Hid (∀ b, b ∈ G0 ++ G1 ++ G2 ++ [] -> wq.heap.size <= b) := hge2
 have HLT : Hid (∀ b, b ∈ G0 ++ G1 ++ G2 ++ [] -> b < w1.heap.size) := fun b hb => oDisk_good.lt ho2 b hb
 clear ho2 hN2 hge2 o0 o1 o2
 have hb1 := bthen hbW hx1
 have hbd1 := hbd.under hx1
 have hbr1 := hbr.under hx1
 have hz1 := hx1.size
 have hzW := hbW.size
 have hl0 := hbr.lt
 obtain ⟨y0, y1, y2, y3⟩ := hbd1.c4
 have hl1 := hbd1.lt
 go_wp2_with fail
 obtain ⟨wa, hwa⟩ : ∃ wa, wa = w1.alloc (.cells #[.slice d0 m.fInodes.length e0, .slice d1 m.fNames.length e1, .slice d2 m.fSafe.length e2, .int .i64 m.fNext] 27) := ⟨_, rfl⟩
 have hba : Below w1.heap.size w1 wa := by rw [hwa]; exact rB.alloc rN _
 have hwb0 : Bw wa w1.heap.size 27 [.slice d0 m.fInodes.length e0, .slice d1 m.fNames.length e1, .slice d2 m.fSafe.length e2, .int .i64 m.fNext] := by rw [hwa]; exact Bw.new _ _ _
 rw [<- hwa]
 clear hwa
 have hba1 := bthen hb1 hba
 have hbda := (hbd1.under hba)
 refine (specDiskOk_c _ m wa (rDisk_good.mono (rDisk_good.below HR.out hba1) hba1.size) HW.out).mono ?_
 rintro e w2 ⟨rfl, hx2⟩
 have hb12 := bthen hba hx2
 have hb2 := bthen hba1 hx2
 have hwb := hwb0.under hx2
 have hbr2 := (hbr1.under hba).under hx2
 have hbd2 := hbda.under hx2
 clear hwb0 hbda hbd1 y0 y1 y2 y3
 obtain ⟨zo0, zo1, zo2, zo3⟩ := hwb.c4
 by_cases hK : diskOk m = true
 ·have HV : Hid (syncDirP m = keepD { m with fSafe := m.fNames } /\ syncDirC m = 0) := by refine ⟨?_, ?_⟩ <;> simp [syncDirP, syncDirC, hK]
  have hsok := syncDir_ok hK
  have HE : Hid (endsD m { m with fSafe := m.fNames } = keepD { m with fSafe := m.fNames } /\ endsC { m with fSafe := m.fNames } = 0) := by refine ⟨?_, ?_⟩ <;> simp only [endsD, endsC, hsok, if_true]
  have hwt := ok_weight hK
  have HWK1 : Hid (wDisk { m with fSafe := m.fNames } <= 16777216) := by show _ <= _; rw [wDisk_eq]; simp only; omega
  rw [hK]
  clear hK hsok
  have hbL : Below w2.heap.size w2 (w2.alloc (.cells #[] 74)) := rB.alloc rN _
  have hlf : LeafL 2 rEntry (w2.alloc (.cells #[] 74)).heap.size (w2.alloc (.cells #[] 74)) d1 e1 m.fNames := ownS.leaf oEntry_good (ownS.frame oEntry_good HO1.out (fun b hbF => (bthen hb12 hbL).block b (HLT.out b (by simp [hbF]))))
  obtain ⟨css, s1, s2, s3, s4⟩ := Src.ents (P := Tryz.prog) (c := e1) (n := m.fNames.length) Tryz.underlying25 rfl hlf.2.2
  have hlo := hwb.lt
  have fo2 := hwb.free 2
  have HBL := Hm hbL
  clear hlf hbL
  go_wp2_with (at_builtin; refine wpList_append_lit _ rfl _ _ 25 25 rfl w2.heap.size 74 iE _ 2 24 Tryz.underlying25 hiE hzE0 hzE1 hzE2 rfl w2.heap.size rfl (own_lit0 w2 w2.heap.size _ _ rN) (.slice d1 m.fNames.length e1) rfl m.fNames.length css.flatten s4 (by unfold maxLen; omega) (by omega) (by simp) ?_; intro v3 w3 hw3 hx3 hat3; obtain ⟨r3, q3, rfl⟩ := own_slice hw3; have hx23 := bthen HBL.out hx3; have zf2 := (hwb.under hx23).free 2; have hl3 := (hwb.under hx23).lt; have hl3d := (hbd2.under hx23).lt; have yd0 := (hbd2.under hx23).cell 0 _ rfl; have yd1 := (hbd2.under hx23).cell 1 _ rfl; have yd2 := (hbd2.under hx23).cell 2 _ rfl; have yd3 := (hbd2.under hx23).cell 3 _ rfl; have zd0 := (hwb.under hx23).cell 0 _ rfl; have zd1 := (hwb.under hx23).cell 1 _ rfl; have zd2 := (hwb.under hx23).cell 2 _ rfl; have zd3 := (hwb.under hx23).cell 3 _ rfl)
  have hos3 := ownS_row rfl s1 s2 s3 hw3
  have HGS : Hid (∀ b, b ∈ (Value.ownBlock (.slice r3 m.fNames.length q3)).toList -> w2.heap.size <= b) := fun b hb => (hw3.lt b (by simpa using hb)).1
  obtain ⟨ws, hws⟩ : ∃ ws, ws = w3.setCell ⟨w1.heap.size, 2, none⟩ (.slice r3 m.fNames.length q3) := ⟨_, rfl⟩
  have hTs : Turn [w1.heap.size] w3 ws := by rw [hws]; exact Turn.setCell (Turn.refl _ _) (by simp) _
  have hwb3 := hwb.under hx23
  have hwbs : Bw ws w1.heap.size 27 [.slice d0 m.fInodes.length e0, .slice d1 m.fNames.length e1, .slice r3 m.fNames.length q3, .int .i64 m.fNext] := by rw [hws]; exact hwb3.put 2 _
  have hbds := (hbd2.under hx23).turn hTs (by simp; omega)
  have hbrs := (hbr2.under hx23).turn hTs (by simp; omega)
  have hb3 := bthen hb2 hx23
  have hBs : Below w.heap.size w ws := hb3.trans (hTs.below (fun k hk => by simp at hk; omega) hb3.size)
  have hfr : ∀ b, b ∈ G0 ++ G1 ++ G2 ++ [] -> ws.heap[b]? = w1.heap[b]? := fun b hb => by
   have h1 := HLT.out b hb
   rw [hTs.block b (by have := (bthen hb12 hx23).size; omega) (by simp; omega), (bthen hb12 hx23).block b h1]
  have t0 := ownS.frame (w' := ws) oInode_good HO0.out (fun b hb => hfr b (by simp [hb]))
  have t1 := ownS.frame (w' := ws) oEntry_good HO1.out (fun b hb => hfr b (by simp [hb]))
  have hz12 := hb12.size
  have t2 := ownS.frame (w' := ws) oEntry_good hos3 (fun b hb => hTs.block b (ownS.lt oEntry_good hos3 b hb) (by intro h; simp at h; have := HGS.out b hb; omega))
  have HT0 := Hm t0
  have HT1 := Hm t1
  have HT2 := Hm t2
  have HBS := Hm hBs
  have HSUB : Hid (∀ b, b ∈ G0 ++ G1 ++ (Value.ownBlock (.slice r3 m.fNames.length q3)).toList -> w.heap.size + 2 <= b) := by
   intro b hb
   rw [List.mem_append, List.mem_append] at hb
   rcases hb with (hb | hb) | hb
   ·have := HGE.out b (by simp [hb]); omega
   ·have := HGE.out b (by simp [hb]); omega
   ·have := HGS.out b hb; omega
  rw [<- hws]
  clear hws t0 t1 t2 hfr hos3 hTs zf2 zo0 zo1 zo2 zo3 fo2 hw3 s4 yd0 yd1 yd2 yd3 zd0 zd1 zd2 zd3
  refine (l2Ends_any _ d0 d1 r3 e0 e1 q3 m { m with fSafe := m.fNames } G0 G1 _ ws (rDisk_good.mono (rDisk_good.below HR.out HBS.out) HBS.out.size) HW.out HT0.out HT1.out HT2.out hnx HWK1.out (by simp only; omega)).mono ?_
  rintro e w4 ⟨cs4, F4, rfl, ho4, hF4, hx4⟩
  have hb4 := bthen HBS.out hx4
  have hbr4 := hbrs.under hx4
  have hl4 := hbr4.lt
  have hzE := HBS.out.size
  have hlE := hbrs.lt
  rw [HE.out.1] at ho4
  obtain ⟨q0, p0, q1, p1, q2, p2, E0, E1, E2, rfl, _, _, _, _, rfl⟩ := oDisk_cells ho4
  have hkey : ∀ W', Turn [w.heap.size + 1] w4 W' -> (∃ F, oDisk W' [.slice q0 (keepD { m with fSafe := m.fNames }).fInodes.length p0, .slice q1 (keepD { m with fSafe := m.fNames }).fNames.length p1, .slice q2 (keepD { m with fSafe := m.fNames }).fSafe.length p2, .int .i64 (keepD { m with fSafe := m.fNames }).fNext] (keepD { m with fSafe := m.fNames }) F /\ ∀ b, b ∈ F -> w.heap.size <= b) /\ Below w.heap.size w W' := fun W' hT =>
   ⟨⟨_, oDisk_good.frame ho4 (fun b hb => hT.block b (oDisk_good.lt ho4 b hb) (fun h => by simp at h; rcases hF4 b hb with h2 | h2; (have := HSUB.out b h2; omega); omega)), fun b hb => by first | (have := hG3 b hb; omega) | (have := hge b hb; omega) | (rcases hF4 b hb with h2 | h2; (have := HSUB.out b h2; omega); omega)⟩, hb4.trans (hT.below (fun k hk => by simp at hk; omega) hb4.size)⟩
  have HKEY := Hm hkey
  clear hkey ho4 hF4
  obtain ⟨ze0, ze1, ze2, ze3⟩ := hbr4.c4
  obtain ⟨zf0, zf1, zf2, zf3⟩ := hbr4.f4
  have HEC : Hid (endsC { m with fSafe := m.fNames } = 0) := HE.out.2
  rw [HEC.out]
  go_wp2_with fail
  obtain ⟨h1, h3⟩ := HKEY.out _ (show Turn [w.heap.size + 1] w4 ((((w4.setCell ⟨w.heap.size + 1, 0, none⟩ (.slice q0 (keepD { m with fSafe := m.fNames }).fInodes.length p0)).setCell ⟨w.heap.size + 1, 1, none⟩ (.slice q1 (keepD { m with fSafe := m.fNames }).fNames.length p1)).setCell ⟨w.heap.size + 1, 2, none⟩ (.slice q2 (keepD { m with fSafe := m.fNames }).fSafe.length p2)).setCell ⟨w.heap.size + 1, 3, none⟩ (.int .i64 (keepD { m with fSafe := m.fNames }).fNext)) from turn4 _ _ _ _ _ _)
  exact bodyPost_ret (v := .tuple #[.agg #[.slice q0 (keepD { m with fSafe := m.fNames }).fInodes.length p0, .slice q1 (keepD { m with fSafe := m.fNames }).fNames.length p1, .slice q2 (keepD { m with fSafe := m.fNames }).fSafe.length p2, .int .i64 (keepD { m with fSafe := m.fNames }).fNext], .int .i64 0]) (by simp [results, Tryz.results39, go_sem, *]) rfl ⟨[.slice q0 (keepD { m with fSafe := m.fNames }).fInodes.length p0, .slice q1 (keepD { m with fSafe := m.fNames }).fNames.length p1, .slice q2 (keepD { m with fSafe := m.fNames }).fSafe.length p2, .int .i64 (keepD { m with fSafe := m.fNames }).fNext], by rw [HV.out.2], by rw [HV.out.1]; exact h1, h3⟩
 ·have hK2 : diskOk m = false := Bool.eq_false_iff.2 hK
  have HV : Hid (syncDirP m = m /\ syncDirC m = 1) := by refine ⟨?_, ?_⟩ <;> simp [syncDirP, syncDirC, hK2]
  have HCP : Hid (syncDirC m = 1) := HV.out.2
  rw [hK2]
  clear hK hK2
  obtain ⟨ze0, zf0, ze1, zf1, ze2, zf2, ze3, zf3⟩ := hbr2.c8
  have hlt0 := hbr2.lt
  have hO3 : oDisk w2 [.slice d0 m.fInodes.length e0, .slice d1 m.fNames.length e1, .slice d2 m.fSafe.length e2, .int .i64 m.fNext] (syncDirP m) (G0 ++ G1 ++ G2 ++ []) := by rw [HV.out.1]; exact oDisk_good.frame HO.out (fun b hb => hb12.block b (HLT.out b hb))
  have hG3 : ∀ b, b ∈ G0 ++ G1 ++ G2 ++ [] -> w.heap.size + 2 <= b := fun b hb => by have := HGE.out b hb; omega
  have HBf := Hm hb2
  have HO3 := Hm hO3
  clear hO3
  go_wp2_with fail
  refine bodyPost_ret (v := .tuple #[.agg #[.slice d0 m.fInodes.length e0, .slice d1 m.fNames.length e1, .slice d2 m.fSafe.length e2, .int .i64 m.fNext], .int .i64 1]) (by simp [results, Tryz.results39, go_sem, *]) rfl ⟨[.slice d0 m.fInodes.length e0, .slice d1 m.fNames.length e1, .slice d2 m.fSafe.length e2, .int .i64 m.fNext], by first | rfl | rw [HCP.out], ?_, ?_⟩
  ·exact ⟨_, oDisk_good.frame HO3.out (fun b hb => (show Turn [w.heap.size + 1] w2 _ from by repeat (first | with_reducible exact Turn.refl _ _ | with_reducible refine Turn.setCell ?_ (by simp) _ | with_reducible refine Turn.alloc ?_ _ | with_reducible refine Turn.drew ?_)).block b (oDisk_good.lt HO3.out b hb) (by intro h; simp at h; have := hG3 b hb; omega)), fun b hb => by first | (have := hG3 b hb; omega) | (have := hge b hb; omega) | (rcases hF4 b hb with h2 | h2; (have := HSUB.out b h2; omega); omega)⟩
  ·exact HBf.out.trans ((show Turn [w.heap.size + 1] w2 _ from by repeat (first | with_reducible exact Turn.refl _ _ | with_reducible refine Turn.setCell ?_ (by simp) _ | with_reducible refine Turn.alloc ?_ _ | with_reducible refine Turn.drew ?_)).below (fun k hk => by simp at hk; omega) HBf.out.size)
theorem specSyncDir_c (cs : List Value) (m : MDisk) (w : World) (hr : rDisk w.heap.size w cs m) (hw : wDisk m <= 1048576) :
  Calls Tryz.prog 39 #[.agg cs.toArray] w fun e w' => ∃ cs' : List Value, e = .returned (.tuple #[.agg cs'.toArray, .int .i64 (syncDirC m)]) /\ rDisk w'.heap.size w' cs' (syncDirP m) /\ Below w.heap.size w w' :=
 (specSyncDir_o cs m w hr hw).mono fun e w' ⟨cs', he, ⟨F, ho, _⟩, hx⟩ => ⟨cs', he, oDisk_good.read ho, hx⟩
set_option maxHeartbeats 2000000 in
theorem l2Without_any (a : Option Addr) (n c : Nat) (l : List MEntry) (s : ByteArray) (w : World) (hx : l.length = n) (hn : n <= 1048576) (hl : LeafL 2 rEntry w.heap.size w a c l) :
  Calls Tryz.prog 88 #[.slice a n c, .string s] w fun e w' => ∃ (a' : Option Addr) (c' : Nat) (F : List Nat), e = .returned (.slice a' (without l s).length c') /\ ownS 2 74 oEntry w' (.slice a' (without l s).length c') (without l s) F /\ (∀ b, b ∈ F -> w.heap.size <= b) /\ Below w.heap.size w w' := by
 obtain ⟨iE, hiE, hzE0, hzE1, hzE2⟩ := info_parts Tryz.infoOfEntry
 have HX := Hm hx
 have HRS := Hm hl.2.2
 clear hx hl
 go_enter Tryz.func88, Tryz.ntmps88
 go_wp2_with fail
 go_loopw [5, 6] (fun v i wr => ∃ k : Nat, k <= n /\ i = .int .i64 k /\ RowR 2 74 rEntry w.heap.size wr w.heap.size v (without (l.take k) s) /\ Below w.heap.size w wr) (fun _ i _ => n - (intOf i).toNat)
 case atStart =>
  refine ⟨0, Nat.zero_le _, rfl, ⟨[], rfl, (fun _ h => by cases h), (fun _ h => by simp [without] at h), ?_⟩, Below.alloc rB rN _⟩
  have h := own_lit0 w w.heap.size 74 2 rN
  simpa [without] using h
 case round =>
  obtain ⟨k, hk, rfl, hrow, hbk⟩ := hrel
  have hbz := hbk.size
  by_cases hlt : k < n
  ·have hkl : k < l.length := by rw [HX.out]; exact hlt
   obtain ⟨b1, o1, rfl, hB, cs, hcl, hcell, hrE⟩ := (HRS.out.below rEntry_good hbk) k hkl
   have HRE := Hm hrE
   obtain ⟨rfl, hsz, hwf, _⟩ := hrE
   have k0 := hcell 0 _ rfl
   have k1 := hcell 1 _ rfl
   rw [Nat.add_zero] at k0
   have hfl : (without (l.take k) s).length <= 1048576 := Nat.le_trans (List.length_filter_le _ _) (by simp; omega)
   have HYes := Hm (fun h => filter_snoc_yes (p := fun e : MEntry => decide (e.fName ≠ s)) hkl h)
   have HNo := Hm (fun h => filter_snoc_no (p := fun e : MEntry => decide (e.fName ≠ s)) hkl h)
   have HB1 : Hid (b1 < wr.heap.size) := by show _ < _; omega
   clear hcell hcl
   obtain ⟨x, hx⟩ : ∃ x, l[k] = x := ⟨_, rfl⟩
   rw [hx] at HYes HNo HRE k0 k1
   clear hx hsz hwf
   obtain ⟨fl, hflq⟩ : ∃ fl, fl = without (l.take k) s := ⟨_, rfl⟩
   have HFQ : Hid (fl = (l.take k).filter fun e : MEntry => decide (e.fName ≠ s)) := hflq
   rw [<- hflq] at hrow hfl
   clear hflq
   by_cases he : x.fName = s
   ·have HF : Hid (without (l.take (k + 1)) s = fl) := by show _ = _; rw [HFQ.out]; exact HNo.out (by simp [he])
    have heb := str_same he
    have HRW := Hm hrow
    clear hrow HYes HNo he
    go_wp2_with fail
    go_roundw
    case rel => exact ⟨k + 1, by omega, by go_num, by rw [HF.out]; exact HRW.out, hbk⟩
    case measure => simp [intOf]; omega
   ·have HF : Hid (without (l.take (k + 1)) s = fl ++ [x]) := by show _ = _; rw [HFQ.out]; exact HYes.out (by simp [he])
    have heb := str_ne he
    obtain ⟨css, r1, r2, r3, r4⟩ := hrow
    have hB1 := HB1.out
    clear HYes HNo he
    go_wp2_with (at_builtin; refine wpList_append_own_at _ rfl _ _ 25 rfl w.heap.size 74 iE (.agg #[.string ⟨#[]⟩, .int .i64 0]) 2 24 Tryz.underlying25 hiE hzE0 hzE1 hzE2 rfl (by decide) _ _ _ rfl (own_below r4 (rB.alloc rN _)) ⟨wr.heap.size, 0, none⟩ 1 1 [.string x.fName, .int .i64 x.fId] rfl rfl (bx_news (Bx.new wr _ _)) (by intro u hu; simp at hu; rcases hu with rfl | rfl <;> rfl) (by unfold maxLen; omega) (by omega) (by simp; omega) ?_; intro v' w3 hown3 hgrow3 hnil hloc)
    have hT := Turn.after ((Below.refl wr.heap.size wr).alloc rN _) (turnOwn hgrow3)
    have hge : ∀ k, k ∈ (Value.ownBlock _).toList -> w.heap.size <= k := fun k hk => (r4.lt k (by simpa using hk)).1
    have hBl : Below w.heap.size wr w3 := Turn.below hT (fun k hk => hge k hk) hbz
    go_roundw
    case rel => exact ⟨k + 1, by omega, by go_num, by rw [HF.out]; exact RowR.push rEntry_good r1 r2 r3 hBl rfl (rEntry_good.below HRE.out hBl) hown3, hbk.trans hBl⟩
    case measure => simp [intOf]; omega
  ·have hkn : k = n := by omega
   have HT : Hid (l.take k = l) := by show _ = _; rw [hkn, <- HX.out]; exact List.take_length
   rw [HT.out] at hrow
   obtain ⟨css, r1, r2, r3, r4⟩ := hrow
   obtain ⟨a', c', rfl⟩ := own_slice r4
   have ho := ownS_row rfl r1 r2 r3 r4
   have HO := Hm ho
   have HGE : Hid (∀ b, b ∈ (Value.ownBlock (.slice a' (without l s).length c')).toList -> w.heap.size <= b) := fun b hb => (r4.lt b (by simpa using hb)).1
   clear ho r1 r2 r3 r4
   go_wp2_with fail
   go_ret
   exact ⟨a', c', _, rfl, HO.out, HGE.out, hbk⟩
abbrev q0d9_62_7_0 : Oper := ⟨some 35, .fieldAddr 27 (.tmp 8) 1, 0, "l02_files.go:198", #[], none⟩
abbrev q0d9_62_7_1 : Oper := ⟨some 36, .load 25 (.tmp 35), 25, "l02_files.go:198", #[⟨0, .data⟩], none⟩
abbrev q0d9_62_7_2 : Oper := ⟨some 37, .fieldAddr 27 (.tmp 8) 1, 0, "l02_files.go:198", #[], none⟩
abbrev q0d9_62_7_3 : Oper := ⟨some 38, .load 25 (.tmp 37), 25, "l02_files.go:198", #[⟨2, .data⟩], none⟩
abbrev q0d9_62_7_4 : Oper := ⟨some 39, .move (.tmp 1), 9, "l02_files.go:198", #[], none⟩
abbrev q0d9_62_7_5 : Oper := ⟨some 40, .call { callee := .value (.func 58), args := #[.tmp 38, .tmp 39], argTypes := #[25, 9] }, 3, "l02_files.go:198", #[⟨3, .data⟩, ⟨4, .data⟩], none⟩
abbrev q0d9_62_7_6 : Oper := ⟨some 41, .indexAddr 25 (.tmp 36) (.tmp 40), 0, "l02_files.go:198", #[⟨1, .data⟩, ⟨5, .data⟩], none⟩
abbrev q0d9_62_7_7 : Oper := ⟨some 42, .fieldAddr 74 (.tmp 41) 1, 0, "l02_files.go:198", #[⟨6, .data⟩], none⟩
abbrev q0d9_62_7_8 : Oper := ⟨some 43, .load 3 (.tmp 42), 3, "l02_files.go:198", #[⟨7, .data⟩], none⟩
abbrev q0d9_62_7_9 : Oper := ⟨some 10, .assign (.tmp 43), 3, "l02_files.go:198", #[⟨8, .data⟩, ⟨5, .chain⟩, ⟨0, .phase⟩, ⟨1, .phase⟩, ⟨2, .phase⟩, ⟨3, .phase⟩, ⟨4, .phase⟩, ⟨5, .phase⟩, ⟨6, .phase⟩, ⟨7, .phase⟩, ⟨8, .phase⟩], none⟩
set_option maxHeartbeats 4000000 in
theorem specRename_o (cs : List Value) (m : MDisk) (s t : ByteArray) (w : World) (hr : rDisk w.heap.size w cs m) (hs : s.size <= 9223372036854775807) (ht : t.size <= 9223372036854775807) (hw : wDisk m <= 1048576) (hw1 : s.size <= 1048576) (hwt1 : t.size <= 1048576) :
  Calls Tryz.prog 62 #[.agg cs.toArray, .string s, .string t] w fun e w' => ∃ cs' : List Value, e = .returned (.tuple #[.agg cs'.toArray, .int .i64 (renameC m s t)]) /\ (∃ F, oDisk w' cs' (renameP m s t) F /\ ∀ b, b ∈ F -> w.heap.size <= b) /\ Below w.heap.size w w' := by
 have hq := hr
 obtain ⟨a0, c0, a1, c1, a2, c2, rfl, hI, hNm, hSf, hnx, _⟩ := hq
 have hw2 : m.fInodes.length + sumW wInode m.fInodes + (m.fNames.length + sumW wEntry m.fNames) + (m.fSafe.length + sumW wEntry m.fSafe) <= 1048576 := hw
 have HW := Hm hw
 have HR := Hm hr
 clear hr hI hNm hSf hw
 go_enter Tryz.func62, Tryz.ntmps62
 go_wp2_with fail
 obtain ⟨wq, hwq⟩ : ∃ wq, wq = ((w.alloc (.cells #[.slice a0 m.fInodes.length c0, .slice a1 m.fNames.length c1, .slice a2 m.fSafe.length c2, .int .i64 m.fNext] 27)).alloc (.cells #[.slice none 0 0, .slice none 0 0, .slice none 0 0, .int .i64 0] 27)) := ⟨_, rfl⟩
 have hbW : Below w.heap.size w wq := by rw [hwq]; exact Below.alloc (Below.alloc rB (by exact rN) _) (by simp; try omega) _
 have hbd : Bw wq (w.heap.size) 27 [.slice a0 m.fInodes.length c0, .slice a1 m.fNames.length c1, .slice a2 m.fSafe.length c2, .int .i64 m.fNext] := by rw [hwq]; exact Bw.alloc (Bw.new' _ _ _ (by simp)) _
 have hbr : Bw wq (w.heap.size + 1) 27 [.slice none 0 0, .slice none 0 0, .slice none 0 0, .int .i64 0] := by rw [hwq]; exact Bw.new' _ _ _ (by simp)
 rw [<- hwq]
 clear hwq
 refine (l2Copy_any _ m wq (rDisk_good.mono (rDisk_good.below HR.out hbW) hbW.size) HW.out).mono ?_
 rintro e w1 ⟨cs2, F2, rfl, ho2, hN2, hge2, hx1⟩
 obtain ⟨d0, e0, d1, e1, d2, e2, G0, G1, G2, rfl, o0, o1, o2, _, rfl⟩ := oDisk_cells ho2
 have HO0 := Hm o0
 have HO1 := Hm o1
 have HO2 := Hm o2
 have HO := Hm ho2
 have HN := Hm hN2
 have HGE : Hid (∀ b, b ∈ G0 ++ G1 ++ G2 ++ [] -> wq.heap.size <= b) := hge2
 have HLT : Hid (∀ b, b ∈ G0 ++ G1 ++ G2 ++ [] -> b < w1.heap.size) := fun b hb => oDisk_good.lt ho2 b hb
 clear ho2 hN2 hge2 o0 o1 o2
 have hb1 := bthen hbW hx1
 have hbd1 := hbd.under hx1
 have hbr1 := hbr.under hx1
 have hz1 := hx1.size
 have hzW := hbW.size
 have hl0 := hbr.lt
 obtain ⟨y0, y1, y2, y3⟩ := hbd1.c4
 have hl1 := hbd1.lt
 go_wp2_with fail
 obtain ⟨wa, hwa⟩ : ∃ wa, wa = w1.alloc (.cells #[.slice d0 m.fInodes.length e0, .slice d1 m.fNames.length e1, .slice d2 m.fSafe.length e2, .int .i64 m.fNext] 27) := ⟨_, rfl⟩
 have hba : Below w1.heap.size w1 wa := by rw [hwa]; exact rB.alloc rN _
 have hwb0 : Bw wa w1.heap.size 27 [.slice d0 m.fInodes.length e0, .slice d1 m.fNames.length e1, .slice d2 m.fSafe.length e2, .int .i64 m.fNext] := by rw [hwa]; exact Bw.new _ _ _
 rw [<- hwa]
 clear hwa
 have hba1 := bthen hb1 hba
 have hbda := (hbd1.under hba)
 refine (l2Call_any _ m s wa (rDisk_good.mono (rDisk_good.below HR.out hba1) hba1.size) HW.out hs).mono ?_
 rintro e w2 ⟨rfl, hx2⟩
 have hb12 := bthen hba hx2
 have hb2 := bthen hba1 hx2
 have hwb := hwb0.under hx2
 have hbr2 := (hbr1.under hba).under hx2
 have hbd2 := hbda.under hx2
 clear hwb0 hbda hbd1 y0 y1 y2 y3
 obtain ⟨zo0, zo1, zo2, zo3⟩ := hwb.c4
 by_cases h1 : callP m s = 1
 ·have HCP : Hid (renameC m s t = 1) := by show _ = _; unfold renameC; rw [h1]; split <;> rfl
  have HV : Hid (renameP m s t = m) := by show _ = _; unfold renameP; rw [HCP.out]; rfl
  rw [h1]
  clear h1
  obtain ⟨ze0, zf0, ze1, zf1, ze2, zf2, ze3, zf3⟩ := hbr2.c8
  have hlt0 := hbr2.lt
  have hO3 : oDisk w2 [.slice d0 m.fInodes.length e0, .slice d1 m.fNames.length e1, .slice d2 m.fSafe.length e2, .int .i64 m.fNext] (renameP m s t) (G0 ++ G1 ++ G2 ++ []) := by rw [HV.out]; exact oDisk_good.frame HO.out (fun b hb => hb12.block b (HLT.out b hb))
  have hG3 : ∀ b, b ∈ G0 ++ G1 ++ G2 ++ [] -> w.heap.size + 2 <= b := fun b hb => by have := HGE.out b hb; omega
  have HBf := Hm hb2
  have HO3 := Hm hO3
  clear hO3
  go_wp2_with fail
  refine bodyPost_ret (v := .tuple #[.agg #[.slice d0 m.fInodes.length e0, .slice d1 m.fNames.length e1, .slice d2 m.fSafe.length e2, .int .i64 m.fNext], .int .i64 1]) (by simp [results, Tryz.results62, go_sem, *]) rfl ⟨[.slice d0 m.fInodes.length e0, .slice d1 m.fNames.length e1, .slice d2 m.fSafe.length e2, .int .i64 m.fNext], by first | rfl | rw [HCP.out], ?_, ?_⟩
  ·exact ⟨_, oDisk_good.frame HO3.out (fun b hb => (show Turn [w.heap.size + 1] w2 _ from by repeat (first | with_reducible exact Turn.refl _ _ | with_reducible refine Turn.setCell ?_ (by simp) _ | with_reducible refine Turn.alloc ?_ _ | with_reducible refine Turn.drew ?_)).block b (oDisk_good.lt HO3.out b hb) (by intro h; simp at h; have := hG3 b hb; omega)), fun b hb => by first | (have := hG3 b hb; omega) | (have := hge b hb; omega) | (rcases hF4 b hb with h2 | h2; (have := HSUB.out b h2; omega); omega)⟩
  ·exact HBf.out.trans ((show Turn [w.heap.size + 1] w2 _ from by repeat (first | with_reducible exact Turn.refl _ _ | with_reducible refine Turn.setCell ?_ (by simp) _ | with_reducible refine Turn.alloc ?_ _ | with_reducible refine Turn.drew ?_)).below (fun k hk => by simp at hk; omega) HBf.out.size)
 have hcn1 : (callP m s == 1) = false := beq_eq_false_iff_ne.2 h1
 by_cases hN0 : nameOk t = true
 ·have HRC : Hid (renameC m s t = callP m s) := by show _ = _; unfold renameC; rw [if_pos hN0]
  have hNt := hN0
  by_cases hC : callP m s = 0
  ·by_cases hst : s = t
   ·subst hst
    have HCP : Hid (renameC m s s = 0) := by show _ = _; rw [HRC.out, hC]
    have HV : Hid (renameP m s s = m) := by show _ = _; unfold renameP; rw [if_pos HCP.out]; exact rename_self hC
    rw [hC]
    clear hC h1 hcn1 hN0
    go_wp2_with fail
    refine (l2Name_any s _ hs).mono ?_
    rintro e w9 ⟨rfl, hw9⟩
    have hw8 := hw9.symm
    clear hw9
    subst hw8
    rw [hNt]
    obtain ⟨ze0, zf0, ze1, zf1, ze2, zf2, ze3, zf3⟩ := hbr2.c8
    have hlt0 := hbr2.lt
    have hO3 : oDisk w2 [.slice d0 m.fInodes.length e0, .slice d1 m.fNames.length e1, .slice d2 m.fSafe.length e2, .int .i64 m.fNext] (renameP m s s) (G0 ++ G1 ++ G2 ++ []) := by rw [HV.out]; exact oDisk_good.frame HO.out (fun b hb => hb12.block b (HLT.out b hb))
    have hG3 : ∀ b, b ∈ G0 ++ G1 ++ G2 ++ [] -> w.heap.size + 2 <= b := fun b hb => by have := HGE.out b hb; omega
    have HBf := Hm hb2
    have HO3 := Hm hO3
    clear hO3
    go_wp2_with fail
    refine bodyPost_ret (v := .tuple #[.agg #[.slice d0 m.fInodes.length e0, .slice d1 m.fNames.length e1, .slice d2 m.fSafe.length e2, .int .i64 m.fNext], .int .i64 0]) (by simp [results, Tryz.results62, go_sem, *]) rfl ⟨[.slice d0 m.fInodes.length e0, .slice d1 m.fNames.length e1, .slice d2 m.fSafe.length e2, .int .i64 m.fNext], by first | rfl | rw [HCP.out], ?_, ?_⟩
    ·exact ⟨_, oDisk_good.frame HO3.out (fun b hb => (show Turn [w.heap.size + 1] w2 _ from by repeat (first | with_reducible exact Turn.refl _ _ | with_reducible refine Turn.setCell ?_ (by simp) _ | with_reducible refine Turn.alloc ?_ _ | with_reducible refine Turn.drew ?_)).block b (oDisk_good.lt HO3.out b hb) (by intro h; simp at h; have := hG3 b hb; omega)), fun b hb => by first | (have := hG3 b hb; omega) | (have := hge b hb; omega) | (rcases hF4 b hb with h2 | h2; (have := HSUB.out b h2; omega); omega)⟩
    ·exact HBf.out.trans ((show Turn [w.heap.size + 1] w2 _ from by repeat (first | with_reducible exact Turn.refl _ _ | with_reducible refine Turn.setCell ?_ (by simp) _ | with_reducible refine Turn.alloc ?_ _ | with_reducible refine Turn.drew ?_)).below (fun k hk => by simp at hk; omega) HBf.out.size)
   ·have heb := str_ne hst
    have hgd := (call_good hC).1
    have hhn := (call_good hC).2.2
    have hrok := rename_ok (s := s) (t := t) hC hN0
    have HV : Hid (renameP m s t = keepD { m with fNames := renameN m s t } /\ renameC m s t = 0) := by
     have h0 : renameC m s t = 0 := HRC.out.trans hC
     refine ⟨?_, h0⟩; unfold renameP renameD; rw [if_pos h0]
    have HE : Hid (endsD m { m with fNames := renameN m s t } = keepD { m with fNames := renameN m s t } /\ endsC { m with fNames := renameN m s t } = 0) := by
     unfold renameD at hrok
     refine ⟨?_, ?_⟩ <;> simp only [endsD, endsC, hrok, if_true]
    have hDR := diskOk_iff.1 hgd
    have hRi : Rise m.fNames := hDR.names.rise
    have hsub : (without m.fNames s).Sublist m.fNames := List.filter_sublist
    have HRW : Hid (Rise (without m.fNames s)) := hRi.sublist hsub
    have h3 := renameN_ok hDR hhn hN0
    have hwt := ok_weight hgd
    have h7 := sumW_names (fun e he => (h3.1.1 e he).2)
    have h8 := h3.2
    have HRL : Hid ((renameN m s t).length <= 1000) := by show _ <= _; omega
    have HWK1 : Hid (wDisk { m with fNames := renameN m s t } <= 16777216) := by
     show _ <= _
     rw [wDisk_eq]
     simp only
     omega
    have HLW : Hid ((without m.fNames s).length <= 1048576) := by show _ <= _; have := hsub.length_le; omega
    rw [hC]
    clear hC h1 hcn1 hN0 hrok hDR hRi hsub h3 hwt h7 h8
    obtain ⟨hk, hid, _⟩ := file_there hgd hhn
    have hnz : nameZ m.fNames s = (nameAt m.fNames s : Int) := by unfold nameZ; rw [hhn, if_pos rfl]
    have hlfn : ∀ W', Below w2.heap.size w2 W' -> LeafL 2 rEntry W'.heap.size W' d1 e1 m.fNames := fun W' hb => ownS.leaf oEntry_good (ownS.frame oEntry_good HO1.out (fun b hbF => (bthen hb12 hb).block b (HLT.out b (by simp [hbF]))))
    obtain ⟨b1, o1, rfl, hB1, cs1, hcl1, hcell1, rfl, hrest1⟩ := (hlfn _ rB).2.2 (nameAt m.fNames s) hk
    have k1e := hcell1 1 _ rfl
    have HWF : Hid ((Lit.int .i64 (idOf m.fNames s)).wf = true) := by show _ = _; rw [hid]; exact hrest1.2.1
    rw [<- hid] at k1e
    have q1 : ∀ W', Below w2.heap.size w2 W' -> W'.cell? ⟨b1, o1 + nameAt m.fNames s * 2 + 1, none⟩ = some (.int .i64 (idOf m.fNames s)) := fun W' hb => (hb.cell (p := ⟨b1, o1 + nameAt m.fNames s * 2 + 1, none⟩) hB1).trans k1e
    have hCt := fun W' (hb : Below w2.heap.size w2 W') => l2At_any (some ⟨b1, o1, none⟩) _ e1 m.fNames s W' W'.heap.size rfl (by omega) (hlfn W' hb).2.2
    simp only [hnz] at hCt
    have hu1 : (0 : Int) <= (nameAt m.fNames s : Int) := by omega
    have hu2 : (nameAt m.fNames s : Int) < (m.fNames.length : Int) := by omega
    have po1 : ∀ W', Below w2.heap.size w2 W' -> W'.cell? ⟨w1.heap.size, 1, none⟩ = some (.slice (some ⟨b1, o1, none⟩) m.fNames.length e1) := fun W' hb => (hwb.under hb).cell 1 _ rfl
    clear hlfn hcell1 hcl1 k1e hrest1 hid hnz
    have HKn := Hm hk
    clear hk
    obtain ⟨na, hna⟩ : ∃ na, na = nameAt m.fNames s := ⟨_, rfl⟩
    obtain ⟨idn, hidn⟩ : ∃ idn, idn = idOf m.fNames s := ⟨_, rfl⟩
    rw [<- hna] at q1 hCt hu1 hu2
    rw [<- hidn] at q1
    have HIDN := Hm hidn
    clear hna hidn
    go_wp2_with fail
    refine (l2Name_any t _ ht).mono ?_
    rintro e w9 ⟨rfl, hw9⟩
    have hw8 := hw9.symm
    clear hw9
    subst hw8
    rw [hNt]
    go_wp2_with fail
    refine wp_region_held_drew (S := fun W' => Below w2.heap.size w2 W') (by kernel_rfl) (Below.drew rB) (fun hZ => ?_)
    refine uq 0 q0d9_62_7_0 35 hZ ?_
    refine uq 1 q0d9_62_7_1 36 hZ ?_
    refine uq 2 q0d9_62_7_2 37 hZ ?_
    refine uq 3 q0d9_62_7_3 38 hZ ?_
    refine uq 4 q0d9_62_7_4 39 hZ ?_
    refine ar1 5 q0d9_62_7_5 fun K hK => ?_
    go_simp
    refine Calls.mono (hCt _ hZ) ?_
    rintro e wy1 ⟨rfl, hw1⟩
    have hy1 := below_same hw1
    clear hw1
    go_wp2_with fail
    refine hK.out _ _ (bthen hZ hy1) (fun hZ => ?_)
    clear hK K
    try simp only[Act.put,sa,s0,s1]
    refine uq 6 q0d9_62_7_6 41 hZ ?_
    refine uq 7 q0d9_62_7_7 42 hZ ?_
    refine uq 8 q0d9_62_7_8 43 hZ ?_
    refine uq 9 q0d9_62_7_9 10 hZ ?_
    refine wpAnyH_done (by kernel_rfl) ?_ _
    obtain ⟨wo, hwo⟩ : ∃ wo, wo = wy1 := ⟨_, rfl⟩
    rw [<- hwo] at hZ ⊢
    clear hwo hCt po1 q1 zo0 zo1 zo2 zo3
    have hbo := bthen hb12 hZ
    have hb3 := bthen hb2 hZ
    have hwbo := hwb.under hZ
    have hbdo := hbd2.under hZ
    have hbro := hbr2.under hZ
    clear hwb hbd2 hbr2 hZ
    obtain ⟨zo0, zo1, zo2, zo3⟩ := hwbo.c4
    have hlo := hwbo.lt
    have fo1 := hwbo.free 1
    go_wp2_with fail
    refine (l2Without_any (some ⟨b1, o1, none⟩) m.fNames.length e1 m.fNames s wo rfl (by omega) (ownS.leaf oEntry_good (ownS.frame oEntry_good HO1.out (fun b hbF => hbo.block b (HLT.out b (by simp [hbF])))))).mono ?_
    rintro e w3 ⟨r3, q3, F3, rfl, ho3, hg3, hx3⟩
    have HO3 := Hm ho3
    clear ho3 hg3
    have hwb3 := hwbo.under hx3
    have hbd3 := hbdo.under hx3
    have hbr3 := hbro.under hx3
    have hbt3 := bthen hbo hx3
    have hbu3 := bthen hb3 hx3
    clear hwbo hbdo hbro zo0 zo1 zo2 zo3 fo1 hlo
    obtain ⟨zo0, zo1, zo2, zo3⟩ := hwb3.c4
    have hlo := hwb3.lt
    have fo1 := hwb3.free 1
    have HRN : Hid (withE (without m.fNames s) ⟨t, idn⟩ = renameN m s t) := by show _ = _; unfold renameN; rw [HIDN.out]
    go_wp2_with fail
    have hcall := l2With_any r3 _ q3 (without m.fNames s) ⟨t, idn⟩ w3 rfl HLW.out (ownS.leaf oEntry_good HO3.out) HRW.out ht (by rw [HIDN.out]; exact HWF.out)
    rw [HRN.out] at hcall
    refine hcall.mono ?_
    clear hcall
    rintro e w4 ⟨r4, q4, F4, rfl, ho4, hg4, hx4⟩
    have HO4 := Hm ho4
    have HGS := Hm hg4
    clear ho4 hg4
    have hwb4 := hwb3.under hx4
    have zf1 := hwb4.free 1
    have hl3 := hwb4.lt
    have hbd4 := hbd3.under hx4
    have hl3d := hbd4.lt
    obtain ⟨zd0, zd1, zd2, zd3⟩ := hwb4.c4
    obtain ⟨yd0, yd1, yd2, yd3⟩ := hbd4.c4
    clear zo0 zo1 zo2 zo3 fo1
    have hsz3 := hbt3.size
    go_wp2_with fail
    obtain ⟨ws, hws⟩ : ∃ ws, ws = w4.setCell ⟨w1.heap.size, 1, none⟩ (.slice r4 (renameN m s t).length q4) := ⟨_, rfl⟩
    have hTs : Turn [w1.heap.size] w4 ws := by rw [hws]; exact Turn.setCell (Turn.refl _ _) (by simp) _
    have hwbs : Bw ws w1.heap.size 27 [.slice d0 m.fInodes.length e0, .slice r4 (renameN m s t).length q4, .slice d2 m.fSafe.length e2, .int .i64 m.fNext] := by rw [hws]; exact hwb4.put 1 _
    have hbds := hbd4.turn hTs (by simp; omega)
    have hbrs := (hbr3.under hx4).turn hTs (by simp; omega)
    have hbu4 := bthen hbu3 hx4
    have hbt4 := bthen hbt3 hx4
    have hBs : Below w.heap.size w ws := hbu4.trans (hTs.below (fun k hk => by simp at hk; omega) hbu4.size)
    have hfr : ∀ b, b ∈ G0 ++ G1 ++ G2 ++ [] -> ws.heap[b]? = w1.heap[b]? := fun b hb => by
     have h1 := HLT.out b hb
     rw [hTs.block b (by have := hbt4.size; omega) (by simp; omega), hbt4.block b h1]
    have t0 := ownS.frame (w' := ws) oInode_good HO0.out (fun b hb => hfr b (by simp [hb]))
    have t2 := ownS.frame (w' := ws) oEntry_good HO2.out (fun b hb => hfr b (by simp [hb]))
    have t1 := ownS.frame (w' := ws) oEntry_good HO4.out (fun b hb => hTs.block b (ownS.lt oEntry_good HO4.out b hb) (by intro h; simp at h; have := HGS.out b hb; omega))
    have HT0 := Hm t0
    have HT1 := Hm t1
    have HT2 := Hm t2
    have HBS := Hm hBs
    have HSUB : Hid (∀ b, b ∈ G0 ++ F4 ++ G2 -> w.heap.size + 2 <= b) := by
     intro b hb
     rw [List.mem_append, List.mem_append] at hb
     rcases hb with (hb | hb) | hb
     ·have := HGE.out b (by simp [hb]); omega
     ·have := HGS.out b hb; omega
     ·have := HGE.out b (by simp [hb]); omega
    rw [<- hws]
    clear hws t0 t1 t2 hfr hTs zf1 zd0 zd1 zd2 zd3 yd0 yd1 yd2 yd3
    obtain ⟨zs0, zs1, zs2, zs3⟩ := hwbs.c4
    obtain ⟨ys0, ys1, ys2, ys3⟩ := hbds.c4
    go_wp2_with fail
    refine (l2Ends_any _ d0 r4 d2 e0 q4 e2 m { m with fNames := renameN m s t } G0 _ G2 ws (rDisk_good.mono (rDisk_good.below HR.out HBS.out) HBS.out.size) HW.out HT0.out HT1.out HT2.out hnx HWK1.out (by have := HRL.out; simp only; omega)).mono ?_
    rintro e w5 ⟨cs4, F4, rfl, ho4, hF4, hx5⟩
    have hb5 := bthen HBS.out hx5
    have hbr5 := hbrs.under hx5
    have hl5 := hbr5.lt
    have hzE := HBS.out.size
    have hlE := hbrs.lt
    rw [HE.out.1] at ho4
    obtain ⟨q0, p0, q1, p1, q2, p2, E0, E1, E2, rfl, _, _, _, _, rfl⟩ := oDisk_cells ho4
    have hkey : ∀ W', Turn [w.heap.size + 1] w5 W' -> (∃ F, oDisk W' [.slice q0 (keepD { m with fNames := renameN m s t }).fInodes.length p0, .slice q1 (keepD { m with fNames := renameN m s t }).fNames.length p1, .slice q2 (keepD { m with fNames := renameN m s t }).fSafe.length p2, .int .i64 (keepD { m with fNames := renameN m s t }).fNext] (keepD { m with fNames := renameN m s t }) F /\ ∀ b, b ∈ F -> w.heap.size <= b) /\ Below w.heap.size w W' := fun W' hT =>
     ⟨⟨_, oDisk_good.frame ho4 (fun b hb => hT.block b (oDisk_good.lt ho4 b hb) (fun h => by simp at h; rcases hF4 b hb with h2 | h2; (have := HSUB.out b h2; omega); omega)), fun b hb => by first | (have := hG3 b hb; omega) | (have := hge b hb; omega) | (rcases hF4 b hb with h2 | h2; (have := HSUB.out b h2; omega); omega)⟩, hb5.trans (hT.below (fun k hk => by simp at hk; omega) hb5.size)⟩
    have HKEY := Hm hkey
    clear hkey ho4 hF4
    obtain ⟨ze0, ze1, ze2, ze3⟩ := hbr5.c4
    obtain ⟨zf0, zf1, zf2, zf3⟩ := hbr5.f4
    have HEC : Hid (endsC { m with fNames := renameN m s t } = 0) := HE.out.2
    rw [HEC.out]
    go_wp2_with fail
    obtain ⟨h1, h3⟩ := HKEY.out _ (show Turn [w.heap.size + 1] w5 ((((w5.setCell ⟨w.heap.size + 1, 0, none⟩ (.slice q0 (keepD { m with fNames := renameN m s t }).fInodes.length p0)).setCell ⟨w.heap.size + 1, 1, none⟩ (.slice q1 (keepD { m with fNames := renameN m s t }).fNames.length p1)).setCell ⟨w.heap.size + 1, 2, none⟩ (.slice q2 (keepD { m with fNames := renameN m s t }).fSafe.length p2)).setCell ⟨w.heap.size + 1, 3, none⟩ (.int .i64 (keepD { m with fNames := renameN m s t }).fNext)) from turn4 _ _ _ _ _ _)
    exact bodyPost_ret (v := .tuple #[.agg #[.slice q0 (keepD { m with fNames := renameN m s t }).fInodes.length p0, .slice q1 (keepD { m with fNames := renameN m s t }).fNames.length p1, .slice q2 (keepD { m with fNames := renameN m s t }).fSafe.length p2, .int .i64 (keepD { m with fNames := renameN m s t }).fNext], .int .i64 0]) (by simp [results, Tryz.results62, go_sem, *]) rfl ⟨[.slice q0 (keepD { m with fNames := renameN m s t }).fInodes.length p0, .slice q1 (keepD { m with fNames := renameN m s t }).fNames.length p1, .slice q2 (keepD { m with fNames := renameN m s t }).fSafe.length p2, .int .i64 (keepD { m with fNames := renameN m s t }).fNext], by rw [HV.out.2], by rw [HV.out.1]; exact h1, h3⟩
  ·have HCP : Hid (renameC m s t = callP m s) := HRC
   have HV : Hid (renameP m s t = m) := by show _ = _; unfold renameP; rw [HCP.out, if_neg hC]
   have hcn : (callP m s == 0) = false := beq_eq_false_iff_ne.2 hC
   obtain ⟨cp, hcp⟩ : ∃ cp, callP m s = cp := ⟨_, rfl⟩
   have hcn2 : (callP m s != 0) = true := bne_iff_ne.2 hC
   rw [hcp] at hcn hcn2 hcn1 HCP ⊢
   clear hcp hC h1 hN0 HRC
   go_wp2_with fail
   refine (l2Name_any t _ ht).mono ?_
   rintro e w9 ⟨rfl, hw9⟩
   have hw8 := hw9.symm
   clear hw9
   subst hw8
   rw [hNt]
   obtain ⟨ze0, zf0, ze1, zf1, ze2, zf2, ze3, zf3⟩ := hbr2.c8
   have hlt0 := hbr2.lt
   have hO3 : oDisk w2 [.slice d0 m.fInodes.length e0, .slice d1 m.fNames.length e1, .slice d2 m.fSafe.length e2, .int .i64 m.fNext] (renameP m s t) (G0 ++ G1 ++ G2 ++ []) := by rw [HV.out]; exact oDisk_good.frame HO.out (fun b hb => hb12.block b (HLT.out b hb))
   have hG3 : ∀ b, b ∈ G0 ++ G1 ++ G2 ++ [] -> w.heap.size + 2 <= b := fun b hb => by have := HGE.out b hb; omega
   have HBf := Hm hb2
   have HO3 := Hm hO3
   clear hO3
   go_wp2_with fail
   refine bodyPost_ret (v := .tuple #[.agg #[.slice d0 m.fInodes.length e0, .slice d1 m.fNames.length e1, .slice d2 m.fSafe.length e2, .int .i64 m.fNext], .int .i64 cp]) (by simp [results, Tryz.results62, go_sem, *]) rfl ⟨[.slice d0 m.fInodes.length e0, .slice d1 m.fNames.length e1, .slice d2 m.fSafe.length e2, .int .i64 m.fNext], by first | rfl | rw [HCP.out], ?_, ?_⟩
   ·exact ⟨_, oDisk_good.frame HO3.out (fun b hb => (show Turn [w.heap.size + 1] w2 _ from by repeat (first | with_reducible exact Turn.refl _ _ | with_reducible refine Turn.setCell ?_ (by simp) _ | with_reducible refine Turn.alloc ?_ _ | with_reducible refine Turn.drew ?_)).block b (oDisk_good.lt HO3.out b hb) (by intro h; simp at h; have := hG3 b hb; omega)), fun b hb => by first | (have := hG3 b hb; omega) | (have := hge b hb; omega) | (rcases hF4 b hb with h2 | h2; (have := HSUB.out b h2; omega); omega)⟩
   ·exact HBf.out.trans ((show Turn [w.heap.size + 1] w2 _ from by repeat (first | with_reducible exact Turn.refl _ _ | with_reducible refine Turn.setCell ?_ (by simp) _ | with_reducible refine Turn.alloc ?_ _ | with_reducible refine Turn.drew ?_)).below (fun k hk => by simp at hk; omega) HBf.out.size)
 ·have hNt : nameOk t = false := Bool.eq_false_iff.2 hN0
  have HCP : Hid (renameC m s t = 1) := by show _ = _; unfold renameC; rw [if_neg hN0]
  have HV : Hid (renameP m s t = m) := by show _ = _; unfold renameP; rw [HCP.out]; rfl
  obtain ⟨cp, hcp⟩ : ∃ cp, callP m s = cp := ⟨_, rfl⟩
  rw [hcp] at hcn1 ⊢
  clear hcp h1 hN0
  go_wp2_with fail
  refine (l2Name_any t _ ht).mono ?_
  rintro e w9 ⟨rfl, hw9⟩
  have hw8 := hw9.symm
  clear hw9
  subst hw8
  rw [hNt]
  obtain ⟨ze0, zf0, ze1, zf1, ze2, zf2, ze3, zf3⟩ := hbr2.c8
  have hlt0 := hbr2.lt
  have hO3 : oDisk w2 [.slice d0 m.fInodes.length e0, .slice d1 m.fNames.length e1, .slice d2 m.fSafe.length e2, .int .i64 m.fNext] (renameP m s t) (G0 ++ G1 ++ G2 ++ []) := by rw [HV.out]; exact oDisk_good.frame HO.out (fun b hb => hb12.block b (HLT.out b hb))
  have hG3 : ∀ b, b ∈ G0 ++ G1 ++ G2 ++ [] -> w.heap.size + 2 <= b := fun b hb => by have := HGE.out b hb; omega
  have HBf := Hm hb2
  have HO3 := Hm hO3
  clear hO3
  go_wp2_with fail
  refine bodyPost_ret (v := .tuple #[.agg #[.slice d0 m.fInodes.length e0, .slice d1 m.fNames.length e1, .slice d2 m.fSafe.length e2, .int .i64 m.fNext], .int .i64 1]) (by simp [results, Tryz.results62, go_sem, *]) rfl ⟨[.slice d0 m.fInodes.length e0, .slice d1 m.fNames.length e1, .slice d2 m.fSafe.length e2, .int .i64 m.fNext], by first | rfl | rw [HCP.out], ?_, ?_⟩
  ·exact ⟨_, oDisk_good.frame HO3.out (fun b hb => (show Turn [w.heap.size + 1] w2 _ from by repeat (first | with_reducible exact Turn.refl _ _ | with_reducible refine Turn.setCell ?_ (by simp) _ | with_reducible refine Turn.alloc ?_ _ | with_reducible refine Turn.drew ?_)).block b (oDisk_good.lt HO3.out b hb) (by intro h; simp at h; have := hG3 b hb; omega)), fun b hb => by first | (have := hG3 b hb; omega) | (have := hge b hb; omega) | (rcases hF4 b hb with h2 | h2; (have := HSUB.out b h2; omega); omega)⟩
  ·exact HBf.out.trans ((show Turn [w.heap.size + 1] w2 _ from by repeat (first | with_reducible exact Turn.refl _ _ | with_reducible refine Turn.setCell ?_ (by simp) _ | with_reducible refine Turn.alloc ?_ _ | with_reducible refine Turn.drew ?_)).below (fun k hk => by simp at hk; omega) HBf.out.size)
theorem specRename_c (cs : List Value) (m : MDisk) (s t : ByteArray) (w : World) (hr : rDisk w.heap.size w cs m) (hs : s.size <= 9223372036854775807) (ht : t.size <= 9223372036854775807) (hw : wDisk m <= 1048576) (hw1 : s.size <= 1048576) (hwt1 : t.size <= 1048576) :
  Calls Tryz.prog 62 #[.agg cs.toArray, .string s, .string t] w fun e w' => ∃ cs' : List Value, e = .returned (.tuple #[.agg cs'.toArray, .int .i64 (renameC m s t)]) /\ rDisk w'.heap.size w' cs' (renameP m s t) /\ Below w.heap.size w w' :=
 (specRename_o cs m s t w hr hs ht hw hw1 hwt1).mono fun e w' ⟨cs', he, ⟨F, ho, _⟩, hx⟩ => ⟨cs', he, oDisk_good.read ho, hx⟩
set_option maxHeartbeats 4000000 in
theorem specRemove_o (cs : List Value) (m : MDisk) (s : ByteArray) (w : World) (hr : rDisk w.heap.size w cs m) (hs : s.size <= 9223372036854775807) (hw : wDisk m <= 1048576) (hw1 : s.size <= 1048576) :
  Calls Tryz.prog 61 #[.agg cs.toArray, .string s] w fun e w' => ∃ cs' : List Value, e = .returned (.tuple #[.agg cs'.toArray, .int .i64 (callP m s)]) /\ (∃ F, oDisk w' cs' (removeP m s) F /\ ∀ b, b ∈ F -> w.heap.size <= b) /\ Below w.heap.size w w' := by
 have hq := hr
 obtain ⟨a0, c0, a1, c1, a2, c2, rfl, hI, hNm, hSf, hnx, _⟩ := hq
 have hw2 : m.fInodes.length + sumW wInode m.fInodes + (m.fNames.length + sumW wEntry m.fNames) + (m.fSafe.length + sumW wEntry m.fSafe) <= 1048576 := hw
 have HW := Hm hw
 have HR := Hm hr
 clear hr hI hNm hSf hw
 go_enter Tryz.func61, Tryz.ntmps61
 go_wp2_with fail
 obtain ⟨wq, hwq⟩ : ∃ wq, wq = ((w.alloc (.cells #[.slice a0 m.fInodes.length c0, .slice a1 m.fNames.length c1, .slice a2 m.fSafe.length c2, .int .i64 m.fNext] 27)).alloc (.cells #[.slice none 0 0, .slice none 0 0, .slice none 0 0, .int .i64 0] 27)) := ⟨_, rfl⟩
 have hbW : Below w.heap.size w wq := by rw [hwq]; exact Below.alloc (Below.alloc rB (by exact rN) _) (by simp; try omega) _
 have hbd : Bw wq (w.heap.size) 27 [.slice a0 m.fInodes.length c0, .slice a1 m.fNames.length c1, .slice a2 m.fSafe.length c2, .int .i64 m.fNext] := by rw [hwq]; exact Bw.alloc (Bw.new' _ _ _ (by simp)) _
 have hbr : Bw wq (w.heap.size + 1) 27 [.slice none 0 0, .slice none 0 0, .slice none 0 0, .int .i64 0] := by rw [hwq]; exact Bw.new' _ _ _ (by simp)
 rw [<- hwq]
 clear hwq
 refine (l2Copy_any _ m wq (rDisk_good.mono (rDisk_good.below HR.out hbW) hbW.size) HW.out).mono ?_
 rintro e w1 ⟨cs2, F2, rfl, ho2, hN2, hge2, hx1⟩
 obtain ⟨d0, e0, d1, e1, d2, e2, G0, G1, G2, rfl, o0, o1, o2, _, rfl⟩ := oDisk_cells ho2
 have HO0 := Hm o0
 have HO1 := Hm o1
 have HO2 := Hm o2
 have HO := Hm ho2
 have HN := Hm hN2
 have HGE : Hid (∀ b, b ∈ G0 ++ G1 ++ G2 ++ [] -> wq.heap.size <= b) := hge2
 have HLT : Hid (∀ b, b ∈ G0 ++ G1 ++ G2 ++ [] -> b < w1.heap.size) := fun b hb => oDisk_good.lt ho2 b hb
 clear ho2 hN2 hge2 o0 o1 o2
 have hb1 := bthen hbW hx1
 have hbd1 := hbd.under hx1
 have hbr1 := hbr.under hx1
 have hz1 := hx1.size
 have hzW := hbW.size
 have hl0 := hbr.lt
 obtain ⟨y0, y1, y2, y3⟩ := hbd1.c4
 have hl1 := hbd1.lt
 go_wp2_with fail
 obtain ⟨wa, hwa⟩ : ∃ wa, wa = w1.alloc (.cells #[.slice d0 m.fInodes.length e0, .slice d1 m.fNames.length e1, .slice d2 m.fSafe.length e2, .int .i64 m.fNext] 27) := ⟨_, rfl⟩
 have hba : Below w1.heap.size w1 wa := by rw [hwa]; exact rB.alloc rN _
 have hwb0 : Bw wa w1.heap.size 27 [.slice d0 m.fInodes.length e0, .slice d1 m.fNames.length e1, .slice d2 m.fSafe.length e2, .int .i64 m.fNext] := by rw [hwa]; exact Bw.new _ _ _
 rw [<- hwa]
 clear hwa
 have hba1 := bthen hb1 hba
 have hbda := (hbd1.under hba)
 refine (l2Call_any _ m s wa (rDisk_good.mono (rDisk_good.below HR.out hba1) hba1.size) HW.out hs).mono ?_
 rintro e w2 ⟨rfl, hx2⟩
 have hb12 := bthen hba hx2
 have hb2 := bthen hba1 hx2
 have hwb := hwb0.under hx2
 have hbr2 := (hbr1.under hba).under hx2
 have hbd2 := hbda.under hx2
 clear hwb0 hbda hbd1 y0 y1 y2 y3
 obtain ⟨zo0, zo1, zo2, zo3⟩ := hwb.c4
 by_cases hC : callP m s = 0
 ·have hgd := (call_good hC).1
  have hrok := remove_ok (s := s) hgd
  have HV : Hid (removeP m s = keepD { m with fNames := without m.fNames s } /\ callP m s = 0) := by refine ⟨?_, hC⟩; unfold removeP removeD; rw [if_pos hC]
  have HE : Hid (endsD m { m with fNames := without m.fNames s } = keepD { m with fNames := without m.fNames s } /\ endsC { m with fNames := without m.fNames s } = 0) := by
   unfold removeD at hrok
   refine ⟨?_, ?_⟩ <;> simp only [endsD, endsC, hrok, if_true]
  have hsub : (without m.fNames s).Sublist m.fNames := List.filter_sublist
  have hsl := hsub.length_le
  have HWK1 : Hid (wDisk { m with fNames := without m.fNames s } <= 16777216) := by
   show _ <= _
   have h2 := sumW_sublist (f := wEntry) hsub
   rw [wDisk_eq]
   simp only
   omega
  rw [hC]
  clear hC hrok hgd hsub
  have hlo := hwb.lt
  have fo1 := hwb.free 1
  go_wp2_with fail
  refine (l2Without_any d1 m.fNames.length e1 m.fNames s w2 rfl (by omega) (ownS.leaf oEntry_good (ownS.frame oEntry_good HO1.out (fun b hbF => hb12.block b (HLT.out b (by simp [hbF])))))).mono ?_
  rintro e w3 ⟨r3, q3, F3, rfl, ho3, hg3, hx3⟩
  have HO3 := Hm ho3
  have HGS := Hm hg3
  clear ho3 hg3
  have hwb3 := hwb.under hx3
  have zf1 := hwb3.free 1
  have hl3 := hwb3.lt
  have hbd3 := hbd2.under hx3
  have hl3d := hbd3.lt
  obtain ⟨zd0, zd1, zd2, zd3⟩ := hwb3.c4
  obtain ⟨yd0, yd1, yd2, yd3⟩ := hbd3.c4
  clear zo0 zo1 zo2 zo3 fo1
  go_wp2_with fail
  obtain ⟨ws, hws⟩ : ∃ ws, ws = w3.setCell ⟨w1.heap.size, 1, none⟩ (.slice r3 (without m.fNames s).length q3) := ⟨_, rfl⟩
  have hTs : Turn [w1.heap.size] w3 ws := by rw [hws]; exact Turn.setCell (Turn.refl _ _) (by simp) _
  have hwbs : Bw ws w1.heap.size 27 [.slice d0 m.fInodes.length e0, .slice r3 (without m.fNames s).length q3, .slice d2 m.fSafe.length e2, .int .i64 m.fNext] := by rw [hws]; exact hwb3.put 1 _
  have hbds := hbd3.turn hTs (by simp; omega)
  have hbrs := (hbr2.under hx3).turn hTs (by simp; omega)
  have hb3 := bthen hb2 hx3
  have hBs : Below w.heap.size w ws := hb3.trans (hTs.below (fun k hk => by simp at hk; omega) hb3.size)
  have hfr : ∀ b, b ∈ G0 ++ G1 ++ G2 ++ [] -> ws.heap[b]? = w1.heap[b]? := fun b hb => by
   have h1 := HLT.out b hb
   rw [hTs.block b (by have := (bthen hb12 hx3).size; omega) (by simp; omega), (bthen hb12 hx3).block b h1]
  have t0 := ownS.frame (w' := ws) oInode_good HO0.out (fun b hb => hfr b (by simp [hb]))
  have t2 := ownS.frame (w' := ws) oEntry_good HO2.out (fun b hb => hfr b (by simp [hb]))
  have hz12 := hb12.size
  have t1 := ownS.frame (w' := ws) oEntry_good HO3.out (fun b hb => hTs.block b (ownS.lt oEntry_good HO3.out b hb) (by intro h; simp at h; have := HGS.out b hb; omega))
  have HT0 := Hm t0
  have HT1 := Hm t1
  have HT2 := Hm t2
  have HBS := Hm hBs
  have HSUB : Hid (∀ b, b ∈ G0 ++ F3 ++ G2 -> w.heap.size + 2 <= b) := by
   intro b hb
   rw [List.mem_append, List.mem_append] at hb
   rcases hb with (hb | hb) | hb
   ·have := HGE.out b (by simp [hb]); omega
   ·have := HGS.out b hb; omega
   ·have := HGE.out b (by simp [hb]); omega
  rw [<- hws]
  clear hws t0 t1 t2 hfr hTs zf1 zd0 zd1 zd2 zd3 yd0 yd1 yd2 yd3
  obtain ⟨zs0, zs1, zs2, zs3⟩ := hwbs.c4
  obtain ⟨ys0, ys1, ys2, ys3⟩ := hbds.c4
  go_wp2_with fail
  refine (l2Ends_any _ d0 r3 d2 e0 q3 e2 m { m with fNames := without m.fNames s } G0 _ G2 ws (rDisk_good.mono (rDisk_good.below HR.out HBS.out) HBS.out.size) HW.out HT0.out HT1.out HT2.out hnx HWK1.out (by simp only; omega)).mono ?_
  rintro e w4 ⟨cs4, F4, rfl, ho4, hF4, hx4⟩
  have hb4 := bthen HBS.out hx4
  have hbr4 := hbrs.under hx4
  have hl4 := hbr4.lt
  have hzE := HBS.out.size
  have hlE := hbrs.lt
  rw [HE.out.1] at ho4
  obtain ⟨q0, p0, q1, p1, q2, p2, E0, E1, E2, rfl, _, _, _, _, rfl⟩ := oDisk_cells ho4
  have hkey : ∀ W', Turn [w.heap.size + 1] w4 W' -> (∃ F, oDisk W' [.slice q0 (keepD { m with fNames := without m.fNames s }).fInodes.length p0, .slice q1 (keepD { m with fNames := without m.fNames s }).fNames.length p1, .slice q2 (keepD { m with fNames := without m.fNames s }).fSafe.length p2, .int .i64 (keepD { m with fNames := without m.fNames s }).fNext] (keepD { m with fNames := without m.fNames s }) F /\ ∀ b, b ∈ F -> w.heap.size <= b) /\ Below w.heap.size w W' := fun W' hT =>
   ⟨⟨_, oDisk_good.frame ho4 (fun b hb => hT.block b (oDisk_good.lt ho4 b hb) (fun h => by simp at h; rcases hF4 b hb with h2 | h2; (have := HSUB.out b h2; omega); omega)), fun b hb => by first | (have := hG3 b hb; omega) | (have := hge b hb; omega) | (rcases hF4 b hb with h2 | h2; (have := HSUB.out b h2; omega); omega)⟩, hb4.trans (hT.below (fun k hk => by simp at hk; omega) hb4.size)⟩
  have HKEY := Hm hkey
  clear hkey ho4 hF4
  obtain ⟨ze0, ze1, ze2, ze3⟩ := hbr4.c4
  obtain ⟨zf0, zf1, zf2, zf3⟩ := hbr4.f4
  have HEC : Hid (endsC { m with fNames := without m.fNames s } = 0) := HE.out.2
  rw [HEC.out]
  go_wp2_with fail
  obtain ⟨h1, h3⟩ := HKEY.out _ (show Turn [w.heap.size + 1] w4 ((((w4.setCell ⟨w.heap.size + 1, 0, none⟩ (.slice q0 (keepD { m with fNames := without m.fNames s }).fInodes.length p0)).setCell ⟨w.heap.size + 1, 1, none⟩ (.slice q1 (keepD { m with fNames := without m.fNames s }).fNames.length p1)).setCell ⟨w.heap.size + 1, 2, none⟩ (.slice q2 (keepD { m with fNames := without m.fNames s }).fSafe.length p2)).setCell ⟨w.heap.size + 1, 3, none⟩ (.int .i64 (keepD { m with fNames := without m.fNames s }).fNext)) from turn4 _ _ _ _ _ _)
  exact bodyPost_ret (v := .tuple #[.agg #[.slice q0 (keepD { m with fNames := without m.fNames s }).fInodes.length p0, .slice q1 (keepD { m with fNames := without m.fNames s }).fNames.length p1, .slice q2 (keepD { m with fNames := without m.fNames s }).fSafe.length p2, .int .i64 (keepD { m with fNames := without m.fNames s }).fNext], .int .i64 0]) (by simp [results, Tryz.results61, go_sem, *]) rfl ⟨[.slice q0 (keepD { m with fNames := without m.fNames s }).fInodes.length p0, .slice q1 (keepD { m with fNames := without m.fNames s }).fNames.length p1, .slice q2 (keepD { m with fNames := without m.fNames s }).fSafe.length p2, .int .i64 (keepD { m with fNames := without m.fNames s }).fNext], by rw [HV.out.2], by rw [HV.out.1]; exact h1, h3⟩
 ·have HV : Hid (removeP m s = m) := by show _ = _; unfold removeP; rw [if_neg hC]
  have hcn : (callP m s == 0) = false := beq_eq_false_iff_ne.2 hC
  obtain ⟨cp, hcp⟩ : ∃ cp, callP m s = cp := ⟨_, rfl⟩
  rw [hcp] at hcn ⊢
  have HCP := Hm hcp
  clear hcp hC
  obtain ⟨ze0, zf0, ze1, zf1, ze2, zf2, ze3, zf3⟩ := hbr2.c8
  have hlt0 := hbr2.lt
  have hO3 : oDisk w2 [.slice d0 m.fInodes.length e0, .slice d1 m.fNames.length e1, .slice d2 m.fSafe.length e2, .int .i64 m.fNext] (removeP m s) (G0 ++ G1 ++ G2 ++ []) := by rw [HV.out]; exact oDisk_good.frame HO.out (fun b hb => hb12.block b (HLT.out b hb))
  have hG3 : ∀ b, b ∈ G0 ++ G1 ++ G2 ++ [] -> w.heap.size + 2 <= b := fun b hb => by have := HGE.out b hb; omega
  have HBf := Hm hb2
  have HO3 := Hm hO3
  clear hO3
  go_wp2_with fail
  refine bodyPost_ret (v := .tuple #[.agg #[.slice d0 m.fInodes.length e0, .slice d1 m.fNames.length e1, .slice d2 m.fSafe.length e2, .int .i64 m.fNext], .int .i64 cp]) (by simp [results, Tryz.results61, go_sem, *]) rfl ⟨[.slice d0 m.fInodes.length e0, .slice d1 m.fNames.length e1, .slice d2 m.fSafe.length e2, .int .i64 m.fNext], by first | rfl | rw [HCP.out], ?_, ?_⟩
  ·exact ⟨_, oDisk_good.frame HO3.out (fun b hb => (show Turn [w.heap.size + 1] w2 _ from by repeat (first | with_reducible exact Turn.refl _ _ | with_reducible refine Turn.setCell ?_ (by simp) _ | with_reducible refine Turn.alloc ?_ _ | with_reducible refine Turn.drew ?_)).block b (oDisk_good.lt HO3.out b hb) (by intro h; simp at h; have := hG3 b hb; omega)), fun b hb => by first | (have := hG3 b hb; omega) | (have := hge b hb; omega) | (rcases hF4 b hb with h2 | h2; (have := HSUB.out b h2; omega); omega)⟩
  ·exact HBf.out.trans ((show Turn [w.heap.size + 1] w2 _ from by repeat (first | with_reducible exact Turn.refl _ _ | with_reducible refine Turn.setCell ?_ (by simp) _ | with_reducible refine Turn.alloc ?_ _ | with_reducible refine Turn.drew ?_)).below (fun k hk => by simp at hk; omega) HBf.out.size)
theorem specRemove_c (cs : List Value) (m : MDisk) (s : ByteArray) (w : World) (hr : rDisk w.heap.size w cs m) (hs : s.size <= 9223372036854775807) (hw : wDisk m <= 1048576) (hw1 : s.size <= 1048576) :
  Calls Tryz.prog 61 #[.agg cs.toArray, .string s] w fun e w' => ∃ cs' : List Value, e = .returned (.tuple #[.agg cs'.toArray, .int .i64 (callP m s)]) /\ rDisk w'.heap.size w' cs' (removeP m s) /\ Below w.heap.size w w' :=
 (specRemove_o cs m s w hr hs hw hw1).mono fun e w' ⟨cs', he, ⟨F, ho, _⟩, hx⟩ => ⟨cs', he, oDisk_good.read ho, hx⟩
end Go.Proofs.YtegonncmopecnaaGreatDoor
