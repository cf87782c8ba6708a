/-
  Part 15 of the texts that the proof leans on.
-/
import Derived.Test.YtcamcgfbljhbhaaGreatDoorMan10
import Derived.Test.YtcamcgfbljhbhaaGreatDoorMan1
import Derived.Test.YtcamcgfbljhbhaaGreatDoorMan2
import Derived.Test.YtcamcgfbljhbhaaGreatDoorMan5
import Derived.Test.YtcamcgfbljhbhaaGreatDoorMan4
import Derived.Test.YtcamcgfbljhbhaaGreatDoorMan0
import Derived.Test.YtcamcgfbljhbhaaGreatDoorMan11
import Derived.Test.YtcamcgfbljhbhaaGreatDoorMan12
set_option linter.unusedVariables false
set_option linter.unusedSimpArgs false
set_option maxRecDepth 10000
set_option maxHeartbeats 20000000

namespace Go.Proofs.YtcamcgfbljhbhaaGreatDoor
open Go.RowKit Go.Maps
theorem nA {P : Program} (w : World) {ops : Array Oper} {rest : List Oper} {o : Oper} {a : Act} {Q : Exit -> Act -> World -> Prop} (hgd : o.guard = none) (s x : Operand) (t tx : TypeId)
  (ho : o.op = .call { callee := .builtin .append, args := #[s, x], argTypes := #[t, tx] })
  (base : Nat) (e : TypeId) (i : TypeInfo) (z : Value) (size bytes : Nat) (ht : P.underlying t = some (.slice e)) (hi : P.info? e = some i) (hz : i.zero = some z)
  (hsize : i.size = size) (hby : i.bytes = bytes) (hzs : z.cells.size = size)
  (g : Nat) (hs : a.eval s = .slice (some ⟨g, 0, none⟩) 0 0) (hown : w.ownsRow base e size (.slice (some ⟨g, 0, none⟩) 0 0) 0 [])
  (y : Value) (hy : a.eval x = y) (m : Nat) (news : List Value) (hx : Src P size tx y m news w)
  (h63 : m <= maxLen) (hbytes : m * bytes <= 140737488355328) (hbase : base <= w.heap.size)
  (h : ∀ v' w', w'.ownsRow base e size v' m news -> Below w.heap.size w w' -> (v'.ownBlock = some g ∨ v'.ownBlock = some w.heap.size) -> wpList P ops Q rest (a.put o.dst v') w') : wpList P ops Q (o :: rest) a w := by
 refine wpList_plain hgd fun K hK => ?_
 subst hy; obtain ⟨v', w', hr, h2, h3, h4⟩ := pL (P := P) w base t tx o.type e i z size bytes ht hi hz hsize hby hzs g hown (a.eval x) m news hx h63 hbytes hbase; unfold Oper.wp execOp; simp only [ho, resolve, invoke, builtin, Sem.run_bind, Sem.run_pure, Result.andThen_ok, List.map_toArray, List.map_cons, List.map_nil, hs, hr]; exact hK _ _ (h v' w' h2 h3 h4)
theorem rz (cs : List Value) (m : az) (w : World) (hr : bg w.heap.size w cs m) (hw : aZ m <= 1048576) :
  Calls Tryz.prog 29 #[.agg cs.toArray] w fun e w' => ∃ cs' : List Value, e = .returned (.tuple #[.agg cs'.toArray, .int .i64 (eL m)]) /\ (∃ F, ba w' cs' (cC m) F /\ ∀ b, b ∈ F -> w.heap.size <= b) /\ Below w.heap.size w w' := by
 have hq := hr; obtain ⟨a0, c0, a1, c1, a2, c2, rfl, hI, gf, gT, kX, _⟩ := hq; have hw2 : m.aa.length + aP aJ m.aa + (m.ae.length + aP a7 m.ae) + (m.ag.length + aP a7 m.ag) <= 1048576 := hw; have HW := Hm hw; have HR := Hm hr; clear hr hI gf gT hw; obtain ⟨iE, mV, fJ, fK, fL⟩ := info_parts Tryz.gG; go_enter Tryz.func29, Tryz.ntmps29; go_wp2_with fail; obtain ⟨wq, bI⟩ : ∃ wq, wq = ((w.alloc (.cells #[.slice a0 m.aa.length c0, .slice a1 m.ae.length c1, .slice a2 m.ag.length c2, .int .i64 m.ah] 27)).alloc (.cells #[.slice none 0 0, .slice none 0 0, .slice none 0 0, .int .i64 0] 27)) := ⟨_, rfl⟩
 have cJ : Below w.heap.size w wq := by rw [bI]; exact Below.alloc (Below.alloc rB (by exact rN) _) (by simp; try omega) _
 have dl : Bw wq (w.heap.size) 27 (cj a0 c0 a1 c1 a2 c2 m) := by rw [bI]; exact Bw.alloc (Bw.dX _ _ _ (by simp)) _
 have hbr : Bw wq (w.heap.size + 1) 27 oz := by rw [bI]; exact Bw.dX _ _ _ (by simp)
 rw [<- bI]; clear bI; refine (eC _ m wq (aq.mono (aq.below HR.out cJ) cJ.size) HW.out).mono ?_; rintro e w1 ⟨FH, F2, rfl, mm, nW, jT, hx1⟩; obtain ⟨d0, e0, d1, e1, d2, e2, G0, G1, G2, rfl, o0, o1, o2, _, rfl⟩ := aC mm; have sH := Hm o0; have vO := Hm o1; have zG := Hm o2; have HO := Hm mm; have HN := Hm nW; have jH : Hid (∀ b, b ∈ G0 ++ G1 ++ G2 ++ [] -> wq.heap.size <= b) := jT; have gZ : Hid (∀ b, b ∈ G0 ++ G1 ++ G2 ++ [] -> b < w1.heap.size) := fun b hb => aj.lt mm b hb
 clear mm nW jT o0 o1 o2; have hb1 := af cJ hx1; have df := dl.under hx1; have dB := hbr.under hx1; have hz1 := hx1.size; have Ln := cJ.size; have hl0 := hbr.lt; obtain ⟨y0, y1, y2, y3⟩ := df.c4; have sF := df.lt; go_wp2_with fail; obtain ⟨wa, gY⟩ : ∃ wa, wa = w1.alloc (.cells #[.slice d0 m.aa.length e0, .slice d1 m.ae.length e1, .slice d2 m.ag.length e2, .int .i64 m.ah] 27) := ⟨_, rfl⟩
 have jL : Below w1.heap.size w1 wa := by rw [gY]; exact rB.alloc rN _
 have oq : Bw wa w1.heap.size 27 (cj d0 e0 d1 e1 d2 e2 m) := by rw [gY]; exact Bw.new _ _ _
 rw [<- gY]; clear gY; have kJ := af hb1 jL; have pD := (df.under jL)
 refine (lU _ m wa (aq.mono (aq.below HR.out kJ) kJ.size) HW.out).mono ?_; rintro e w2 ⟨rfl, hx2⟩; have aQ := af jL hx2; have hb2 := af kJ hx2; have gj := oq.under hx2; have bZ := (dB.under jL).under hx2; have eT := pD.under hx2; clear oq pD df y0 y1 y2 y3; obtain ⟨Du, Dv, Dw, Dx⟩ := gj.c4
 by_cases hK : bc m = true
 ·have HV : Hid (cC m = aY { m with ag := m.ae } /\ eL m = 0) := by refine ⟨?_, ?_⟩ <;> simp [cC, eL, hK]
  have SB := oD hK; have HE : Hid (mB m { m with ag := m.ae } = aY { m with ag := m.ae } /\ jo { m with ag := m.ae } = 0) := by refine ⟨?_, ?_⟩ <;> simp only [mB, jo, SB, if_true]
  have hwt := eB hK; have AK : Hid (aZ { m with ag := m.ae } <= 16777216) := by show _ <= _; rw [cR]; simp only; omega
  rw [hK]; clear hK SB; have Ee : Below w2.heap.size w2 (w2.alloc (.cells #[] 68)) := rB.alloc rN _; have wV : bw 2 cy (w2.alloc (.cells #[] 68)).heap.size (w2.alloc (.cells #[] 68)) d1 e1 m.ae := aF.leaf ay (aF.frame ay vO.out (fun b kB => (af aQ Ee).block b (gZ.out b (by simp [kB])))); obtain ⟨css, s1, s2, s3, s4⟩ := Src.Oj (P := Tryz.prog) (c := e1) (n := m.ae.length) Tryz.underlying25 rfl wV.2.2; have Jw := gj.lt; have fo2 := gj.free 2; have qF := Hm Ee; clear wV Ee; go_wp2_with (at_builtin; refine nA _ rfl _ _ 25 25 rfl w2.heap.size 68 iE _ 2 24 Tryz.underlying25 mV fJ fK fL rfl w2.heap.size rfl (kY w2 w2.heap.size _ _ rN) (.slice d1 m.ae.length e1) rfl m.ae.length css.flatten s4 (by unfold maxLen; omega) (by omega) (by simp) ?_; intro v3 w3 hw3 hx3 iX; obtain ⟨r3, q3, rfl⟩ := bk hw3; have jK := af qF.out hx3; have nL := (gj.under jK).free 2; have sI := (gj.under jK).lt; have Pn := (eT.under jK).lt; have Pa := (eT.under jK).cell 0 _ rfl; have Pb := (eT.under jK).cell 1 _ rfl; have Pc := (eT.under jK).cell 2 _ rfl; have Pf := (eT.under jK).cell 3 _ rfl; have Mk := (gj.under jK).cell 0 _ rfl; have Ml := (gj.under jK).cell 1 _ rfl; have Mm := (gj.under jK).cell 2 _ rfl; have Mn := (gj.under jK).cell 3 _ rfl); have gB := kW rfl s1 s2 s3 hw3; have wj : Hid (∀ b, b ∈ (Value.ownBlock (.slice r3 m.ae.length q3)).toList -> w2.heap.size <= b) := fun b hb => (hw3.lt b (by simpa using hb)).1
  obtain ⟨ws, jh⟩ : ∃ ws, ws = w3.setCell ⟨w1.heap.size, 2, none⟩ (.slice r3 m.ae.length q3) := ⟨_, rfl⟩
  have jw : aw [w1.heap.size] w3 ws := by rw [jh]; exact aw.setCell (aw.refl _ _) (by simp) _
  have lj := gj.under jK; have Ci : Bw ws w1.heap.size 27 [.slice d0 m.aa.length e0, .slice d1 m.ae.length e1, .slice r3 m.ae.length q3, .int .i64 m.ah] := by rw [jh]; exact lj.put 2 _
  have oT := (eT.under jK).turn jw (by simp; omega); have jd := (bZ.under jK).turn jw (by simp; omega); have hb3 := af hb2 jK; have l8 : Below w.heap.size w ws := hb3.trans (jw.below (fun k hk => by simp at hk; omega) hb3.size)
  have m6 : ∀ b, b ∈ G0 ++ G1 ++ G2 ++ [] -> ws.heap[b]? = w1.heap[b]? := fun b hb => by
   have h1 := gZ.out b hb; rw [jw.block b (by have := (af aQ jK).size; omega) (by simp; omega), (af aQ jK).block b h1]
  have t0 := aF.frame (w' := ws) aH sH.out (fun b hb => m6 b (by simp [hb])); have t1 := aF.frame (w' := ws) ay vO.out (fun b hb => m6 b (by simp [hb])); have O9 := aQ.size; have t2 := aF.frame (w' := ws) ay gB (fun b hb => jw.block b (aF.lt ay gB b hb) (by intro h; simp at h; have := wj.out b hb; omega)); have Pk := Hm t0; have Ej := Hm t1; have vk := Hm t2; have tv := Hm l8
  have kK : Hid (∀ b, b ∈ G0 ++ G1 ++ (Value.ownBlock (.slice r3 m.ae.length q3)).toList -> w.heap.size + 2 <= b) := by
   intro b hb; rw [List.mem_append, List.mem_append] at hb; rcases hb with (hb | hb) | hb
   ·have := jH.out b (by simp [hb]); omega
   ·have := jH.out b (by simp [hb]); omega
   ·have := wj.out b hb; omega
  rw [<- jh]; clear jh t0 t1 t2 m6 gB jw nL Du Dv Dw Dx fo2 hw3 s4 Pa Pb Pc Pf Mk Ml Mm Mn; refine (mC _ d0 d1 r3 e0 e1 q3 m { m with ag := m.ae } G0 G1 _ ws (aq.mono (aq.below HR.out tv.out) tv.out.size) HW.out Pk.out Ej.out vk.out kX AK.out (by simp only; omega)).mono ?_; rintro e w4 ⟨Hj, F4, rfl, jc, pq, mX⟩; have hb4 := af tv.out mX; have lD := jd.under mX; have hl4 := lD.lt; have UC := tv.out.size; have QR := jd.lt; rw [HE.out.1] at jc; obtain ⟨q0, p0, q1, p1, q2, p2, E0, E1, E2, rfl, _, _, _, _, rfl⟩ := aC jc
  have hkey : ∀ W', aw [w.heap.size + 1] w4 W' -> (∃ F, ba W' [.slice q0 (aY { m with ag := m.ae }).aa.length p0, .slice q1 (aY { m with ag := m.ae }).ae.length p1, .slice q2 (aY { m with ag := m.ae }).ag.length p2, .int .i64 (aY { m with ag := m.ae }).ah] (aY { m with ag := m.ae }) F /\ ∀ b, b ∈ F -> w.heap.size <= b) /\ Below w.heap.size w W' := fun W' hT =>
   ⟨⟨_, aj.frame jc (fun b hb => hT.block b (aj.lt jc b hb) (fun h => by simp at h; rcases pq b hb with h2 | h2; (have := kK.out b h2; omega); omega)), fun b hb => by first | (have := lX b hb; omega) | (have := lx b hb; omega) | (rcases pq b hb with h2 | h2; (have := kK.out b h2; omega); omega)⟩, hb4.trans (hT.below (fun k hk => by simp at hk; omega) hb4.size)⟩
  have HKEY := Hm hkey; clear hkey jc pq; obtain ⟨oa, od, og, oh⟩ := lD.c4; obtain ⟨oc, mz, nL, ol⟩ := lD.f4; have Mo : Hid (jo { m with ag := m.ae } = 0) := HE.out.2; rw [Mo.out]; go_wp2_with fail; obtain ⟨h1, h3⟩ := HKEY.out _ (show aw [w.heap.size + 1] w4 ((((w4.setCell ⟨w.heap.size + 1, 0, none⟩ (.slice q0 (aY { m with ag := m.ae }).aa.length p0)).setCell ⟨w.heap.size + 1, 1, none⟩ (.slice q1 (aY { m with ag := m.ae }).ae.length p1)).setCell ⟨w.heap.size + 1, 2, none⟩ (.slice q2 (aY { m with ag := m.ae }).ag.length p2)).setCell ⟨w.heap.size + 1, 3, none⟩ (.int .i64 (aY { m with ag := m.ae }).ah)) from bE _ _ _ _ _ _); exact bodyPost_ret (v := .tuple #[.agg #[.slice q0 (aY { m with ag := m.ae }).aa.length p0, .slice q1 (aY { m with ag := m.ae }).ae.length p1, .slice q2 (aY { m with ag := m.ae }).ag.length p2, .int .i64 (aY { m with ag := m.ae }).ah], .int .i64 0]) (by simp [results, Tryz.results29, go_sem, *]) rfl ⟨[.slice q0 (aY { m with ag := m.ae }).aa.length p0, .slice q1 (aY { m with ag := m.ae }).ae.length p1, .slice q2 (aY { m with ag := m.ae }).ag.length p2, .int .i64 (aY { m with ag := m.ae }).ah], by rw [HV.out.2], by rw [HV.out.1]; exact h1, h3⟩
 ·have hK2 : bc m = false := Bool.eq_false_iff.2 hK
  have HV : Hid (cC m = m /\ eL m = 1) := by refine ⟨?_, ?_⟩ <;> simp [cC, eL, hK2]
  have ry : Hid (eL m = 1) := HV.out.2; rw [hK2]; clear hK hK2; obtain ⟨oa, oc, od, mz, og, nL, oh, ol⟩ := bZ.c8; have tB := bZ.lt; have nw : ba w2 (cj d0 e0 d1 e1 d2 e2 m) (cC m) (G0 ++ G1 ++ G2 ++ []) := by rw [HV.out.1]; exact aj.frame HO.out (fun b hb => aQ.block b (gZ.out b hb))
  have lX : ∀ b, b ∈ G0 ++ G1 ++ G2 ++ [] -> w.heap.size + 2 <= b := fun b hb => by have := jH.out b hb; omega
  have ny := Hm hb2; have m4 := Hm nw; clear nw; go_wp2_with fail; refine bodyPost_ret (v := .tuple #[.agg #[.slice d0 m.aa.length e0, .slice d1 m.ae.length e1, .slice d2 m.ag.length e2, .int .i64 m.ah], .int .i64 1]) (by simp [results, Tryz.results29, go_sem, *]) rfl ⟨(cj d0 e0 d1 e1 d2 e2 m), by first | rfl | rw [ry.out], ?_, ?_⟩
  ·exact ⟨_, aj.frame m4.out (fun b hb => (show aw [w.heap.size + 1] w2 _ from by repeat (first | with_reducible exact aw.refl _ _ | with_reducible refine aw.setCell ?_ (by simp) _ | with_reducible refine aw.alloc ?_ _ | with_reducible refine aw.drew ?_)).block b (aj.lt m4.out b hb) (by intro h; simp at h; have := lX b hb; omega)), fun b hb => by first | (have := lX b hb; omega) | (have := lx b hb; omega) | (rcases pq b hb with h2 | h2; (have := kK.out b h2; omega); omega)⟩
  ·exact ny.out.trans ((show aw [w.heap.size + 1] w2 _ from by repeat (first | with_reducible exact aw.refl _ _ | with_reducible refine aw.setCell ?_ (by simp) _ | with_reducible refine aw.alloc ?_ _ | with_reducible refine aw.drew ?_)).below (fun k hk => by simp at hk; omega) ny.out.size)
theorem y6 (cs : List Value) (m : az) (w : World) (hr : bg w.heap.size w cs m) (hw : aZ m <= 1048576) :
  Calls Tryz.prog 29 #[.agg cs.toArray] w fun e w' => ∃ cs' : List Value, e = .returned (.tuple #[.agg cs'.toArray, .int .i64 (eL m)]) /\ bg w'.heap.size w' cs' (cC m) /\ Below w.heap.size w w' :=
 (rz cs m w hr hw).mono fun e w' ⟨cs', he, ⟨F, ho, _⟩, hx⟩ => ⟨cs', he, aj.read ho, hx⟩
theorem rA (a : Option Addr) (n c : Nat) (l : List aB) (s : ByteArray) (w : World) (hx : l.length = n) (hn : n <= 1048576) (hl : bw 2 cy w.heap.size w a c l) :
  Calls Tryz.prog 73 #[.slice a n c, .string s] w fun e w' => ∃ (a' : Option Addr) (c' : Nat) (F : List Nat), e = .returned (.slice a' (without l s).length c') /\ aF 2 68 cN w' (.slice a' (without l s).length c') (without l s) F /\ (∀ b, b ∈ F -> w.heap.size <= b) /\ Below w.heap.size w w' := by
 obtain ⟨iE, mV, fJ, fK, fL⟩ := info_parts Tryz.gG; have HX := Hm hx; have G4 := Hm hl.2.2; clear hx hl; go_enter Tryz.func73, Tryz.ntmps73; go_wp2_with fail
 go_loopw [5, 6] (fun v i wr => ∃ k : Nat, k <= n /\ i = .int .i64 k /\ bS 2 68 cy w.heap.size wr w.heap.size v (without (l.take k) s) /\ Below w.heap.size w wr) (fun _ i _ => n - (intOf i).toNat)
 case atStart =>
  refine ⟨0, Nat.zero_le _, rfl, ⟨[], rfl, (fun _ h => by cases h), (fun _ h => by simp [without] at h), ?_⟩, Below.alloc rB rN _⟩; have h := kY w w.heap.size 68 2 rN
  simpa [without] using h
 case round =>
  obtain ⟨k, hk, rfl, hrow, bF⟩ := hrel; have eI := bF.size
  by_cases hlt : k < n
  ·have gH : k < l.length := by rw [HX.out]; exact hlt
   obtain ⟨b1, o1, rfl, hB, cs, iw, hcell, Sa⟩ := (G4.out.below au bF) k gH; have jF := Hm Sa; obtain ⟨rfl, hsz, qJ, _⟩ := Sa; have k0 := hcell 0 _ rfl; have k1 := hcell 1 _ rfl; rw [Nat.add_zero] at k0; have wN : (without (l.take k) s).length <= 1048576 := Nat.le_trans (List.length_filter_le _ _) (by simp; omega); have nZ := Hm (fun h => lC (p := fun e : aB => decide (e.ax ≠ s)) gH h); have mo := Hm (fun h => mv (p := fun e : aB => decide (e.ax ≠ s)) gH h); have Fm : Hid (b1 < wr.heap.size) := by show _ < _; omega
   clear hcell iw; obtain ⟨x, hx⟩ : ∃ x, l[k] = x := ⟨_, rfl⟩
   rw [hx] at nZ mo jF k0 k1; clear hx hsz qJ; obtain ⟨fl, AC⟩ : ∃ fl, fl = without (l.take k) s := ⟨_, rfl⟩
   have YV : Hid (fl = (l.take k).filter fun e : aB => decide (e.ax ≠ s)) := AC; rw [<- AC] at hrow wN; clear AC
   by_cases he : x.ax = s
   ·have HF : Hid (without (l.take (k + 1)) s = fl) := by show _ = _; rw [YV.out]; exact mo.out (by simp [he])
    have Bp := nT he; have RY := Hm hrow; clear hrow nZ mo he; go_wp2_with fail
    go_roundw
    case rel => exact ⟨k + 1, by omega, by go_num, by rw [HF.out]; exact RY.out, bF⟩
    case measure => simp [intOf]; omega
   ·have HF : Hid (without (l.take (k + 1)) s = fl ++ [x]) := by show _ = _; rw [YV.out]; exact nZ.out (by simp [he])
    have Bp := rI he; obtain ⟨css, r1, r2, r3, r4⟩ := hrow; have eH := Fm.out; clear nZ mo he; go_wp2_with (at_builtin; refine wpList_append_own_at _ rfl _ _ 25 rfl w.heap.size 68 iE (.agg #[.string ⟨#[]⟩, .int .i64 0]) 2 24 Tryz.underlying25 mV fJ fK fL rfl (by decide) _ _ _ rfl (aA r4 (rB.alloc rN _)) ⟨wr.heap.size, 0, none⟩ 1 1 [.string x.ax, .int .i64 x.bi] rfl rfl (b8 (Bx.new wr _ _)) (by intro u hu; simp at hu; rcases hu with rfl | rfl <;> rfl) (by unfold maxLen; omega) (by omega) (by simp; omega) ?_; intro v' w3 ek dI hnil hloc); have hT := aw.after ((Below.refl wr.heap.size wr).alloc rN _) (dE dI); have lx : ∀ k, k ∈ (Value.ownBlock _).toList -> w.heap.size <= k := fun k hk => (r4.lt k (by simpa using hk)).1
    have hBl : Below w.heap.size wr w3 := aw.below hT (fun k hk => lx k hk) eI
    go_roundw
    case rel => exact ⟨k + 1, by omega, by go_num, by rw [HF.out]; exact bS.push au r1 r2 r3 hBl rfl (au.below jF.out hBl) ek, bF.trans hBl⟩
    case measure => simp [intOf]; omega
  ·have qZ : k = n := by omega
   have HT : Hid (l.take k = l) := by show _ = _; rw [qZ, <- HX.out]; exact List.take_length
   rw [HT.out] at hrow; obtain ⟨css, r1, r2, r3, r4⟩ := hrow; obtain ⟨a', c', rfl⟩ := bk r4; have ho := kW rfl r1 r2 r3 r4; have HO := Hm ho; have jH : Hid (∀ b, b ∈ (Value.ownBlock (.slice a' (without l s).length c')).toList -> w.heap.size <= b) := fun b hb => (r4.lt b (by simpa using hb)).1
   clear ho r1 r2 r3 r4; go_wp2_with fail; go_ret; exact ⟨a', c', _, rfl, HO.out, jH.out, bF⟩
theorem nB {F : List Nat} {w w1 : World} (h : aw F w w1 := by repeat (first | with_reducible exact aw.refl _ _ | with_reducible refine aw.setCell ?_ (by simp) _ | with_reducible refine aw.alloc ?_ _ | with_reducible refine aw.drew ?_)) : aw F w w1 := h
theorem oU (cs : List Value) (m : az) (s t : ByteArray) (w : World) (hr : bg w.heap.size w cs m) (hs : s.size <= 9223372036854775807) (ht : t.size <= 9223372036854775807) (hw : aZ m <= 1048576) (di : s.size <= 1048576) (Po : t.size <= 1048576) :
  Calls Tryz.prog 28 #[.agg cs.toArray, .string s, .string t] w fun e w' => ∃ cs' : List Value, e = .returned (.tuple #[.agg cs'.toArray, .int .i64 (cD m s t)]) /\ (∃ F, ba w' cs' (bQ m s t) F /\ ∀ b, b ∈ F -> w.heap.size <= b) /\ Below w.heap.size w w' := by
 have hq := hr; obtain ⟨a0, c0, a1, c1, a2, c2, rfl, hI, gf, gT, kX, _⟩ := hq; have hw2 : m.aa.length + aP aJ m.aa + (m.ae.length + aP a7 m.ae) + (m.ag.length + aP a7 m.ag) <= 1048576 := hw; have HW := Hm hw; have HR := Hm hr; clear hr hI gf gT hw; go_enter Tryz.func28, Tryz.ntmps28; go_wp2_with fail; obtain ⟨wq, bI⟩ : ∃ wq, wq = ((w.alloc (.cells #[.slice a0 m.aa.length c0, .slice a1 m.ae.length c1, .slice a2 m.ag.length c2, .int .i64 m.ah] 27)).alloc (.cells #[.slice none 0 0, .slice none 0 0, .slice none 0 0, .int .i64 0] 27)) := ⟨_, rfl⟩
 have cJ : Below w.heap.size w wq := by rw [bI]; exact Below.alloc (Below.alloc rB (by exact rN) _) (by simp; try omega) _
 have dl : Bw wq (w.heap.size) 27 (cj a0 c0 a1 c1 a2 c2 m) := by rw [bI]; exact Bw.alloc (Bw.dX _ _ _ (by simp)) _
 have hbr : Bw wq (w.heap.size + 1) 27 oz := by rw [bI]; exact Bw.dX _ _ _ (by simp)
 rw [<- bI]; clear bI; refine (eC _ m wq (aq.mono (aq.below HR.out cJ) cJ.size) HW.out).mono ?_; rintro e w1 ⟨FH, F2, rfl, mm, nW, jT, hx1⟩; obtain ⟨d0, e0, d1, e1, d2, e2, G0, G1, G2, rfl, o0, o1, o2, _, rfl⟩ := aC mm; have sH := Hm o0; have vO := Hm o1; have zG := Hm o2; have HO := Hm mm; have HN := Hm nW; have jH : Hid (∀ b, b ∈ G0 ++ G1 ++ G2 ++ [] -> wq.heap.size <= b) := jT; have gZ : Hid (∀ b, b ∈ G0 ++ G1 ++ G2 ++ [] -> b < w1.heap.size) := fun b hb => aj.lt mm b hb
 clear mm nW jT o0 o1 o2; have hb1 := af cJ hx1; have df := dl.under hx1; have dB := hbr.under hx1; have hz1 := hx1.size; have Ln := cJ.size; have hl0 := hbr.lt; obtain ⟨y0, y1, y2, y3⟩ := df.c4; have sF := df.lt; go_wp2_with fail; obtain ⟨wa, gY⟩ : ∃ wa, wa = w1.alloc (.cells #[.slice d0 m.aa.length e0, .slice d1 m.ae.length e1, .slice d2 m.ag.length e2, .int .i64 m.ah] 27) := ⟨_, rfl⟩
 have jL : Below w1.heap.size w1 wa := by rw [gY]; exact rB.alloc rN _
 have oq : Bw wa w1.heap.size 27 (cj d0 e0 d1 e1 d2 e2 m) := by rw [gY]; exact Bw.new _ _ _
 rw [<- gY]; clear gY; have kJ := af hb1 jL; have pD := (df.under jL)
 refine (mE _ m s wa (aq.mono (aq.below HR.out kJ) kJ.size) HW.out hs).mono ?_; rintro e w2 ⟨rfl, hx2⟩; have aQ := af jL hx2; have hb2 := af kJ hx2; have gj := oq.under hx2; have bZ := (dB.under jL).under hx2; have eT := pD.under hx2; clear oq pD df y0 y1 y2 y3; obtain ⟨Du, Dv, Dw, Dx⟩ := gj.c4
 by_cases h1 : aS m s = 1
 ·have ry : Hid (cD m s t = 1) := by show _ = _; unfold cD; rw [h1]; split <;> rfl
  have HV : Hid (bQ m s t = m) := by show _ = _; unfold bQ; rw [ry.out]; rfl
  rw [h1]; clear h1; obtain ⟨oa, oc, od, mz, og, nL, oh, ol⟩ := bZ.c8; have tB := bZ.lt; have nw : ba w2 (cj d0 e0 d1 e1 d2 e2 m) (bQ m s t) (G0 ++ G1 ++ G2 ++ []) := by rw [HV.out]; exact aj.frame HO.out (fun b hb => aQ.block b (gZ.out b hb))
  have lX : ∀ b, b ∈ G0 ++ G1 ++ G2 ++ [] -> w.heap.size + 2 <= b := fun b hb => by have := jH.out b hb; omega
  have ny := Hm hb2; have m4 := Hm nw; clear nw; go_wp2_with fail; refine bodyPost_ret (v := .tuple #[.agg #[.slice d0 m.aa.length e0, .slice d1 m.ae.length e1, .slice d2 m.ag.length e2, .int .i64 m.ah], .int .i64 1]) (by simp [results, Tryz.results28, go_sem, *]) rfl ⟨(cj d0 e0 d1 e1 d2 e2 m), by first | rfl | rw [ry.out], ?_, ?_⟩
  ·exact ⟨_, aj.frame m4.out (fun b hb => (show aw [w.heap.size + 1] w2 _ from nB).block b (aj.lt m4.out b hb) (by intro h; simp at h; have := lX b hb; omega)), fun b hb => by first | (have := lX b hb; omega) | (have := lx b hb; omega) | (rcases pq b hb with h2 | h2; (have := kK.out b h2; omega); omega)⟩
  ·exact ny.out.trans ((show aw [w.heap.size + 1] w2 _ from nB).below (fun k hk => by simp at hk; omega) ny.out.size)
 have Mt : (aS m s == 1) = false := beq_eq_false_iff_ne.2 h1
 by_cases Lq : bH t = true
 ·have UG : Hid (cD m s t = aS m s) := by show _ = _; unfold cD; rw [if_pos Lq]
  have Mu := Lq
  by_cases hC : aS m s = 0
  ·by_cases hst : s = t
   ·subst hst
    have ry : Hid (cD m s s = 0) := by show _ = _; rw [UG.out, hC]
    have HV : Hid (bQ m s s = m) := by show _ = _; unfold bQ; rw [if_pos ry.out]; exact BK hC
    rw [hC]; clear hC h1 Mt Lq; go_wp2_with fail; refine (kG s _ hs).mono ?_; rintro e w9 ⟨rfl, zI⟩; have Pp := zI.symm; clear zI; subst Pp; rw [Mu]; obtain ⟨oa, oc, od, mz, og, nL, oh, ol⟩ := bZ.c8; have tB := bZ.lt; have nw : ba w2 (cj d0 e0 d1 e1 d2 e2 m) (bQ m s s) (G0 ++ G1 ++ G2 ++ []) := by rw [HV.out]; exact aj.frame HO.out (fun b hb => aQ.block b (gZ.out b hb))
    have lX : ∀ b, b ∈ G0 ++ G1 ++ G2 ++ [] -> w.heap.size + 2 <= b := fun b hb => by have := jH.out b hb; omega
    have ny := Hm hb2; have m4 := Hm nw; clear nw; go_wp2_with fail; refine bodyPost_ret (v := .tuple #[.agg #[.slice d0 m.aa.length e0, .slice d1 m.ae.length e1, .slice d2 m.ag.length e2, .int .i64 m.ah], .int .i64 0]) (by simp [results, Tryz.results28, go_sem, *]) rfl ⟨(cj d0 e0 d1 e1 d2 e2 m), by first | rfl | rw [ry.out], ?_, ?_⟩
    ·exact ⟨_, aj.frame m4.out (fun b hb => (show aw [w.heap.size + 1] w2 _ from nB).block b (aj.lt m4.out b hb) (by intro h; simp at h; have := lX b hb; omega)), fun b hb => by first | (have := lX b hb; omega) | (have := lx b hb; omega) | (rcases pq b hb with h2 | h2; (have := kK.out b h2; omega); omega)⟩
    ·exact ny.out.trans ((show aw [w.heap.size + 1] w2 _ from nB).below (fun k hk => by simp at hk; omega) ny.out.size)
   ·have Bp := rI hst
    have hgd := (cW hC).1; have WP := (cW hC).2.2; have Em := qD (s := s) (t := t) hC Lq
    have HV : Hid (bQ m s t = aY { m with ae := bC m s t } /\ cD m s t = 0) := by
     have h0 : cD m s t = 0 := UG.out.trans hC; refine ⟨?_, h0⟩; unfold bQ lR; rw [if_pos h0]
    have HE : Hid (mB m { m with ae := bC m s t } = aY { m with ae := bC m s t } /\ jo { m with ae := bC m s t } = 0) := by
     unfold lR at Em; refine ⟨?_, ?_⟩ <;> simp only [mB, jo, Em, if_true]
    have ua := bM.1 hgd; have zE : kr m.ae := ua.names.px; have m5 : (without m.ae s).Sublist m.ae := List.filter_sublist; have RY : Hid (kr (without m.ae s)) := zE.sublist m5; have h3 := oF ua WP Lq; have hwt := eB hgd; have h7 := oG (fun e he => (h3.1.1 e he).2); have h8 := h3.2; have WQ : Hid ((bC m s t).length <= 1000) := by show _ <= _; omega
    have AK : Hid (aZ { m with ae := bC m s t } <= 16777216) := by
     show _ <= _; rw [cR]; simp only; omega
    have HLW : Hid ((without m.ae s).length <= 1048576) := by show _ <= _; have := m5.length_le; omega
    rw [hC]; clear hC h1 Mt Lq Em ua zE m5 h3 hwt h7 h8; obtain ⟨hk, hid, _⟩ := mh hgd WP; have hnz : iq m.ae s = (nameAt m.ae s : Int) := by unfold iq; rw [WP, if_pos rfl]
    have xF : ∀ W', Below w2.heap.size w2 W' -> bw 2 cy W'.heap.size W' d1 e1 m.ae := fun W' hb => aF.leaf ay (aF.frame ay vO.out (fun b kB => (af aQ hb).block b (gZ.out b (by simp [kB]))))
    obtain ⟨b1, o1, rfl, eH, cs1, JV, nI, rfl, uE⟩ := (xF _ rB).2.2 (nameAt m.ae s) hk; have JW := nI 1 _ rfl; have O3 : Hid ((Lit.int .i64 (eK m.ae s)).wf = true) := by show _ = _; rw [hid]; exact uE.2.1
    rw [<- hid] at JW; have q1 : ∀ W', Below w2.heap.size w2 W' -> W'.cell? ⟨b1, o1 + nameAt m.ae s * 2 + 1, none⟩ = some (.int .i64 (eK m.ae s)) := fun W' hb => (hb.cell (p := ⟨b1, o1 + nameAt m.ae s * 2 + 1, none⟩) eH).trans JW
    have I2 := fun W' (hb : Below w2.heap.size w2 W') => om (some ⟨b1, o1, none⟩) _ e1 m.ae s W' W'.heap.size rfl (by omega) (xF W' hb).2.2
    simp only [hnz] at I2; have RM : (0 : Int) <= (nameAt m.ae s : Int) := by omega
    have IY : (nameAt m.ae s : Int) < (m.ae.length : Int) := by omega
    have Su : ∀ W', Below w2.heap.size w2 W' -> W'.cell? ⟨w1.heap.size, 1, none⟩ = some (.slice (some ⟨b1, o1, none⟩) m.ae.length e1) := fun W' hb => (gj.under hb).cell 1 _ rfl
    clear xF nI JV JW uE hid hnz; have YQ := Hm hk; clear hk; obtain ⟨na, Nx⟩ : ∃ na, na = nameAt m.ae s := ⟨_, rfl⟩
    obtain ⟨QU, Pq⟩ : ∃ QU, QU = eK m.ae s := ⟨_, rfl⟩
    rw [<- Nx] at q1 I2 RM IY; rw [<- Pq] at q1; have SC := Hm Pq; clear Nx Pq; go_wp2_with fail; refine (kG t _ ht).mono ?_; rintro e w9 ⟨rfl, zI⟩; have Pp := zI.symm; clear zI; subst Pp; rw [Mu]; go_wp2_with fail; refine kz w2 (fun hZ => ?_); refine uq 0 ?_; refine uq 1 ?_; refine uq 2 ?_; refine uq 3 ?_; refine uq 4 ?_; refine bf 5 rfl fun K hK => ?_
    go_simp; refine Calls.mono (I2 _ hZ) ?_; rintro e OI ⟨rfl, di⟩; have B5 := a8 di; clear di; go_wp2_with fail; refine aL hK (af hZ B5) (fun hZ => ?_); clear hK K; refine uq 6 ?_; refine uq 7 ?_; refine uq 8 ?_; refine uq 9 ?_; refine dC ?_; obtain ⟨wo, Bu⟩ : ∃ wo, wo = OI := ⟨_, rfl⟩
    rw [<- Bu] at hZ ⊢; clear Bu I2 Su q1 Du Dv Dw Dx; have ej := af aQ hZ; have hb3 := af hb2 hZ; have xG := gj.under hZ; have Mq := eT.under hZ; have Mr := bZ.under hZ; clear gj eT bZ hZ; obtain ⟨Du, Dv, Dw, Dx⟩ := xG.c4; have Jw := xG.lt; have Pr := xG.free 1; go_wp2_with fail; refine (rA (some ⟨b1, o1, none⟩) m.ae.length e1 m.ae s wo rfl (by omega) (aF.leaf ay (aF.frame ay vO.out (fun b kB => ej.block b (gZ.out b (by simp [kB])))))).mono ?_; rintro e w3 ⟨r3, q3, F3, rfl, eU, hg3, hx3⟩; have m4 := Hm eU; clear eU hg3; have lj := xG.under hx3; have jJ := Mq.under hx3; have dc := Mr.under hx3; have SD := af ej hx3; have WR := af hb3 hx3; clear xG Mq Mr Du Dv Dw Dx Pr Jw; obtain ⟨Du, Dv, Dw, Dx⟩ := lj.c4; have Jw := lj.lt; have Pr := lj.free 1; have HRN : Hid (dV (without m.ae s) ⟨t, QU⟩ = bC m s t) := by show _ = _; unfold bC; rw [SC.out]
    go_wp2_with fail; have li := xy r3 _ q3 (without m.ae s) ⟨t, QU⟩ w3 rfl HLW.out (aF.leaf ay m4.out) RY.out ht (by rw [SC.out]; exact O3.out); rw [HRN.out] at li; refine li.mono ?_; clear li; rintro e w4 ⟨r4, q4, F4, rfl, jc, hg4, mX⟩; have YW := Hm jc; have wj := Hm hg4; clear jc hg4; have AU := lj.under mX; have mz := AU.free 1; have sI := AU.lt; have Ef := jJ.under mX; have Pn := Ef.lt; obtain ⟨Mk, Ml, Mm, Mn⟩ := AU.c4; obtain ⟨Pa, Pb, Pc, Pf⟩ := Ef.c4; clear Du Dv Dw Dx Pr; have abT := SD.size; go_wp2_with fail; obtain ⟨ws, jh⟩ : ∃ ws, ws = w4.setCell ⟨w1.heap.size, 1, none⟩ (.slice r4 (bC m s t).length q4) := ⟨_, rfl⟩
    have jw : aw [w1.heap.size] w4 ws := by rw [jh]; exact aw.setCell (aw.refl _ _) (by simp) _
    have Ci : Bw ws w1.heap.size 27 [.slice d0 m.aa.length e0, .slice r4 (bC m s t).length q4, .slice d2 m.ag.length e2, .int .i64 m.ah] := by rw [jh]; exact AU.put 1 _
    have oT := Ef.turn jw (by simp; omega); have jd := (dc.under mX).turn jw (by simp; omega); have SE := af WR mX; have SF := af SD mX; have l8 : Below w.heap.size w ws := SE.trans (jw.below (fun k hk => by simp at hk; omega) SE.size)
    have m6 : ∀ b, b ∈ G0 ++ G1 ++ G2 ++ [] -> ws.heap[b]? = w1.heap[b]? := fun b hb => by
     have h1 := gZ.out b hb; rw [jw.block b (by have := SF.size; omega) (by simp; omega), SF.block b h1]
    have t0 := aF.frame (w' := ws) aH sH.out (fun b hb => m6 b (by simp [hb])); have t2 := aF.frame (w' := ws) ay zG.out (fun b hb => m6 b (by simp [hb])); have t1 := aF.frame (w' := ws) ay YW.out (fun b hb => jw.block b (aF.lt ay YW.out b hb) (by intro h; simp at h; have := wj.out b hb; omega)); have Pk := Hm t0; have Ej := Hm t1; have vk := Hm t2; have tv := Hm l8
    have kK : Hid (∀ b, b ∈ G0 ++ F4 ++ G2 -> w.heap.size + 2 <= b) := by
     intro b hb; rw [List.mem_append, List.mem_append] at hb; rcases hb with (hb | hb) | hb
     ·have := jH.out b (by simp [hb]); omega
     ·have := wj.out b hb; omega
     ·have := jH.out b (by simp [hb]); omega
    rw [<- jh]; clear jh t0 t1 t2 m6 jw mz Mk Ml Mm Mn Pa Pb Pc Pf; obtain ⟨zs0, zs1, zs2, zs3⟩ := Ci.c4; obtain ⟨ys0, ys1, ys2, ys3⟩ := oT.c4; go_wp2_with fail; refine (mC _ d0 r4 d2 e0 q4 e2 m { m with ae := bC m s t } G0 _ G2 ws (aq.mono (aq.below HR.out tv.out) tv.out.size) HW.out Pk.out Ej.out vk.out kX AK.out (by have := WQ.out; simp only; omega)).mono ?_; rintro e w5 ⟨Hj, F4, rfl, jc, pq, pE⟩; have Br := af tv.out pE; have rY := jd.under pE; have R7 := rY.lt; have UC := tv.out.size; have QR := jd.lt; rw [HE.out.1] at jc; obtain ⟨q0, p0, q1, p1, q2, p2, E0, E1, E2, rfl, _, _, _, _, rfl⟩ := aC jc
    have hkey : ∀ W', aw [w.heap.size + 1] w5 W' -> (∃ F, ba W' [.slice q0 (aY { m with ae := bC m s t }).aa.length p0, .slice q1 (aY { m with ae := bC m s t }).ae.length p1, .slice q2 (aY { m with ae := bC m s t }).ag.length p2, .int .i64 (aY { m with ae := bC m s t }).ah] (aY { m with ae := bC m s t }) F /\ ∀ b, b ∈ F -> w.heap.size <= b) /\ Below w.heap.size w W' := fun W' hT =>
     ⟨⟨_, aj.frame jc (fun b hb => hT.block b (aj.lt jc b hb) (fun h => by simp at h; rcases pq b hb with h2 | h2; (have := kK.out b h2; omega); omega)), fun b hb => by first | (have := lX b hb; omega) | (have := lx b hb; omega) | (rcases pq b hb with h2 | h2; (have := kK.out b h2; omega); omega)⟩, Br.trans (hT.below (fun k hk => by simp at hk; omega) Br.size)⟩
    have HKEY := Hm hkey; clear hkey jc pq; obtain ⟨oa, od, og, oh⟩ := rY.c4; obtain ⟨oc, mz, nL, ol⟩ := rY.f4; have Mo : Hid (jo { m with ae := bC m s t } = 0) := HE.out.2; rw [Mo.out]; go_wp2_with fail; obtain ⟨h1, h3⟩ := HKEY.out _ (show aw [w.heap.size + 1] w5 ((((w5.setCell ⟨w.heap.size + 1, 0, none⟩ (.slice q0 (aY { m with ae := bC m s t }).aa.length p0)).setCell ⟨w.heap.size + 1, 1, none⟩ (.slice q1 (aY { m with ae := bC m s t }).ae.length p1)).setCell ⟨w.heap.size + 1, 2, none⟩ (.slice q2 (aY { m with ae := bC m s t }).ag.length p2)).setCell ⟨w.heap.size + 1, 3, none⟩ (.int .i64 (aY { m with ae := bC m s t }).ah)) from bE _ _ _ _ _ _); exact bodyPost_ret (v := .tuple #[.agg #[.slice q0 (aY { m with ae := bC m s t }).aa.length p0, .slice q1 (aY { m with ae := bC m s t }).ae.length p1, .slice q2 (aY { m with ae := bC m s t }).ag.length p2, .int .i64 (aY { m with ae := bC m s t }).ah], .int .i64 0]) (by simp [results, Tryz.results28, go_sem, *]) rfl ⟨[.slice q0 (aY { m with ae := bC m s t }).aa.length p0, .slice q1 (aY { m with ae := bC m s t }).ae.length p1, .slice q2 (aY { m with ae := bC m s t }).ag.length p2, .int .i64 (aY { m with ae := bC m s t }).ah], by rw [HV.out.2], by rw [HV.out.1]; exact h1, h3⟩
  ·have ry : Hid (cD m s t = aS m s) := UG
   have HV : Hid (bQ m s t = m) := by show _ = _; unfold bQ; rw [ry.out, if_neg hC]
   have Ek : (aS m s == 0) = false := beq_eq_false_iff_ne.2 hC; obtain ⟨cp, rq⟩ : ∃ cp, aS m s = cp := ⟨_, rfl⟩
   have El : (aS m s != 0) = true := bne_iff_ne.2 hC; rw [rq] at Ek El Mt ry ⊢; clear rq hC h1 Lq UG; go_wp2_with fail; refine (kG t _ ht).mono ?_; rintro e w9 ⟨rfl, zI⟩; have Pp := zI.symm; clear zI; subst Pp; rw [Mu]; obtain ⟨oa, oc, od, mz, og, nL, oh, ol⟩ := bZ.c8; have tB := bZ.lt; have nw : ba w2 (cj d0 e0 d1 e1 d2 e2 m) (bQ m s t) (G0 ++ G1 ++ G2 ++ []) := by rw [HV.out]; exact aj.frame HO.out (fun b hb => aQ.block b (gZ.out b hb))
   have lX : ∀ b, b ∈ G0 ++ G1 ++ G2 ++ [] -> w.heap.size + 2 <= b := fun b hb => by have := jH.out b hb; omega
   have ny := Hm hb2; have m4 := Hm nw; clear nw; go_wp2_with fail; refine bodyPost_ret (v := .tuple #[.agg #[.slice d0 m.aa.length e0, .slice d1 m.ae.length e1, .slice d2 m.ag.length e2, .int .i64 m.ah], .int .i64 cp]) (by simp [results, Tryz.results28, go_sem, *]) rfl ⟨(cj d0 e0 d1 e1 d2 e2 m), by first | rfl | rw [ry.out], ?_, ?_⟩
   ·exact ⟨_, aj.frame m4.out (fun b hb => (show aw [w.heap.size + 1] w2 _ from nB).block b (aj.lt m4.out b hb) (by intro h; simp at h; have := lX b hb; omega)), fun b hb => by first | (have := lX b hb; omega) | (have := lx b hb; omega) | (rcases pq b hb with h2 | h2; (have := kK.out b h2; omega); omega)⟩
   ·exact ny.out.trans ((show aw [w.heap.size + 1] w2 _ from nB).below (fun k hk => by simp at hk; omega) ny.out.size)
 ·have Mu : bH t = false := Bool.eq_false_iff.2 Lq
  have ry : Hid (cD m s t = 1) := by show _ = _; unfold cD; rw [if_neg Lq]
  have HV : Hid (bQ m s t = m) := by show _ = _; unfold bQ; rw [ry.out]; rfl
  obtain ⟨cp, rq⟩ : ∃ cp, aS m s = cp := ⟨_, rfl⟩
  rw [rq] at Mt ⊢; clear rq h1 Lq; go_wp2_with fail; refine (kG t _ ht).mono ?_; rintro e w9 ⟨rfl, zI⟩; have Pp := zI.symm; clear zI; subst Pp; rw [Mu]; obtain ⟨oa, oc, od, mz, og, nL, oh, ol⟩ := bZ.c8; have tB := bZ.lt; have nw : ba w2 (cj d0 e0 d1 e1 d2 e2 m) (bQ m s t) (G0 ++ G1 ++ G2 ++ []) := by rw [HV.out]; exact aj.frame HO.out (fun b hb => aQ.block b (gZ.out b hb))
  have lX : ∀ b, b ∈ G0 ++ G1 ++ G2 ++ [] -> w.heap.size + 2 <= b := fun b hb => by have := jH.out b hb; omega
  have ny := Hm hb2; have m4 := Hm nw; clear nw; go_wp2_with fail; refine bodyPost_ret (v := .tuple #[.agg #[.slice d0 m.aa.length e0, .slice d1 m.ae.length e1, .slice d2 m.ag.length e2, .int .i64 m.ah], .int .i64 1]) (by simp [results, Tryz.results28, go_sem, *]) rfl ⟨(cj d0 e0 d1 e1 d2 e2 m), by first | rfl | rw [ry.out], ?_, ?_⟩
  ·exact ⟨_, aj.frame m4.out (fun b hb => (show aw [w.heap.size + 1] w2 _ from nB).block b (aj.lt m4.out b hb) (by intro h; simp at h; have := lX b hb; omega)), fun b hb => by first | (have := lX b hb; omega) | (have := lx b hb; omega) | (rcases pq b hb with h2 | h2; (have := kK.out b h2; omega); omega)⟩
  ·exact ny.out.trans ((show aw [w.heap.size + 1] w2 _ from nB).below (fun k hk => by simp at hk; omega) ny.out.size)
theorem AV (cs : List Value) (m : az) (s t : ByteArray) (w : World) (hr : bg w.heap.size w cs m) (hs : s.size <= 9223372036854775807) (ht : t.size <= 9223372036854775807) (hw : aZ m <= 1048576) (di : s.size <= 1048576) (Po : t.size <= 1048576) :
  Calls Tryz.prog 28 #[.agg cs.toArray, .string s, .string t] w fun e w' => ∃ cs' : List Value, e = .returned (.tuple #[.agg cs'.toArray, .int .i64 (cD m s t)]) /\ bg w'.heap.size w' cs' (bQ m s t) /\ Below w.heap.size w w' :=
 (oU cs m s t w hr hs ht hw di Po).mono fun e w' ⟨cs', he, ⟨F, ho, _⟩, hx⟩ => ⟨cs', he, aj.read ho, hx⟩
theorem tG (cs : List Value) (m : az) (s : ByteArray) (w : World) (hr : bg w.heap.size w cs m) (hs : s.size <= 9223372036854775807) (hw : aZ m <= 1048576) (di : s.size <= 1048576) :
  Calls Tryz.prog 64 #[.agg cs.toArray, .string s] w fun e w' => ∃ cs' : List Value, e = .returned (.tuple #[.agg cs'.toArray, .int .i64 (aS m s)]) /\ (∃ F, ba w' cs' (bA m s) F /\ ∀ b, b ∈ F -> w.heap.size <= b) /\ Below w.heap.size w w' := by
 have hq := hr; obtain ⟨a0, c0, a1, c1, a2, c2, rfl, hI, gf, gT, kX, _⟩ := hq; have hw2 : m.aa.length + aP aJ m.aa + (m.ae.length + aP a7 m.ae) + (m.ag.length + aP a7 m.ag) <= 1048576 := hw; have HW := Hm hw; have HR := Hm hr; clear hr hI gf gT hw; go_enter Tryz.func64, Tryz.ntmps64; go_wp2_with fail; obtain ⟨wq, bI⟩ : ∃ wq, wq = ((w.alloc (.cells #[.slice a0 m.aa.length c0, .slice a1 m.ae.length c1, .slice a2 m.ag.length c2, .int .i64 m.ah] 27)).alloc (.cells #[.slice none 0 0, .slice none 0 0, .slice none 0 0, .int .i64 0] 27)) := ⟨_, rfl⟩
 have cJ : Below w.heap.size w wq := by rw [bI]; exact Below.alloc (Below.alloc rB (by exact rN) _) (by simp; try omega) _
 have dl : Bw wq (w.heap.size) 27 (cj a0 c0 a1 c1 a2 c2 m) := by rw [bI]; exact Bw.alloc (Bw.dX _ _ _ (by simp)) _
 have hbr : Bw wq (w.heap.size + 1) 27 oz := by rw [bI]; exact Bw.dX _ _ _ (by simp)
 rw [<- bI]; clear bI; refine (eC _ m wq (aq.mono (aq.below HR.out cJ) cJ.size) HW.out).mono ?_; rintro e w1 ⟨FH, F2, rfl, mm, nW, jT, hx1⟩; obtain ⟨d0, e0, d1, e1, d2, e2, G0, G1, G2, rfl, o0, o1, o2, _, rfl⟩ := aC mm; have sH := Hm o0; have vO := Hm o1; have zG := Hm o2; have HO := Hm mm; have HN := Hm nW; have jH : Hid (∀ b, b ∈ G0 ++ G1 ++ G2 ++ [] -> wq.heap.size <= b) := jT; have gZ : Hid (∀ b, b ∈ G0 ++ G1 ++ G2 ++ [] -> b < w1.heap.size) := fun b hb => aj.lt mm b hb
 clear mm nW jT o0 o1 o2; have hb1 := af cJ hx1; have df := dl.under hx1; have dB := hbr.under hx1; have hz1 := hx1.size; have Ln := cJ.size; have hl0 := hbr.lt; obtain ⟨y0, y1, y2, y3⟩ := df.c4; have sF := df.lt; go_wp2_with fail; obtain ⟨wa, gY⟩ : ∃ wa, wa = w1.alloc (.cells #[.slice d0 m.aa.length e0, .slice d1 m.ae.length e1, .slice d2 m.ag.length e2, .int .i64 m.ah] 27) := ⟨_, rfl⟩
 have jL : Below w1.heap.size w1 wa := by rw [gY]; exact rB.alloc rN _
 have oq : Bw wa w1.heap.size 27 (cj d0 e0 d1 e1 d2 e2 m) := by rw [gY]; exact Bw.new _ _ _
 rw [<- gY]; clear gY; have kJ := af hb1 jL; have pD := (df.under jL)
 refine (mE _ m s wa (aq.mono (aq.below HR.out kJ) kJ.size) HW.out hs).mono ?_; rintro e w2 ⟨rfl, hx2⟩; have aQ := af jL hx2; have hb2 := af kJ hx2; have gj := oq.under hx2; have bZ := (dB.under jL).under hx2; have eT := pD.under hx2; clear oq pD df y0 y1 y2 y3; obtain ⟨Du, Dv, Dw, Dx⟩ := gj.c4
 by_cases hC : aS m s = 0
 ·have hgd := (cW hC).1
  have Em := uj (s := s) hgd; have HV : Hid (bA m s = aY { m with ae := without m.ae s } /\ aS m s = 0) := by refine ⟨?_, hC⟩; unfold bA sS; rw [if_pos hC]
  have HE : Hid (mB m { m with ae := without m.ae s } = aY { m with ae := without m.ae s } /\ jo { m with ae := without m.ae s } = 0) := by
   unfold sS at Em; refine ⟨?_, ?_⟩ <;> simp only [mB, jo, Em, if_true]
  have m5 : (without m.ae s).Sublist m.ae := List.filter_sublist; have SG := m5.length_le
  have AK : Hid (aZ { m with ae := without m.ae s } <= 16777216) := by
   show _ <= _; have h2 := iR (f := a7) m5; rw [cR]; simp only; omega
  rw [hC]; clear hC Em hgd m5; have Jw := gj.lt; have Pr := gj.free 1; go_wp2_with fail; refine (rA d1 m.ae.length e1 m.ae s w2 rfl (by omega) (aF.leaf ay (aF.frame ay vO.out (fun b kB => aQ.block b (gZ.out b (by simp [kB])))))).mono ?_; rintro e w3 ⟨r3, q3, F3, rfl, eU, hg3, hx3⟩; have m4 := Hm eU; have wj := Hm hg3; clear eU hg3; have lj := gj.under hx3; have mz := lj.free 1; have sI := lj.lt; have jJ := eT.under hx3; have Pn := jJ.lt; obtain ⟨Mk, Ml, Mm, Mn⟩ := lj.c4; obtain ⟨Pa, Pb, Pc, Pf⟩ := jJ.c4; clear Du Dv Dw Dx Pr; go_wp2_with fail; obtain ⟨ws, jh⟩ : ∃ ws, ws = w3.setCell ⟨w1.heap.size, 1, none⟩ (.slice r3 (without m.ae s).length q3) := ⟨_, rfl⟩
  have jw : aw [w1.heap.size] w3 ws := by rw [jh]; exact aw.setCell (aw.refl _ _) (by simp) _
  have Ci : Bw ws w1.heap.size 27 [.slice d0 m.aa.length e0, .slice r3 (without m.ae s).length q3, .slice d2 m.ag.length e2, .int .i64 m.ah] := by rw [jh]; exact lj.put 1 _
  have oT := jJ.turn jw (by simp; omega); have jd := (bZ.under hx3).turn jw (by simp; omega); have hb3 := af hb2 hx3; have l8 : Below w.heap.size w ws := hb3.trans (jw.below (fun k hk => by simp at hk; omega) hb3.size)
  have m6 : ∀ b, b ∈ G0 ++ G1 ++ G2 ++ [] -> ws.heap[b]? = w1.heap[b]? := fun b hb => by
   have h1 := gZ.out b hb; rw [jw.block b (by have := (af aQ hx3).size; omega) (by simp; omega), (af aQ hx3).block b h1]
  have t0 := aF.frame (w' := ws) aH sH.out (fun b hb => m6 b (by simp [hb])); have t2 := aF.frame (w' := ws) ay zG.out (fun b hb => m6 b (by simp [hb])); have O9 := aQ.size; have t1 := aF.frame (w' := ws) ay m4.out (fun b hb => jw.block b (aF.lt ay m4.out b hb) (by intro h; simp at h; have := wj.out b hb; omega)); have Pk := Hm t0; have Ej := Hm t1; have vk := Hm t2; have tv := Hm l8
  have kK : Hid (∀ b, b ∈ G0 ++ F3 ++ G2 -> w.heap.size + 2 <= b) := by
   intro b hb; rw [List.mem_append, List.mem_append] at hb; rcases hb with (hb | hb) | hb
   ·have := jH.out b (by simp [hb]); omega
   ·have := wj.out b hb; omega
   ·have := jH.out b (by simp [hb]); omega
  rw [<- jh]; clear jh t0 t1 t2 m6 jw mz Mk Ml Mm Mn Pa Pb Pc Pf; obtain ⟨zs0, zs1, zs2, zs3⟩ := Ci.c4; obtain ⟨ys0, ys1, ys2, ys3⟩ := oT.c4; go_wp2_with fail; refine (mC _ d0 r3 d2 e0 q3 e2 m { m with ae := without m.ae s } G0 _ G2 ws (aq.mono (aq.below HR.out tv.out) tv.out.size) HW.out Pk.out Ej.out vk.out kX AK.out (by simp only; omega)).mono ?_; rintro e w4 ⟨Hj, F4, rfl, jc, pq, mX⟩; have hb4 := af tv.out mX; have lD := jd.under mX; have hl4 := lD.lt; have UC := tv.out.size; have QR := jd.lt; rw [HE.out.1] at jc; obtain ⟨q0, p0, q1, p1, q2, p2, E0, E1, E2, rfl, _, _, _, _, rfl⟩ := aC jc
  have hkey : ∀ W', aw [w.heap.size + 1] w4 W' -> (∃ F, ba W' [.slice q0 (aY { m with ae := without m.ae s }).aa.length p0, .slice q1 (aY { m with ae := without m.ae s }).ae.length p1, .slice q2 (aY { m with ae := without m.ae s }).ag.length p2, .int .i64 (aY { m with ae := without m.ae s }).ah] (aY { m with ae := without m.ae s }) F /\ ∀ b, b ∈ F -> w.heap.size <= b) /\ Below w.heap.size w W' := fun W' hT =>
   ⟨⟨_, aj.frame jc (fun b hb => hT.block b (aj.lt jc b hb) (fun h => by simp at h; rcases pq b hb with h2 | h2; (have := kK.out b h2; omega); omega)), fun b hb => by first | (have := lX b hb; omega) | (have := lx b hb; omega) | (rcases pq b hb with h2 | h2; (have := kK.out b h2; omega); omega)⟩, hb4.trans (hT.below (fun k hk => by simp at hk; omega) hb4.size)⟩
  have HKEY := Hm hkey; clear hkey jc pq; obtain ⟨oa, od, og, oh⟩ := lD.c4; obtain ⟨oc, mz, nL, ol⟩ := lD.f4; have Mo : Hid (jo { m with ae := without m.ae s } = 0) := HE.out.2; rw [Mo.out]; go_wp2_with fail; obtain ⟨h1, h3⟩ := HKEY.out _ (show aw [w.heap.size + 1] w4 ((((w4.setCell ⟨w.heap.size + 1, 0, none⟩ (.slice q0 (aY { m with ae := without m.ae s }).aa.length p0)).setCell ⟨w.heap.size + 1, 1, none⟩ (.slice q1 (aY { m with ae := without m.ae s }).ae.length p1)).setCell ⟨w.heap.size + 1, 2, none⟩ (.slice q2 (aY { m with ae := without m.ae s }).ag.length p2)).setCell ⟨w.heap.size + 1, 3, none⟩ (.int .i64 (aY { m with ae := without m.ae s }).ah)) from bE _ _ _ _ _ _); exact bodyPost_ret (v := .tuple #[.agg #[.slice q0 (aY { m with ae := without m.ae s }).aa.length p0, .slice q1 (aY { m with ae := without m.ae s }).ae.length p1, .slice q2 (aY { m with ae := without m.ae s }).ag.length p2, .int .i64 (aY { m with ae := without m.ae s }).ah], .int .i64 0]) (by simp [results, Tryz.results64, go_sem, *]) rfl ⟨[.slice q0 (aY { m with ae := without m.ae s }).aa.length p0, .slice q1 (aY { m with ae := without m.ae s }).ae.length p1, .slice q2 (aY { m with ae := without m.ae s }).ag.length p2, .int .i64 (aY { m with ae := without m.ae s }).ah], by rw [HV.out.2], by rw [HV.out.1]; exact h1, h3⟩
 ·have HV : Hid (bA m s = m) := by show _ = _; unfold bA; rw [if_neg hC]
  have Ek : (aS m s == 0) = false := beq_eq_false_iff_ne.2 hC; obtain ⟨cp, rq⟩ : ∃ cp, aS m s = cp := ⟨_, rfl⟩
  rw [rq] at Ek ⊢; have ry := Hm rq; clear rq hC; obtain ⟨oa, oc, od, mz, og, nL, oh, ol⟩ := bZ.c8; have tB := bZ.lt; have nw : ba w2 (cj d0 e0 d1 e1 d2 e2 m) (bA m s) (G0 ++ G1 ++ G2 ++ []) := by rw [HV.out]; exact aj.frame HO.out (fun b hb => aQ.block b (gZ.out b hb))
  have lX : ∀ b, b ∈ G0 ++ G1 ++ G2 ++ [] -> w.heap.size + 2 <= b := fun b hb => by have := jH.out b hb; omega
  have ny := Hm hb2; have m4 := Hm nw; clear nw; go_wp2_with fail; refine bodyPost_ret (v := .tuple #[.agg #[.slice d0 m.aa.length e0, .slice d1 m.ae.length e1, .slice d2 m.ag.length e2, .int .i64 m.ah], .int .i64 cp]) (by simp [results, Tryz.results64, go_sem, *]) rfl ⟨(cj d0 e0 d1 e1 d2 e2 m), by first | rfl | rw [ry.out], ?_, ?_⟩
  ·exact ⟨_, aj.frame m4.out (fun b hb => (show aw [w.heap.size + 1] w2 _ from by repeat (first | with_reducible exact aw.refl _ _ | with_reducible refine aw.setCell ?_ (by simp) _ | with_reducible refine aw.alloc ?_ _ | with_reducible refine aw.drew ?_)).block b (aj.lt m4.out b hb) (by intro h; simp at h; have := lX b hb; omega)), fun b hb => by first | (have := lX b hb; omega) | (have := lx b hb; omega) | (rcases pq b hb with h2 | h2; (have := kK.out b h2; omega); omega)⟩
  ·exact ny.out.trans ((show aw [w.heap.size + 1] w2 _ from by repeat (first | with_reducible exact aw.refl _ _ | with_reducible refine aw.setCell ?_ (by simp) _ | with_reducible refine aw.alloc ?_ _ | with_reducible refine aw.drew ?_)).below (fun k hk => by simp at hk; omega) ny.out.size)
theorem AW (cs : List Value) (m : az) (s : ByteArray) (w : World) (hr : bg w.heap.size w cs m) (hs : s.size <= 9223372036854775807) (hw : aZ m <= 1048576) (di : s.size <= 1048576) :
  Calls Tryz.prog 64 #[.agg cs.toArray, .string s] w fun e w' => ∃ cs' : List Value, e = .returned (.tuple #[.agg cs'.toArray, .int .i64 (aS m s)]) /\ bg w'.heap.size w' cs' (bA m s) /\ Below w.heap.size w w' :=
 (tG cs m s w hr hs hw di).mono fun e w' ⟨cs', he, ⟨F, ho, _⟩, hx⟩ => ⟨cs', he, aj.read ho, hx⟩
end Go.Proofs.YtcamcgfbljhbhaaGreatDoor
