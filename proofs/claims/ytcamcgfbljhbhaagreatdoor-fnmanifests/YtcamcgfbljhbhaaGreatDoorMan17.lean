/-
  Part 18 of the texts that the proof leans on.
-/
import Derived.Test.YtcamcgfbljhbhaaGreatDoorMan0
import Derived.Test.YtcamcgfbljhbhaaGreatDoorMan16
import Derived.Test.YtcamcgfbljhbhaaGreatDoorMan1
import Derived.Test.YtcamcgfbljhbhaaGreatDoorRows
import Derived.Test.YtcamcgfbljhbhaaGreatDoorMan2
import Derived.Test.YtcamcgfbljhbhaaGreatDoorChecked
import Derived.Lib.AppendZerosOnto
import Derived.Deep.DeepCutAuto
set_option linter.unusedVariables false
set_option linter.unusedSimpArgs false
set_option maxRecDepth 10000
set_option maxHeartbeats 20000000

namespace Go.Proofs.YtcamcgfbljhbhaaGreatDoor
open Go.RowKit Go.Maps
theorem zP (s : ByteArray) (w : World) (hs : s.size <= 9223372036854775807) :
  Calls Tryz.prog 75 #[.string s] w fun e w' => e = .returned (.bool (jp s)) /\ w' = w := by
 have HV : Hid (dm (s.size : Int) 1 20 = jp s) := by show _ = _; unfold dm jp; congr 1; apply propext; omega
 go_enter Tryz.func75, Tryz.ntmps75; go_wp2_with fail; refine (bY _ _ _ _).mono ?_; rintro e w1 ⟨rfl, di⟩; subst di; rw [HV.out]; go_wp2_with fail; go_ret; exact ⟨rfl, rfl⟩
theorem EA (nx lg : Int) (a0 : Option Addr) (n c0 : Nat) (t : aT) (w : World) (LP : 1 <= nx) (DX : nx <= 100000) (h2 : t.eo.size <= 9223372036854775807) (h3 : t.em.size <= 9223372036854775807) :
  Calls Tryz.prog 31 #[.agg #[.int .i64 nx, .int .i64 lg, .slice a0 n c0], .agg #[.int .i64 t.fD, .int .i64 t.aN, .string t.eo, .string t.em]] w fun e w' => e = .returned (.bool (iH nx t)) /\ Below w.heap.size w w' := by
 have HV : Hid (iH nx t = (dm t.fD 1 (nx - 1) && dm t.aN 0 3 && jp t.eo && jp t.em && ko t.eo t.em)) := rfl; obtain ⟨wp, mG⟩ : ∃ wp, wp = (w.alloc (.cells #[.int .i64 nx, .int .i64 lg, .slice a0 n c0] 30)).alloc (.cells #[.int .i64 t.fD, .int .i64 t.aN, .string t.eo, .string t.em] 50) := ⟨_, rfl⟩
 have ll : Below w.heap.size w wp := by rw [mG]; exact (rB.alloc rN _).alloc (by simp) _
 have cg : Bx wp (w.heap.size + 1) [.int .i64 t.fD, .int .i64 t.aN, .string t.eo, .string t.em] := by rw [mG]; have h := Bx.new (w.alloc (.cells #[.int .i64 nx, .int .i64 lg, .slice a0 n c0] 30)) [.int .i64 t.fD, .int .i64 t.aN, .string t.eo, .string t.em] 50; simpa using h
 have Hz : Bx wp w.heap.size [.int .i64 nx, .int .i64 lg, .slice a0 n c0] := by rw [mG]; exact (Bx.new w [.int .i64 nx, .int .i64 lg, .slice a0 n c0] 30).under (rB.alloc rN _)
 have y0 := cg.2 0 _ rfl; have y1 := cg.2 1 _ rfl; have y2 := cg.2 2 _ rfl; have y3 := cg.2 3 _ rfl; have m0 := Hz.2 0 _ rfl; have hz := cg.1; have hz2 := Hz.1; have Ko := fun W => zP t.eo W h2
 have hk2 := fun W => zP t.em W h3
 have Uf := fun W => bY t.fD 1 (nx - 1) W
 have Ye := fun W => bY t.aN 0 3 W
 generalize jp t.eo = a at *; generalize jp t.em = b at *; generalize dm t.fD 1 (nx - 1) = r1 at *; generalize dm t.aN 0 3 = r2 at *; go_enter Tryz.func31, Tryz.ntmps31; go_wp2_with (rw [<- mG]); refine (Uf _).mono ?_; rintro e w1 ⟨rfl, di⟩; subst di; clear mG; cases r1 with
 | false =>
  have HD : Hid (iH nx t = false) := by show _ = _; rw [HV.out]; simp
  go_wp2_with fail; go_ret; exact ⟨by rw [HD.out]; rfl, ll⟩
 | true =>
  go_wp2_with fail; refine (Ye _).mono ?_; rintro e w1 ⟨rfl, di⟩; subst di; cases r2 with
  | false =>
   have HD : Hid (iH nx t = false) := by show _ = _; rw [HV.out]; simp
   go_wp2_with fail; go_ret; exact ⟨by rw [HD.out]; rfl, ll⟩
  | true =>
   go_wp2_with fail; refine (Ko _).mono ?_; rintro e w1 ⟨rfl, di⟩; subst di; cases a with
   | false =>
    have HD : Hid (iH nx t = false) := by show _ = _; rw [HV.out]; simp
    go_wp2_with fail; go_ret; exact ⟨by rw [HD.out]; rfl, ll⟩
   | true =>
    go_wp2_with fail; refine (hk2 _).mono ?_; rintro e w1 ⟨rfl, di⟩; subst di; cases b with
    | false =>
     have HD : Hid (iH nx t = false) := by show _ = _; rw [HV.out]; simp
     go_wp2_with fail; go_ret; exact ⟨by rw [HD.out]; rfl, ll⟩
    | true =>
     by_cases hk : ko t.eo t.em = true
     ·have HD : Hid (iH nx t = true) := by show _ = _; rw [HV.out, hk]; rfl
      rcases oX hk with hq | hq
      ·go_wp2_with fail
       go_ret; exact ⟨by rw [HD.out]; rfl, ll⟩
      ·go_wp2_with fail
       go_ret; exact ⟨by rw [HD.out]; rfl, ll⟩
     ·have Hq := Bool.eq_false_iff.2 hk
      have HD : Hid (iH nx t = false) := by show _ = _; rw [HV.out, Hq]; rfl
      obtain ⟨km, Cu⟩ := uG Hq; go_wp2_with fail; go_ret; exact ⟨by rw [HD.out]; rfl, ll⟩
theorem HQ {next : Int} {t : aT} (h : iH next t = true) : 1 <= t.fD := by
 simp only [iH, Bool.and_eq_true, decide_eq_true_eq] at h; exact h.1.1.1.1.1
theorem nC (cs : List Value) (m : aK) (w : World) (hr : ct w.heap.size w cs m) (hw : fP m <= 1048576) :
  Calls Tryz.prog 9 #[.agg cs.toArray] w fun e w' => e = .returned (.bool (bO m)) /\ Below w.heap.size w w' := by
 obtain ⟨a0, c0, rfl, EB, A0, hL, _⟩ := hr; have HL := Hm hL; obtain ⟨l, hl⟩ : ∃ l, l = m.aD := ⟨_, rfl⟩
 obtain ⟨n, hx⟩ : ∃ n, n = l.length := ⟨_, rfl⟩
 have HV : Hid (bO m = (dm m.ah 1 100000 && dm m.ce 0 (m.ah - 1) && decide (n <= 20) && dA m.ah [] l)) := by show _ = _; rw [hx, hl]; rfl
 have hn : n <= 1048576 := by have h : m.aD.length + aP kw m.aD <= 1048576 := hw; rw [hx, hl]; omega
 rw [<- hl] at HL ⊢; rw [<- hx]; have HX := Hm hx.symm; generalize m.ah = nx at *; generalize m.ce = lg at *; clear hL hw hl hx EB A0; go_enter Tryz.func9, Tryz.ntmps9; obtain ⟨wq, bI⟩ : ∃ wq, wq = w.alloc (.cells #[.int .i64 nx, .int .i64 lg, .slice a0 n c0] 30) := ⟨_, rfl⟩
 have kH : Below w.heap.size w wq := by rw [bI]; exact rB.alloc rN _
 have cg : Bx wq w.heap.size [.int .i64 nx, .int .i64 lg, .slice a0 n c0] := by rw [bI]; exact Bx.new _ _ _
 have y0 := cg.2 0 _ rfl; have y1 := cg.2 1 _ rfl; have y2 := cg.2 2 _ rfl; have hz := cg.1; go_wp2_with (rw [<- bI]); refine (bY nx 1 100000 _).mono ?_; rintro e w1 ⟨rfl, di⟩; have hw2 := di.symm; clear di; subst hw2; clear bI
 by_cases h1 : dm nx 1 100000 = true
 rotate_left
 ·have Zc := Bool.eq_false_iff.2 h1
  have HD : Hid (bO m = false) := by show _ = _; rw [HV.out, Zc]; rfl
  rw [Zc]; go_wp2_with fail; go_ret; exact ⟨by rw [HD.out]; rfl, kH⟩
 have zf : 1 <= nx := (of_decide_eq_true h1).1; have Xh : nx <= 100000 := (of_decide_eq_true h1).2; rw [h1] at HV ⊢; go_wp2_with fail; refine (bY lg 0 (nx - 1) _).mono ?_; rintro e w1 ⟨rfl, di⟩; have hw2 := di.symm; clear di; subst hw2
 by_cases h2 : dm lg 0 (nx - 1) = true
 rotate_left
 ·have Zd := Bool.eq_false_iff.2 h2
  have HD : Hid (bO m = false) := by show _ = _; rw [HV.out, Zd]; simp
  rw [Zd]; go_wp2_with fail; go_ret; exact ⟨by rw [HD.out]; rfl, kH⟩
 rw [h2] at HV ⊢
 by_cases h5 : n <= 20
 rotate_left
 ·have HD : Hid (bO m = false) := by show _ = _; rw [HV.out, decide_eq_false h5]; simp
  have h6 : (20 : Int) < (n : Int) := by omega
  go_wp2_with fail; go_ret; exact ⟨by rw [HD.out]; rfl, kH⟩
 have h6 : ¬ (20 : Int) < (n : Int) := by omega
 have uH : Hid (bO m = dA nx [] l) := by show _ = _; rw [HV.out, decide_eq_true h5]; rfl
 clear HV h1 h2; go_wp2_with fail; clear y0 y1 y2
 go_loopw [3] (fun i wr => ∃ k : Nat, k <= n /\ i = .int .i64 k /\ Hid (dA nx [] l = dA nx (l.take k) (l.drop k)) /\ Below wq.heap.size wq wr) (fun i _ => n - (intOf i).toNat)
 case atStart => exact ⟨0, Nat.zero_le _, rfl, rfl, rB⟩
 case round =>
  obtain ⟨k, hk, rfl, HI, bF⟩ := hrel; have tA := af kH bF; have eI := tA.size; have tM := cg.under bF; have y2 := tM.2 2 _ rfl; have oA := tM.1
  by_cases hlt : k < n
  ·have gH : k < l.length := by rw [HX.out]; exact hlt
   obtain ⟨b1, o1, rfl, hB, cs, iw, hcell, rfl, g0, g1, g2, g3, _⟩ := (HL.out.2.2.below fe tA) k gH; have Qx : b1 < wr.heap.size := by omega
   have k0 := hcell 0 _ rfl; have k1 := hcell 1 _ rfl; have k2 := hcell 2 _ rfl; have k3 := hcell 3 _ rfl; rw [Nat.add_zero] at k0; have HG : Hid (kx nx l k l[k] = true -> dA nx [] l = dA nx (l.take (k + 1)) (l.drop (k + 1))) := fun h => by rw [HI.out]; exact zN gH h
   have xS : Hid (kx nx l k l[k] = false -> bO m = false) := fun h => by rw [uH.out, HI.out]; exact Cr gH h
   clear hcell iw HI; obtain ⟨x, Kp⟩ : ∃ x, x = l[k] := ⟨_, rfl⟩
   rw [<- Kp] at k0 k1 k2 k3 g0 g1 g2 g3 HG xS; clear Kp; obtain ⟨wp, mG⟩ : ∃ wp, wp = wr.alloc (.cells #[.int .i64 x.fD, .int .i64 x.aN, .string x.eo, .string x.em] 50) := ⟨_, rfl⟩
   have ll : Below wr.heap.size wr wp := by rw [mG]; exact rB.alloc rN _
   have ot : Bx wp wr.heap.size [.int .i64 x.fD, .int .i64 x.aN, .string x.eo, .string x.em] := by rw [mG]; exact Bx.new _ _ _
   have oY := af bF ll; have p0 : ∀ W, Below wp.heap.size wp W -> W.cell? ⟨wr.heap.size, 0, none⟩ = some (.int .i64 x.fD) := fun W hb => (ot.under hb).2 0 _ rfl
   have p1 : ∀ W, Below wp.heap.size wp W -> W.cell? ⟨wr.heap.size, 1, none⟩ = some (.int .i64 x.aN) := fun W hb => (ot.under hb).2 1 _ rfl
   have p2 : ∀ W, Below wp.heap.size wp W -> W.cell? ⟨wr.heap.size, 2, none⟩ = some (.string x.eo) := fun W hb => (ot.under hb).2 2 _ rfl
   have p3 : ∀ W, Below wp.heap.size wp W -> W.cell? ⟨wr.heap.size, 3, none⟩ = some (.string x.em) := fun W hb => (ot.under hb).2 3 _ rfl
   have q0 : ∀ W, Below wp.heap.size wp W -> W.cell? ⟨w.heap.size, 0, none⟩ = some (.int .i64 nx) := fun W hb => ((tM.under ll).under hb).2 0 _ rfl
   have q1 : ∀ W, Below wp.heap.size wp W -> W.cell? ⟨w.heap.size, 1, none⟩ = some (.int .i64 lg) := fun W hb => ((tM.under ll).under hb).2 1 _ rfl
   have q2 : ∀ W, Below wp.heap.size wp W -> W.cell? ⟨w.heap.size, 2, none⟩ = some (.slice (some ⟨b1, o1, none⟩) n c0) := fun W hb => ((tM.under ll).under hb).2 2 _ rfl
   have Kq := fun W => EA nx lg (some ⟨b1, o1, none⟩) n c0 x W zf Xh g2 g3
   by_cases hM : iH nx x = true
   rotate_left
   ·have Ze := Bool.eq_false_iff.2 hM
    have HD : Hid (bO m = false) := xS.out (Ev Ze); simp only [Ze] at Kq; go_wp2_with fail; rw [<- mG]; clear mG; refine kz wp (fun hZ => ?_); refine uq 0 ?_; refine uq 1 ?_; refine bf 2 rfl fun K hK => ?_
    go_simp; refine Calls.mono (Kq _) ?_; rintro e w1 ⟨rfl, hx1⟩; go_wp2_with fail; refine aL hK (af hZ hx1) (fun hZ => ?_); clear hK K; refine uq 3 ?_; refine uq 4 ?_; refine um 5 ?_; refine um 6 ?_; refine um 7 ?_; refine um 8 ?_; refine um 9 ?_; refine um 10 ?_; refine um 11 ?_; refine um 12 ?_; refine um 13 ?_; refine um 14 ?_; refine um 15 ?_; refine um 16 ?_; refine um 17 ?_; refine um 18 ?_; refine uq 19 ?_; refine dC ?_; go_wp2_with fail; go_ret; exact ⟨by rw [HD.out]; rfl, af kH (af oY hZ)⟩
   have HM := Hm hM; simp only [hM] at Kq; clear hM
   by_cases LQ : k = 0
   ·subst LQ
    have gZ : Hid (je (l.take 0) < x.fD) := by have h := HQ HM.out; show (0 : Int) < _; omega
    simp only [Nat.zero_mul, Nat.add_zero] at k0 k1 k2 k3; go_wp2_with fail; rw [<- mG]; clear mG; refine kz wp (fun hZ => ?_); refine uq 0 ?_; refine uq 1 ?_; refine bf 2 rfl fun K hK => ?_
    go_simp; refine Calls.mono (Kq _) ?_; rintro e w1 ⟨rfl, hx1⟩; go_wp2_with fail; refine aL hK (af hZ hx1) (fun hZ => ?_); clear hK K; refine uq 3 ?_; refine uq 4 ?_; refine uq 5 ?_; refine uq 6 ?_; refine uq 7 ?_; refine um 8 ?_; refine um 9 ?_; refine um 10 ?_; refine um 11 ?_; refine um 12 ?_; refine um 13 ?_; refine um 14 ?_; refine um 15 ?_; refine um 16 ?_; refine um 17 ?_; refine uq 18 ?_; refine uq 19 ?_; refine dC ?_; generalize wr = wo at *; go_wp2_with fail
    go_loopw [5] (fun i wr => ∃ j : Nat, j <= 0 /\ i = .int .i64 j /\ Hid (∀ i, (hi : i < l.length) -> i < j -> lJ x l[i] = false) /\ Below wp.heap.size wp wr) (fun i _ => 0 - (intOf i).toNat)
    case atStart => exact ⟨0, Nat.zero_le _, rfl, fun i _ h => by omega, hZ⟩
    case round =>
     obtain ⟨j, hj, rfl, HJ, A4⟩ := hrel; have Xi : j = 0 := by omega
     subst Xi; have Xj := Hm (HG.out (xQ HM.out gZ.out (fun i hi hlt => HJ.out i hi (by omega)))); go_wp2_with fail
     go_roundw
     case rel => exact ⟨0 + 1, by omega, by go_num, Xj, af oY A4⟩
     case measure => simp [intOf]; omega
   ·obtain ⟨jj, rfl⟩ : ∃ j, k = j + 1 := ⟨k - 1, by omega⟩
    have ur : jj < l.length := by omega
    obtain ⟨Ys, o1', IV, _, cs', G3, xr, rfl, g0', g1', _, _⟩ := (HL.out.2.2.below fe tA) jj ur; simp only [Option.some.injEq, Addr.mk.injEq, and_true] at IV; obtain ⟨rfl, rfl⟩ := IV; have j0 := xr 0 _ rfl; rw [Nat.add_zero] at j0; have qj : ∀ W, Below wp.heap.size wp W -> W.cell? ⟨b1, o1 + jj * 4, none⟩ = some (.int .i64 l[jj].fD) := fun W hb => ((af ll hb).cell (p := ⟨b1, o1 + jj * 4, none⟩) Qx).trans j0
    have NI : Hid (je (l.take (jj + 1)) = l[jj].fD) := vw ur; have hwr : IntKind.i64.wrap (jj : Int) = (jj : Int) := by rw [IntKind.wrap_i64]; omega
    have Vo : (0 : Int) <= (jj : Int) := by omega
    have vd : (jj : Int) < (n : Int) := by omega
    clear xr G3 j0 g0' g1'; generalize l[jj].fD = pn at *
    by_cases hP : pn < x.fD
    ·have gZ : Hid (je (l.take (jj + 1)) < x.fD) := by show _ < _; rw [NI.out]; exact hP
     have hP2 : decide (x.fD <= pn) = false := decide_eq_false (by omega); go_wp2_with fail; rw [<- mG]; clear mG; refine kz wp (fun hZ => ?_); refine uq 0 ?_; refine uq 1 ?_; refine bf 2 rfl fun K hK => ?_
     go_simp; refine Calls.mono (Kq _) ?_; rintro e w1 ⟨rfl, hx1⟩; go_wp2_with fail; refine aL hK (af hZ hx1) (fun hZ => ?_); clear hK K; refine uq 3 ?_; refine uq 4 ?_; refine uq 5 ?_; refine uq 6 ?_; refine uq 7 ?_; refine uq 8 ?_; refine uq 9 ?_; refine uq 10 ?_; refine uq 11 ?_; refine uq 12 ?_; refine uq 13 ?_; refine uq 14 ?_; refine uq 15 ?_; refine uq 16 ?_; refine uq 17 ?_; refine uq 18 ?_; refine uq 19 ?_; refine dC ?_; generalize wr = wo at *; go_wp2_with fail
     go_loopw [5] (fun i wr => ∃ j : Nat, j <= (jj + 1) /\ i = .int .i64 j /\ Hid (∀ i, (hi : i < l.length) -> i < j -> lJ x l[i] = false) /\ Below wp.heap.size wp wr) (fun i _ => (jj + 1) - (intOf i).toNat)
     case atStart => exact ⟨0, Nat.zero_le _, rfl, fun i _ h => by omega, hZ⟩
     case round =>
      obtain ⟨j, hj, rfl, HJ, A4⟩ := hrel
      by_cases GF : j < (jj + 1)
      ·have S0 : j < l.length := by omega
       obtain ⟨b2, o2, DW, _, FH, Ma, mA, rfl, e0, e1, e2, e3, _⟩ := (HL.out.2.2.below fe (af (af tA ll) A4)) j S0; simp only [Option.some.injEq, Addr.mk.injEq, and_true] at DW; obtain ⟨rfl, rfl⟩ := DW; have nR := mA 0 _ rfl; have c1 := mA 1 _ rfl; have c2 := mA 2 _ rfl; have c3 := mA 3 _ rfl; rw [Nat.add_zero] at nR
       have Lg : Hid (lJ x l[j] = false -> ∀ i, (hi : i < l.length) -> i < j + 1 -> lJ x l[i] = false) := fun h i hi hlt => by
        by_cases he : i = j
        ·subst he; exact h
        ·exact HJ.out i hi (by omega)
       have HB0 : Hid (lJ x l[j] = true -> bO m = false) := fun h => xS.out (Ex (by omega) S0 h)
       have UK : Hid (lJ x l[j] = (decide (0 < x.aN) && decide (l[j].aN = x.aN) && ko l[j].eo x.em && ko x.eo l[j].em)) := rfl; clear mA Ma p0 q0 q1 qj Kq; replace p1 := p1 _ A4; replace p2 := p2 _ A4; replace p3 := p3 _ A4; replace q2 := q2 _ A4; have Uj : w.heap.size < wr.heap.size := Nat.lt_of_lt_of_le oA (Nat.le_trans ll.size A4.size); have hv2 : wo.heap.size < wr.heap.size := Nat.lt_of_lt_of_le ot.1 A4.size; have hv3 : b1 < wr.heap.size := by omega
       generalize lJ x l[j] = mt at *; generalize l[j] = u at *
       by_cases Zf : 0 < x.aN
       rotate_left
       ·have HN := Hm (Lg.out (by rw [UK.out, decide_eq_false Zf]; rfl))
        go_wp2_with fail
        go_roundw
        case rel => exact ⟨j + 1, by omega, by go_num, HN, af A4 (rB.alloc rN _)⟩
        case measure => simp [intOf]; omega
       by_cases UL : u.aN = x.aN
       rotate_left
       ·have HN := Hm (Lg.out (by rw [UK.out, decide_eq_false UL]; simp))
        go_wp2_with fail
        go_roundw
        case rel => exact ⟨j + 1, by omega, by go_num, HN, af A4 (rB.alloc rN _)⟩
        case measure => simp [intOf]; omega
       have PI : Hid (mt = (ko u.eo x.em && ko x.eo u.em)) := by show _ = _; rw [UK.out, decide_eq_true Zf, decide_eq_true UL]; rfl
       clear UK; rw [UL] at c1; clear UL
       by_cases PJ : ko u.eo x.em = true
       rotate_left
       ·have PK := Bool.eq_false_iff.2 PJ
        have HN := Hm (Lg.out (by rw [PI.out, PK]; rfl)); obtain ⟨km, Cu⟩ := uG PK; clear PJ PK; go_wp2_with fail
        go_roundw
        case rel => exact ⟨j + 1, by omega, by go_num, HN, af A4 (rB.alloc rN _)⟩
        case measure => simp [intOf]; omega
       by_cases hK2 : ko x.eo u.em = true
       rotate_left
       ·have PL := Bool.eq_false_iff.2 hK2
        have HN := Hm (Lg.out (by rw [PI.out, PL]; simp)); obtain ⟨km, Cu⟩ := uG PL; have hr := oX PJ; clear PJ hK2 PL; rcases hr with hr | hr
        ·go_wp2_with fail
         go_roundw
         case rel => exact ⟨j + 1, by omega, by go_num, HN, af A4 (rB.alloc rN _)⟩
         case measure => simp [intOf]; omega
        ·go_wp2_with fail
         go_roundw
         case rel => exact ⟨j + 1, by omega, by go_num, HN, af A4 (rB.alloc rN _)⟩
         case measure => simp [intOf]; omega
       have HD : Hid (bO m = false) := HB0.out (by rw [PI.out, PJ, hK2]; rfl); have hr := oX PJ; have hs := oX hK2; clear PJ hK2; rcases hr with hr | hr
       ·rcases hs with hs | hs
        ·go_wp2_with fail
         go_ret; exact ⟨by rw [HD.out]; rfl, af kH (af oY (af A4 (rB.alloc rN _)))⟩
        ·go_wp2_with fail
         go_ret; exact ⟨by rw [HD.out]; rfl, af kH (af oY (af A4 (rB.alloc rN _)))⟩
       ·rcases hs with hs | hs
        ·go_wp2_with fail
         go_ret; exact ⟨by rw [HD.out]; rfl, af kH (af oY (af A4 (rB.alloc rN _)))⟩
        ·go_wp2_with fail
         go_ret; exact ⟨by rw [HD.out]; rfl, af kH (af oY (af A4 (rB.alloc rN _)))⟩
      ·have Oe : j = (jj + 1) := by omega
       subst Oe; have Xj := Hm (HG.out (xQ HM.out gZ.out (fun i hi hlt => HJ.out i hi (by omega)))); go_wp2_with fail
       go_roundw
       case rel => exact ⟨(jj + 1) + 1, by omega, by go_num, Xj, af oY A4⟩
       case measure => simp [intOf]; omega
    ·have HD : Hid (bO m = false) := xS.out (Ew (by rw [NI.out]; omega))
     have hP2 : x.fD <= pn := by omega
     go_wp2_with fail; rw [<- mG]; clear mG; refine kz wp (fun hZ => ?_); refine uq 0 ?_; refine uq 1 ?_; refine bf 2 rfl fun K hK => ?_
     go_simp; refine Calls.mono (Kq _) ?_; rintro e w1 ⟨rfl, hx1⟩; go_wp2_with fail; refine aL hK (af hZ hx1) (fun hZ => ?_); clear hK K; refine uq 3 ?_; refine uq 4 ?_; refine uq 5 ?_; refine uq 6 ?_; refine uq 7 ?_; refine uq 8 ?_; refine uq 9 ?_; refine uq 10 ?_; refine uq 11 ?_; refine uq 12 ?_; refine uq 13 ?_; refine uq 14 ?_; refine uq 15 ?_; refine uq 16 ?_; refine uq 17 ?_; refine uq 18 ?_; refine uq 19 ?_; refine dC ?_; go_wp2_with fail; go_ret; exact ⟨by rw [HD.out]; rfl, af kH (af oY hZ)⟩
  ·have HD : Hid (bO m = true) := by show _ = _; rw [uH.out, HI.out]; exact Cq (by rw [HX.out]; omega)
   go_wp2_with fail; go_ret; exact ⟨by rw [HD.out]; rfl, tA⟩
end Go.Proofs.YtcamcgfbljhbhaaGreatDoor

namespace Go.Proofs.YtcamcgfbljhbhaaGreatDoor
open Go.RowKit
theorem Src.any {α : Type} {size : Nat} {R : nS α} (h1c : ∀ B w cs m, R B w cs m -> ∀ u, u ∈ cs -> u.oneCell' = true) {P : Program} {w : World} {B : Nat} {a : Option Addr} {l : List α} {tx e' : TypeId} {n c : Nat} (hk : P.underlying tx = some (.slice e')) (hn : l.length = n) (hr : Bk size R B w a l) :
  ∃ css : List (List Value), css.length = l.length /\ (∀ c, c ∈ css -> c.length = size) /\ (∀ j, (h1 : j < l.length) -> (h2 : j < css.length) -> R B w css[j] l[j]) /\ Src P size tx (.slice a n c) n css.flatten w := by
 cases a with
 | none =>
  have hz : l = [] := by
   cases l with
   | nil => rfl
   | cons z r =>
    obtain ⟨_, _, h, _⟩ := hr 0 (by simp); cases h
  subst hz; simp only [List.length_nil] at hn; subst hn; exact ⟨[], rfl, (fun _ h => by cases h), (fun _ h => by simp at h), Src.ofNil w hk c⟩
 | some ad =>
  by_cases h0 : n = 0
  ·subst h0
   have hz : l = [] := List.eq_nil_of_length_eq_zero hn; subst hz; exact ⟨[], rfl, (fun _ h => by cases h), (fun _ h => by simp at h), Src.ofSlice w hk ad 0 c [] (by simp) (fun j u hu => by simp at hu) (fun u hu => by cases hu)⟩
  ·obtain ⟨b, off, e, _⟩ := hr 0 (by omega)
   simp only [Option.some.injEq] at e; subst e; obtain ⟨css, c1, c2, c3, c4⟩ := hr.cells l.length rN; have wN := jm c2; refine ⟨css, c1, c2, c3, Src.ofSlice w hk ⟨b, off, none⟩ n c css.flatten (by rw [wN, c1, hn]) (fun j u hu => by rw [Addr.add_lit]; exact c4 j u hu) ?_⟩; intro v hv; obtain ⟨cs, hcs, LK⟩ := List.mem_flatten.1 hv; obtain ⟨j, hj, rfl⟩ := List.mem_iff_getElem.1 hcs; exact h1c _ _ _ _ (c3 j (by omega) hj) v LK
end Go.Proofs.YtcamcgfbljhbhaaGreatDoor

namespace Go.Proofs.YtcamcgfbljhbhaaGreatDoor
open Go.RowKit Go.Maps
theorem Tryz.xT : (Tryz.prog.info? 50).map (fun i => (i.zero, i.size, i.bytes)) = some (some (.agg #[.int .i64 0, .int .i64 0, .string ⟨#[]⟩, .string ⟨#[]⟩]), 4, 48) := by kernel_rfl
def Kr : List ByteArray := [⟨#[97]⟩, ⟨#[97, 98]⟩, ⟨#[97, 98, 99]⟩, ⟨#[98]⟩, ⟨#[98, 97]⟩, ⟨#[99]⟩, ⟨#[100]⟩, ⟨#[107, 101, 121, 49]⟩, ⟨#[107, 101, 121, 49, 48]⟩, ⟨#[107, 101, 121, 50]⟩, ⟨#[122]⟩]
theorem Cv : ∀ s, s ∈ Kr -> s.size <= 20 := by decide
theorem gz {g : Nat} {w : World} (hc : b5 w g) :
  Calls Tryz.prog 44 #[.pointer (some ⟨g, 0, none⟩)] w fun e w' => ∃ s : ByteArray, (e = .returned (.string s) /\ s.size <= 20) /\ b5 w' g /\ w.grownBy w' (some g) := by
 have iV := hc.lt; go_enter Tryz.func44, Tryz.ntmps44; go_wp2_with fail; refine (wP w.heap.size 11 Kr (hc.below (rB.alloc rN _)) (Bx.new w (Kr.map Value.string) 9) (by omega) rfl (by omega) (by omega)).mono ?_; rintro e w1 ⟨s, ⟨hs, rfl⟩, hc1, hg1⟩; have hss := Cv s hs; go_wp2_with fail; go_ret; exact ⟨s, ⟨rfl, hss⟩, hc1, ed (World.grownBy_alloc w _ _) hg1⟩
def PN (x : aT) : List Value := [.int .i64 x.fD, .int .i64 x.aN, .string x.eo, .string x.em]
def jq (l : List aT) : List Value := l.flatMap PN
def QZ (x : aT) : Prop := (Lit.int .i64 x.fD).wf = true /\ (Lit.int .i64 x.aN).wf = true /\ x.eo.size <= 20 /\ x.em.size <= 20
theorem zQ (l : List aT) : (jq l).length = l.length * 4 := by
 induction l with
 | nil => rfl
 | cons x r ih => unfold jq at ih ⊢; rw [List.flatMap_cons, List.length_append, ih]; simp [PN]; omega
theorem H0 (a b : List aT) : jq (a ++ b) = jq a ++ jq b := by unfold jq; rw [List.flatMap_append]
theorem Mz {x : aT} : ∀ u ∈ PN x, u.oneCell' = true := by
 intro u hu; simp only [PN, List.mem_cons, List.not_mem_nil, or_false] at hu; rcases hu with rfl | rfl | rfl | rfl <;> rfl
theorem H3 {l : List aT} : ∀ u ∈ jq l, u.oneCell' = true := by
 intro u hu; obtain ⟨x, _, hx⟩ := List.mem_flatMap.1 hu; exact Mz u hx
def eu (W : World) (base : Nat) (v : Value) (l : List aT) : Prop := W.ownsRow base 50 4 v l.length (jq l) /\ ∀ x, x ∈ l -> QZ x
theorem eu.leaf {W : World} {base : Nat} {v : Value} {l : List aT} (h : eu W base v l) : ∃ a c, v = .slice a l.length c /\ bw 4 xP W.heap.size W a c l := by
 have hR : bS 4 50 xP W.heap.size W base v l := by
  refine ⟨l.map PN, by simp, fun x hx => by obtain ⟨y, _, rfl⟩ := List.mem_map.1 hx; rfl, fun j h1 h2 => ?_, ?_⟩
  ·rw [List.getElem_map]
   have hx := h.2 l[j] (List.getElem_mem h1); exact ⟨rfl, hx.1, hx.2.1, Nat.le_trans hx.2.2.1 (by omega), Nat.le_trans hx.2.2.2 (by omega), trivial⟩
  ·have e : (l.map PN).flatten = jq l := by unfold jq; rw [List.flatMap_def]
   rw [e]; exact h.1
 exact hR.leaf fe rN
theorem eu.turn {W W' : World} {F : List Nat} {base : Nat} {v : Value} {l : List aT} (h : eu W base v l) (hT : aw F W W') (hF : ∀ k, v.ownBlock = some k -> k ∉ F) : eu W' base v l :=
 ⟨fQ h.1 (fun k hk => hT.block k (h.1.lt k hk).2 (hF k hk)), h.2⟩
theorem Ks (W : World) (base : Nat) : eu W base (.slice none 0 0) [] := ⟨⟨rfl, .inl ⟨rfl, rfl⟩⟩, fun x hx => absurd hx (by simp)⟩
theorem QZ.weight {x : aT} (h : QZ x) : kw x <= 40 := by
 have := h.2.2
 show x.eo.size + x.em.size <= _; omega
theorem vx {l : List aT} (h : ∀ x, x ∈ l -> QZ x) : aP kw l <= 40 * l.length := by
 induction l with
 | nil => simp [aP]
 | cons x r ih =>
  have h1 := (h x (by simp)).weight; have h2 := ih (fun y hy => h y (by simp [hy])); simp only [aP, List.length_cons]; omega
theorem eu.src {W : World} {base : Nat} {v : Value} {l : List aT} {lY : List Value} (h : eu W base v l) (hc : lY = jq l) : Src Tryz.prog 4 28 v l.length lY W := by
 subst hc; rcases h.1.2 with ⟨rfl, h0⟩ | ⟨g, cap, cur, rfl, hb, hg, hn, hm, hs, hx⟩
 ·have hl : l = [] := List.eq_nil_of_length_eq_zero h0
  subst hl; exact Src.ofNil W Tryz.underlying28 0
 ·refine Src.ofSlice W Tryz.underlying28 ⟨g, 0, none⟩ l.length cap (jq l) (zQ l) (fun j u hu => ?_) H3
  have hj : j < l.length * 4 := by
   rw [<- zQ l]; exact (List.getElem?_eq_some_iff.1 hu).1
  rw [Addr.add_lit, Nat.zero_add, cell_of_row W g j cur 50 (0, 0) hg]; rw [<- hx, List.getElem?_take, if_pos hj] at hu
  simpa using hu
theorem eu.snoc {W : World} {z bs : Nat} {v' : Value} {l : List aT} {t : aT} {lY : List Value} (ho : W.ownsRow z 50 4 v' (l.length + 1) (lY ++ PN t)) (hz : bs <= z) (hc : lY = jq l) (hl : ∀ x, x ∈ l -> QZ x) (ht : QZ t) : eu W bs v' (l ++ [t]) := by
 refine ⟨cM (ep ho hz) (by simp) (by rw [hc, H0]; simp [jq]), fun x hx => ?_⟩; rcases List.mem_append.1 hx with hx | hx
 ·exact hl x hx
 ·rw [List.mem_singleton.1 hx]; exact ht
theorem ea {W : World} {b base size n : Nat} {t e : TypeId} {vs xs : List Value} {v : Value} (hb : Bw W b t vs) (hr : W.ownsRow base e size v n xs) (hne : t ≠ e) : v.ownBlock ≠ some b := by
 intro hk; rcases hr.2 with ⟨rfl, _⟩ | ⟨g, cap, cur, rfl, _, hg, _⟩
 ·simp [Value.ownBlock] at hk
 ·simp only [Value.ownBlock, Option.some.injEq] at hk
  subst hk; have h2 : some (Obj.cells vs.toArray t (0, 0)) = some (Obj.cells cur e (0, 0)) := hb.symm.trans hg; simp only [Option.some.injEq, Obj.cells.injEq] at h2; exact hne h2.2.1
structure eJ (w : World) (g br bm : Nat) (W : World) (nx lg : Int) (v : Value) (l : List aT) : Prop where
 c : b5 W g
 t : aw [g] w W
 r : Bw W br 30 [.int .i64 0, .int .i64 0, .slice none 0 0]
 m : Bw W bm 30 [.int .i64 nx, .int .i64 lg, v]
 o : eu W w.heap.size v l
structure Kt (w : World) (g br bm : Nat) : Prop where
 g : g < w.heap.size
 r : w.heap.size <= br
 m : w.heap.size <= bm
 n : br ≠ bm
section
variable {w : World} {g br bm : Nat} {W W' : World} {nx lg : Int} {v : Value} {l : List aT}
theorem eJ.cur (hp : Kt w g br bm) (h : eJ w g br bm W nx lg v l) (hg : W.grownBy W' (some g)) (hc : b5 W' g) : eJ w g br bm W' nx lg v l := by
 have hT : aw [g] W W' := aw.eZ hg (fun k hk => by simp at hk; simp [hk]); have h1 := hp.g; have h2 := hp.r; have h3 := hp.m; refine ⟨hc, h.t.trans hT, h.r.turn hT (by simp; omega), h.m.turn hT (by simp; omega), h.o.turn hT (fun k hk => ?_)⟩; have := (h.o.1.lt k hk).1; simp; omega
theorem eJ.below (h : eJ w g br bm W nx lg v l) (hx : Below W.heap.size W W') : eJ w g br bm W' nx lg v l :=
 ⟨h.c.below hx, h.t.trans (aw.bz hx), h.r.under hx, h.m.under hx, ⟨aA h.o.1 hx, h.o.2⟩⟩
theorem eJ.row {z : Nat} {r : Option Nat} (hp : Kt w g br bm) (h : eJ w g br bm W nx lg v l) (hg : W.grownBy W' r) (hr : ∀ k, r = some k -> z <= k) (hz1 : br < z) (hz2 : bm < z) (hv : ∀ k, v.ownBlock = some k -> k < z) : eJ w g br bm W' nx lg v l := by
 have hT : aw r.toList W W' := dE hg; have h1 := hp.g; have h2 := hp.r; have h3 := hp.m; have hk : ∀ k, k ∈ r.toList -> z <= k := fun k hk => hr k (by simpa using hk)
 refine ⟨h.c.grown hg (fun k e => by have := hr k e; omega), h.t.join hT (fun k hm => .inr (by have := hk k hm; omega)), h.r.turn hT (fun hm => by have := hk _ hm; omega), h.m.turn hT (fun hm => by have := hk _ hm; omega), h.o.turn hT (fun k e hm => ?_)⟩; have := hk k hm; have := hv k e; omega
theorem eJ.put {x0 x1 : Int} {v' : Value} {l' : List aT} (hp : Kt w g br bm) (h : eJ w g br bm W nx lg v l) (ho : eu W w.heap.size v' l') : eJ w g br bm (((W.setCell ⟨bm, 0, none⟩ (.int .i64 x0)).setCell ⟨bm, 1, none⟩ (.int .i64 x1)).setCell ⟨bm, 2, none⟩ v') x0 x1 v' l' := by
 have hT : aw [bm] W (((W.setCell ⟨bm, 0, none⟩ (.int .i64 x0)).setCell ⟨bm, 1, none⟩ (.int .i64 x1)).setCell ⟨bm, 2, none⟩ v') := (((aw.refl _ _).setCell (by simp) _).setCell (by simp) _).setCell (by simp) _; have h1 := hp.g; have h2 := hp.r; have h3 := hp.m; have h4 := hp.n; refine ⟨h.c.turn hT (by omega), h.t.join hT (fun k hk => by simp at hk; right; omega), h.r.turn hT (by simp; omega), ((h.m.put 0 _).put 1 _).put 2 _, ho.turn hT (fun k hk hm => ?_)⟩; simp at hm; subst hm; exact ea h.m ho.1 (by decide) hk
theorem eJ.leave (hp : Kt w g br bm) (h : eJ w g br bm W nx lg v l) (x0 x1 x2 : Value) : eu (((W.setCell ⟨br, 0, none⟩ x0).setCell ⟨br, 1, none⟩ x1).setCell ⟨br, 2, none⟩ x2) w.heap.size v l /\ b5 (((W.setCell ⟨br, 0, none⟩ x0).setCell ⟨br, 1, none⟩ x1).setCell ⟨br, 2, none⟩ x2) g /\ aw [g] w (((W.setCell ⟨br, 0, none⟩ x0).setCell ⟨br, 1, none⟩ x1).setCell ⟨br, 2, none⟩ x2) := by
 have hT : aw [br] W (((W.setCell ⟨br, 0, none⟩ x0).setCell ⟨br, 1, none⟩ x1).setCell ⟨br, 2, none⟩ x2) := (((aw.refl _ _).setCell (by simp) _).setCell (by simp) _).setCell (by simp) _; have h1 := hp.g; have h2 := hp.r; refine ⟨h.o.turn hT (fun k hk hm => ?_), h.c.turn hT (by omega), h.t.join hT (fun k hk => by simp at hk; right; omega)⟩; simp at hm; subst hm; exact ea h.r h.o.1 (by decide) hk
structure Bv (w : World) (g br bm : Nat) (W : World) (nx lg : Int) (v : Value) (l : List aT) (gx : Nat) (I4 I5 : Int) (v' : Value) (l' : List aT) : Prop where
 s : eJ w g br bm W nx lg v l
 x : Bw W gx 30 [.int .i64 I4, .int .i64 I5, v']
 o : eu W w.heap.size v' l'
theorem Bv.made {z gx : Nat} {I4 I5 : Int} {v' : Value} {l' : List aT} (hp : Kt w g br bm) (h : eJ w g br bm W nx lg v l) (hx : Bw W gx 30 [.int .i64 0, .int .i64 0, .slice none 0 0]) (ho : eu W w.heap.size v' l') (hz1 : br < z) (hz2 : bm < z) (hz : z <= gx) :
  Bv w g br bm (((W.setCell ⟨gx, 0, none⟩ (.int .i64 I4)).setCell ⟨gx, 1, none⟩ (.int .i64 I5)).setCell ⟨gx, 2, none⟩ v') nx lg v l gx I4 I5 v' l' := by
 have hT : aw [gx] W (((W.setCell ⟨gx, 0, none⟩ (.int .i64 I4)).setCell ⟨gx, 1, none⟩ (.int .i64 I5)).setCell ⟨gx, 2, none⟩ v') := (((aw.refl _ _).setCell (by simp) _).setCell (by simp) _).setCell (by simp) _; have h1 := hp.g; have h2 := hp.r; have h3 := hp.m
 have key : ∀ {u : Value} {k : List aT}, eu W w.heap.size u k -> ∀ q, u.ownBlock = some q -> q ∉ [gx] := fun {u k} hu q hq hm => by
  simp at hm; subst hm; exact ea hx hu.1 (by decide) hq
 exact ⟨⟨h.c.turn hT (by omega), h.t.join hT (fun k hk => by simp at hk; right; omega), h.r.turn hT (by simp; omega), h.m.turn hT (by simp; omega), h.o.turn hT (key h.o)⟩, ((hx.put 0 _).put 1 _).put 2 _, ho.turn hT (key ho)⟩
theorem Bv.below {gx : Nat} {I4 I5 : Int} {v' : Value} {l' : List aT} (h : Bv w g br bm W nx lg v l gx I4 I5 v' l') (hx : Below W.heap.size W W') : Bv w g br bm W' nx lg v l gx I4 I5 v' l' := ⟨h.s.below hx, h.x.under hx, ⟨aA h.o.1 hx, h.o.2⟩⟩
end
def vQ (w : World) (g most : Nat) (e : Ending) (w' : World) : Prop :=
 ∃ (nx lg : Int) (v : Value) (l : List aT), e = .returned (.agg #[.int .i64 nx, .int .i64 lg, v]) /\ ((Lit.int .i64 nx).wf = true /\ (Lit.int .i64 lg).wf = true) /\ eu w' w.heap.size v l /\ l.length <= most /\ b5 w' g /\ aw [g] w w'
theorem NY (w : World) (base : Nat) (h : base <= w.heap.size) : (w.alloc (.cells #[] 50)).ownsRow base 50 4 (.slice (some ⟨w.heap.size, 0, none⟩) 0 0) 0 [] :=
 ⟨by simp, .inr ⟨w.heap.size, 0, #[], rfl, h, (show (w.heap.push _)[w.heap.size]? = _ from Array.getElem?_push_size), by omega, by simp [maxLen], by simp, by simp⟩⟩
end Go.Proofs.YtcamcgfbljhbhaaGreatDoor
