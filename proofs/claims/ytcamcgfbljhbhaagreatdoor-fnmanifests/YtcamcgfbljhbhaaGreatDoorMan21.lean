/-
  Part 22 of the texts that the proof leans on.
-/
import Derived.Test.YtcamcgfbljhbhaaGreatDoorMan16
import Derived.Test.YtcamcgfbljhbhaaGreatDoorMan1
import Derived.Test.YtcamcgfbljhbhaaGreatDoorRows
import Derived.Test.YtcamcgfbljhbhaaGreatDoorMan0
import Derived.Test.YtcamcgfbljhbhaaGreatDoorMan2
import Derived.Test.YtcamcgfbljhbhaaGreatDoorChecked
import Derived.Test.YtcamcgfbljhbhaaGreatDoorMan20
import Derived.Lib.LaidTab
import Derived.Lib.AppendIntMem
import Derived.WalkSmall
set_option linter.unusedVariables false
set_option linter.unusedSimpArgs false
set_option maxRecDepth 10000
set_option maxHeartbeats 20000000

namespace Go.Proofs.YtcamcgfbljhbhaaGreatDoor
open Go.RowKit Go.Maps
theorem CO (t : aT) (lo hi : ByteArray) (w : World) :
  Calls Tryz.prog 77 #[.agg #[.int .i64 t.fD, .int .i64 t.aN, .string t.eo, .string t.em], .string lo, .string hi] w fun e w' => e = .returned (.bool (lF t lo hi)) /\ Below w.heap.size w w' := by
 have HV : Hid (lF t lo hi = ko (Ey t.eo lo) (AZ t.em hi)) := rfl; have cg := Bx.new w [.int .i64 t.fD, .int .i64 t.aN, .string t.eo, .string t.em] 50; have y2 := cg.2 2 _ rfl; have y3 := cg.2 3 _ rfl; have HB : Hid (Below w.heap.size w (w.alloc (.cells #[.int .i64 t.fD, .int .i64 t.aN, .string t.eo, .string t.em] 50))) := rB.alloc rN _; have hmx := fun (W : World) => Hw (P := Tryz.prog) (w := W) #[9, 9] 9 t.eo lo
 have W6 := fun (W : World) => Hx (P := Tryz.prog) (w := W) #[9, 9] 9 t.em hi
 generalize Ey t.eo lo = a at *; generalize AZ t.em hi = b at *; go_enter Tryz.func77, Tryz.ntmps77
 by_cases hk : ko a b = true
 ·have uH : Hid (lF t lo hi = true) := by show _ = _; rw [HV.out, hk]
  have hq := oX hk; rcases hq with hq | hq
  ·go_wp2_with fail
   go_ret; exact ⟨by rw [uH.out]; rfl, HB.out⟩
  ·go_wp2_with fail
   go_ret; exact ⟨by rw [uH.out]; rfl, HB.out⟩
 ·have hk2 := Bool.eq_false_iff.2 hk
  have uH : Hid (lF t lo hi = false) := by show _ = _; rw [HV.out, hk2]
  obtain ⟨km, Cu⟩ := uG hk2; go_wp2_with fail; go_ret; exact ⟨by rw [uH.out]; rfl, HB.out⟩
theorem CP (s : ByteArray) (w : World) (hs : s.size <= 9223372036854775807) :
  Calls Tryz.prog 76 #[.string s] w fun e w' => e = .returned (.bool (jp s)) /\ w' = w := by
 by_cases h0 : s.size = 0
 ·have HV : Hid (jp s = false) := decide_eq_false (fun h => by omega)
  have he := SZ h0; go_enter Tryz.func76, Tryz.ntmps76
  go_wp2
  go_ret; exact ⟨by rw [HV.out]; rfl, rfl⟩
 ·have he := Kl h0
  by_cases h1 : s.size <= 20
  ·have HV : Hid (jp s = true) := decide_eq_true ⟨by omega, h1⟩
   have h2 : (s.size : Int) <= 20 := by omega
   go_enter Tryz.func76, Tryz.ntmps76
   go_wp2
   go_ret; exact ⟨by rw [HV.out]; rfl, rfl⟩
  ·have HV : Hid (jp s = false) := decide_eq_false (fun h => by omega)
   have h2 : ¬ (s.size : Int) <= 20 := by omega
   go_enter Tryz.func76, Tryz.ntmps76
   go_wp2
   go_ret; exact ⟨by rw [HV.out]; rfl, rfl⟩
theorem EH (t : aT) (w : World) (h2 : t.eo.size <= 9223372036854775807) (h3 : t.em.size <= 9223372036854775807) :
  Calls Tryz.prog 32 #[.agg #[.int .i64 t.fD, .int .i64 t.aN, .string t.eo, .string t.em]] w fun e w' => e = .returned (.bool (lK t)) /\ Below w.heap.size w w' := by
 have HV : Hid (lK t = (decide (0 <= t.aN /\ t.aN <= 3) && jp t.eo && jp t.em && ko t.eo t.em)) := rfl; have cg := Bx.new w [.int .i64 t.fD, .int .i64 t.aN, .string t.eo, .string t.em] 50; have y1 := cg.2 1 _ rfl; have y2 := cg.2 2 _ rfl; have y3 := cg.2 3 _ rfl; have HB : Hid (Below w.heap.size w (w.alloc (.cells #[.int .i64 t.fD, .int .i64 t.aN, .string t.eo, .string t.em] 50))) := rB.alloc rN _; have Ko := fun W => CP t.eo W h2
 have hk2 := fun W => CP t.em W h3
 generalize jp t.eo = a at *; generalize jp t.em = b at *; go_enter Tryz.func32, Tryz.ntmps32
 by_cases hl : 0 <= t.aN /\ t.aN <= 3
 rotate_left
 ·have uH : Hid (lK t = false) := by show _ = _; rw [HV.out, decide_eq_false hl]; simp
  by_cases hl0 : 0 <= t.aN
  ·have sF : ¬ t.aN <= 3 := fun h => hl ⟨hl0, h⟩
   go_wp2_with fail; go_ret; exact ⟨by rw [uH.out]; rfl, HB.out⟩
  ·go_wp2_with fail
   go_ret; exact ⟨by rw [uH.out]; rfl, HB.out⟩
 obtain ⟨hl0, sF⟩ := hl; have UW : Hid (lK t = (a && b && ko t.eo t.em)) := by show _ = _; rw [HV.out, decide_eq_true (show 0 <= t.aN /\ t.aN <= 3 from ⟨hl0, sF⟩)]; simp
 cases a with
 | false =>
  have uH : Hid (lK t = false) := by show _ = _; rw [UW.out]; simp
  go_wp2_with fail; refine (Ko _).mono ?_; rintro e w1 ⟨rfl, di⟩; subst di; go_wp2_with fail; go_ret; exact ⟨by rw [uH.out]; rfl, HB.out⟩
 | true =>
  cases b with
  | false =>
   have uH : Hid (lK t = false) := by show _ = _; rw [UW.out]; simp
   go_wp2_with fail; refine (Ko _).mono ?_; rintro e w1 ⟨rfl, di⟩; subst di; go_wp2_with fail; refine (hk2 _).mono ?_; rintro e w1 ⟨rfl, di⟩; subst di; go_wp2_with fail; go_ret; exact ⟨by rw [uH.out]; rfl, HB.out⟩
  | true =>
   by_cases hk : ko t.eo t.em = true
   ·have uH : Hid (lK t = true) := by show _ = _; rw [UW.out, hk]; rfl
    rcases oX hk with hq | hq
    ·go_wp2_with fail
     refine (Ko _).mono ?_; rintro e w1 ⟨rfl, di⟩; subst di; go_wp2_with fail; refine (hk2 _).mono ?_; rintro e w1 ⟨rfl, di⟩; subst di; go_wp2_with fail; go_ret; exact ⟨by rw [uH.out]; rfl, HB.out⟩
    ·go_wp2_with fail
     refine (Ko _).mono ?_; rintro e w1 ⟨rfl, di⟩; subst di; go_wp2_with fail; refine (hk2 _).mono ?_; rintro e w1 ⟨rfl, di⟩; subst di; go_wp2_with fail; go_ret; exact ⟨by rw [uH.out]; rfl, HB.out⟩
   ·have Hq := Bool.eq_false_iff.2 hk
    have uH : Hid (lK t = false) := by show _ = _; rw [UW.out, Hq]; rfl
    obtain ⟨km, Cu⟩ := uG Hq; go_wp2_with fail; refine (Ko _).mono ?_; rintro e w1 ⟨rfl, di⟩; subst di; go_wp2_with fail; refine (hk2 _).mono ?_; rintro e w1 ⟨rfl, di⟩; subst di; go_wp2_with fail; go_ret; exact ⟨by rw [uH.out]; rfl, HB.out⟩
theorem KF {α : Type} {f : α -> Bool} {l : List α} {k : Nat} (h : k < l.length) : (l.take (k + 1)).all f = ((l.take k).all f && f l[k]) := by
 rw [List.take_succ_eq_append_getElem h, List.all_append]; simp
theorem MJ {α : Type} {f : α -> Bool} {l : List α} {k : Nat} (h : k < l.length) (hb : f l[k] = false) : l.all f = false := by
 rw [List.all_eq_false]; exact ⟨l[k], List.getElem_mem h, by rw [hb]; simp⟩
theorem zg (t : aT) (a : Option Addr) (n c : Nat) (l : List aT) (w : World) (hx : l.length = n) (hn : n <= 1048576) (hL : bw 4 xP w.heap.size w a c l) :
  Calls Tryz.prog 33 #[.agg #[.int .i64 t.fD, .int .i64 t.aN, .string t.eo, .string t.em], .slice a n c] w fun e w' => e = .returned (.bool (nN t l)) /\ Below w.heap.size w w' := by
 have HX := Hm hx; have HL := Hm hL; have HV : Hid (nN t l = (decide (t.aN = 0) || l.all (fun o => !(decide (o.aN = t.aN) && lF o t.eo t.em)))) := rfl; obtain ⟨f, hf⟩ : ∃ f : aT -> Bool, f = (fun o => !(decide (o.aN = t.aN) && lF o t.eo t.em)) := ⟨_, rfl⟩
 rw [<- hf] at HV; have HF := Hm hf; clear hx hL hf; go_enter Tryz.func33, Tryz.ntmps33; obtain ⟨wq, bI⟩ : ∃ wq, wq = w.alloc (.cells #[.int .i64 t.fD, .int .i64 t.aN, .string t.eo, .string t.em] 50) := ⟨_, rfl⟩
 have kH : Below w.heap.size w wq := by rw [bI]; exact rB.alloc rN _
 have cg : Bx wq w.heap.size [.int .i64 t.fD, .int .i64 t.aN, .string t.eo, .string t.em] := by rw [bI]; exact Bx.new _ _ _
 by_cases h0 : t.aN = 0
 ·have uH : Hid (nN t l = true) := by show _ = _; rw [HV.out, decide_eq_true h0]; rfl
  have y1 := cg.2 1 _ rfl; rw [h0] at y1; go_wp2_with fail; go_ret; exact ⟨by rw [uH.out]; rfl, rB.alloc rN _⟩
 have uH : Hid (nN t l = l.all f) := by show _ = _; rw [HV.out, decide_eq_false h0]; rfl
 clear HV; have y1 := cg.2 1 _ rfl; rw [bI] at y1; go_wp2_with fail; rw [<- bI]; simp only [show (t.aN == 0) = false from by simpa using h0]; clear y1 bI h0
 go_loopw [12] (fun i wr => ∃ k : Nat, k <= n /\ i = .int .i64 k /\ Hid ((l.take k).all f = true) /\ Below wq.heap.size wq wr) (fun i _ => n - (intOf i).toNat)
 case atStart => exact ⟨0, Nat.zero_le _, rfl, rfl, rB⟩
 case round =>
  obtain ⟨k, hk, rfl, HI, bF⟩ := hrel; have tA := af kH bF; have eI := tA.size
  by_cases hlt : k < n
  ·have gH : k < l.length := by rw [HX.out]; exact hlt
   obtain ⟨b1, o1, rfl, hB, cs, iw, hcell, rfl, g0, g1, g2, g3, _⟩ := (HL.out.2.2.below fe tA) k gH; have Qx : b1 < wr.heap.size := by omega
   have k0 := hcell 0 _ rfl; have k1 := hcell 1 _ rfl; have k2 := hcell 2 _ rfl; have k3 := hcell 3 _ rfl; rw [Nat.add_zero] at k0; have HT : Hid (f l[k] = true -> (l.take (k + 1)).all f = true) := fun h => by rw [KF gH, HI.out, h]; rfl
   have xS : Hid (f l[k] = false -> nN t l = false) := fun h => by rw [uH.out]; exact MJ gH h
   have Ou : Hid (f l[k] = !(decide (l[k].aN = t.aN) && lF l[k] t.eo t.em)) := by show _ = _; rw [HF.out]
   clear hcell iw; generalize f l[k] = fk at *; generalize l[k] = x at *; have tM := cg.under bF; have t1 := tM.2 1 _ rfl; have t2 := tM.2 2 _ rfl; have t3 := tM.2 3 _ rfl; have oA := tM.1
   by_cases hv : x.aN = t.aN
   ·have UX : Hid (fk = !lF x t.eo t.em) := by show _ = _; rw [Ou.out, decide_eq_true hv]; rfl
    have hC := fun W => CO x t.eo t.em W
    rw [hv] at k1; simp only [hv] at hC; clear hv Ou; generalize lF x t.eo t.em = rc at *; go_wp2_with fail; refine (hC _).mono ?_; rintro e w2 ⟨rfl, hx2⟩; have hb2 := af bF (af (rB.alloc rN _) hx2); clear hC t1 t2 t3 hx2; cases rc with
    | false =>
     have HD := HT.out UX.out; go_wp2_with fail
     go_roundw
     case rel => exact ⟨k + 1, by omega, by go_num, HD, hb2⟩
     case measure => simp [intOf]; omega
    | true =>
     have HD := Hm (xS.out UX.out); go_wp2_with fail; go_ret; exact ⟨by rw [HD.out]; rfl, af kH hb2⟩
   ·have UX : Hid (fk = true) := by show _ = _; rw [Ou.out, decide_eq_false hv]; rfl
    have HD := Hm (HT.out UX.out); go_wp2_with fail
    go_roundw
    case rel => exact ⟨k + 1, by omega, by go_num, HD, af bF (rB.alloc rN _)⟩
    case measure => simp [intOf]; omega
  ·have HD : Hid (nN t l = true) := by show _ = _; rw [uH.out]; have h := HI.out; rw [show k = l.length by rw [HX.out]; omega, List.take_length] at h; exact h
   go_wp2_with fail; go_ret; exact ⟨by rw [HD.out]; rfl, tA⟩
theorem bw.front {α : Type} {size : Nat} {R : nS α} {B : Nat} {w : World} {a : Option Addr} {c : Nat} {l : List α} {k : Nat} (h : bw size R B w a c l) (hk : k <= l.length) : bw size R B w a c (l.take k) := by
 refine ⟨by have := h.1; simp; omega, h.2.1, fun j hj => ?_⟩; have vd : j < l.length := by simp at hj; omega
 obtain ⟨b, off, e, hB, cs, h1, h2, h3⟩ := h.2.2 j vd; exact ⟨b, off, e, hB, cs, h1, h2, by simpa using h3⟩
theorem nE (cs : List Value) (m : aK) (w : World) (hr : ct w.heap.size w cs m) (hw : fP m <= 1048576) :
  Calls Tryz.prog 10 #[.agg cs.toArray] w fun e w' => e = .returned (.bool (bO m)) /\ Below w.heap.size w w' := by
 obtain ⟨a0, c0, rfl, EB, A0, hL, _⟩ := hr; have HL := Hm hL; obtain ⟨l, hl⟩ : ∃ l, l = m.aD := ⟨_, rfl⟩
 obtain ⟨n, hx⟩ : ∃ n, n = l.length := ⟨_, rfl⟩
 have HV : Hid (bO m = (decide (1 <= m.ah /\ m.ah <= 100000) && decide (0 <= m.ce /\ m.ce <= m.ah - 1) && decide (n <= 20) && dA m.ah [] l)) := by show _ = _; rw [hx, hl]; rfl
 have hn : n <= 1048576 := by have h : m.aD.length + aP kw m.aD <= 1048576 := hw; rw [hx, hl]; omega
 rw [<- hl] at HL ⊢; rw [<- hx]; have HX := Hm hx.symm; generalize m.ah = nx at *; generalize m.ce = lg at *; clear hL hw hl hx EB A0; go_enter Tryz.func10, Tryz.ntmps10; obtain ⟨wq, bI⟩ : ∃ wq, wq = w.alloc (.cells #[.int .i64 nx, .int .i64 lg, .slice a0 n c0] 30) := ⟨_, rfl⟩
 have kH : Below w.heap.size w wq := by rw [bI]; exact rB.alloc rN _
 have cg : Bx wq w.heap.size [.int .i64 nx, .int .i64 lg, .slice a0 n c0] := by rw [bI]; exact Bx.new _ _ _
 by_cases h1 : 1 <= nx
 rotate_left
 ·have HD : Hid (bO m = false) := by show _ = _; rw [HV.out, decide_eq_false (fun h => h1 h.1)]; rfl
  go_wp2_with fail; go_ret; exact ⟨by rw [HD.out]; rfl, rB.alloc rN _⟩
 by_cases h2 : nx <= 100000
 rotate_left
 ·have HD : Hid (bO m = false) := by show _ = _; rw [HV.out, decide_eq_false (fun h => h2 h.2)]; rfl
  go_wp2_with fail; go_ret; exact ⟨by rw [HD.out]; rfl, rB.alloc rN _⟩
 by_cases h3 : 0 <= lg
 rotate_left
 ·have HD : Hid (bO m = false) := by show _ = _; rw [HV.out, decide_eq_false (fun h => h3 h.1 : ¬ (0 <= lg /\ lg <= nx - 1))]; simp
  go_wp2_with fail; go_ret; exact ⟨by rw [HD.out]; rfl, rB.alloc rN _⟩
 by_cases h4 : lg < nx
 rotate_left
 ·have HD : Hid (bO m = false) := by show _ = _; rw [HV.out, decide_eq_false (fun h => by omega : ¬ (0 <= lg /\ lg <= nx - 1))]; simp
  go_wp2_with fail; go_ret; exact ⟨by rw [HD.out]; rfl, rB.alloc rN _⟩
 by_cases h5 : n <= 20
 rotate_left
 ·have HD : Hid (bO m = false) := by show _ = _; rw [HV.out, decide_eq_false h5]; simp
  have h6 : (20 : Int) < (n : Int) := by omega
  go_wp2_with fail; go_ret; exact ⟨by rw [HD.out]; rfl, rB.alloc rN _⟩
 have h6 : ¬ (20 : Int) < (n : Int) := by omega
 have uH : Hid (bO m = dA nx [] l) := by show _ = _; rw [HV.out, decide_eq_true (show 1 <= nx /\ nx <= 100000 from ⟨h1, h2⟩), decide_eq_true (show 0 <= lg /\ lg <= nx - 1 from ⟨h3, by omega⟩), decide_eq_true h5]; rfl
 clear HV; go_wp2_with fail; rw [<- bI]; clear bI h6
 go_loopw [3, 35] (fun lv i wr => ∃ k : Nat, k <= n /\ i = .int .i64 k /\ lv = .int .i64 (je (l.take k)) /\ 0 <= je (l.take k) /\ Hid (∀ u, u ∈ l.take k -> ko u.eo u.em = true) /\ Hid (dA nx [] l = dA nx (l.take k) (l.drop k)) /\ Below wq.heap.size wq wr) (fun _ i _ => n - (intOf i).toNat)
 case atStart => exact ⟨0, Nat.zero_le _, rfl, rfl, Int.le_refl _, fun u hu => by simp at hu, rfl, rB⟩
 case round =>
  obtain ⟨k, hk, rfl, rfl, hl0, HU, HI, bF⟩ := hrel; have tA := af kH bF; have eI := tA.size
  by_cases hlt : k < n
  ·have gH : k < l.length := by rw [HX.out]; exact hlt
   obtain ⟨b1, o1, rfl, hB, cs, iw, hcell, rfl, g0, g1, g2, g3, _⟩ := (HL.out.2.2.below fe tA) k gH; have Qx : b1 < wr.heap.size := by omega
   have k0 := hcell 0 _ rfl; have k1 := hcell 1 _ rfl; have k2 := hcell 2 _ rfl; have k3 := hcell 3 _ rfl; rw [Nat.add_zero] at k0; have Q4 := Hm (Ez (next := nx) (t := l[k]) hl0 HU.out); have HG : Hid (kx nx l k l[k] = true -> dA nx [] l = dA nx (l.take (k + 1)) (l.drop (k + 1))) := fun h => by rw [HI.out]; exact zN gH h
   have xS : Hid (kx nx l k l[k] = false -> bO m = false) := fun h => by rw [uH.out, HI.out]; exact Cr gH h
   have HN := Hm (vw gH)
   have Zn : Hid (ko l[k].eo l[k].em = true -> ∀ u, u ∈ l.take (k + 1) -> ko u.eo u.em = true) := fun h u hu => by
    rw [List.take_succ_eq_append_getElem gH, List.mem_append] at hu; rcases hu with hu | hu
    ·exact HU.out u hu
    ·rw [List.mem_singleton] at hu; rw [hu]; exact h
   have HLF : Hid (∀ W, Below wr.heap.size wr W -> bw 4 xP W.heap.size W (some ⟨b1, o1, none⟩) c0 (l.take k)) := fun W hb => by
    have h := (HL.out.below fe (af tA hb)).mono fe (af tA hb).size; exact bw.front h (by omega)
   have hlk : (l.take k).length = k := by rw [List.length_take]; omega
   have Xu := Hm hlk; clear hcell iw hlk HI; generalize je (l.take k) = ln at *; generalize kx nx l k l[k] = ta at *; obtain ⟨x, Kp⟩ : ∃ x, x = l[k] := ⟨_, rfl⟩
   rw [<- Kp] at k0 k1 k2 k3 g0 g1 g2 g3 Q4 HN Zn; clear Kp; have tM := cg.under bF; have oA := tM.1; obtain ⟨wp, mG⟩ : ∃ wp, wp = wr.alloc (.cells #[.int .i64 x.fD, .int .i64 x.aN, .string x.eo, .string x.em] 50) := ⟨_, rfl⟩
   have ll : Below wr.heap.size wr wp := by rw [mG]; exact rB.alloc rN _
   have ot : Bx wp wr.heap.size [.int .i64 x.fD, .int .i64 x.aN, .string x.eo, .string x.em] := by rw [mG]; exact Bx.new _ _ _
   have oY := af bF ll; have p0 : ∀ W, Below wp.heap.size wp W -> W.cell? ⟨wr.heap.size, 0, none⟩ = some (.int .i64 x.fD) := fun W hb => (ot.under hb).2 0 _ rfl
   have p1 : ∀ W, Below wp.heap.size wp W -> W.cell? ⟨wr.heap.size, 1, none⟩ = some (.int .i64 x.aN) := fun W hb => (ot.under hb).2 1 _ rfl
   have p2 : ∀ W, Below wp.heap.size wp W -> W.cell? ⟨wr.heap.size, 2, none⟩ = some (.string x.eo) := fun W hb => (ot.under hb).2 2 _ rfl
   have p3 : ∀ W, Below wp.heap.size wp W -> W.cell? ⟨wr.heap.size, 3, none⟩ = some (.string x.em) := fun W hb => (ot.under hb).2 3 _ rfl
   have q0 : ∀ W, Below wp.heap.size wp W -> W.cell? ⟨w.heap.size, 0, none⟩ = some (.int .i64 nx) := fun W hb => ((tM.under ll).under hb).2 0 _ rfl
   have q2 : ∀ W, Below wp.heap.size wp W -> W.cell? ⟨w.heap.size, 2, none⟩ = some (.slice (some ⟨b1, o1, none⟩) n c0) := fun W hb => ((tM.under ll).under hb).2 2 _ rfl
   have Kq := fun W => EH x W g2 g3
   have Zo := fun W (hb : Below wp.heap.size wp W) => zg x (some ⟨b1, o1, none⟩) k c0 (l.take k) W Xu.out (by omega) (HLF.out W (af ll hb))
   have hkc : (k : Int) <= (c0 : Int) := by have h := HL.out.1; rw [HX.out] at h; omega
   have LQ : (0 : Int) <= (k : Int) := by omega
   have qZ : (k : Int) <= (n : Int) := by omega
   generalize nN x (l.take k) = ap at *; have WQ : Hid (lK x = true -> ko x.eo x.em = true) := fun h => (Ct h).1
   generalize lK x = rg at *
   by_cases hA : ln < x.fD
   rotate_left
   ·have HD : Hid (bO m = false) := xS.out (by rw [Q4.out, decide_eq_false hA]; rfl)
    have yU : x.fD <= ln := by omega
    go_wp2_with fail; rw [<- mG]; clear mG; refine kz wp (fun hZ => ?_); refine uq 0 ?_; refine uq 1 ?_; refine uq 2 ?_; refine uq 3 ?_; refine uq 4 ?_; refine um 5 ?_; refine um 6 ?_; refine um 7 ?_; refine um 8 ?_; refine um 9 ?_; refine uq 10 ?_; refine uq 11 ?_; refine um 12 ?_; refine um 13 ?_; refine um 14 ?_; refine uq 15 ?_; refine uq 16 ?_; refine um 17 ?_; refine um 18 ?_; refine um 19 ?_; refine um 20 ?_; refine um 21 ?_; refine um 22 ?_; refine um 23 ?_; refine uq 24 ?_; refine dC ?_; go_wp2_with fail; go_ret; exact ⟨by rw [HD.out]; rfl, af kH (af oY hZ)⟩
   have yU : decide (x.fD <= ln) = false := decide_eq_false (by omega)
   by_cases AE : x.fD < nx
   rotate_left
   ·have HD : Hid (bO m = false) := xS.out (by rw [Q4.out, decide_eq_false AE]; simp)
    have zy : nx <= x.fD := by omega
    go_wp2_with fail; rw [<- mG]; clear mG; refine kz wp (fun hZ => ?_); refine uq 0 ?_; refine uq 1 ?_; refine uq 2 ?_; refine uq 3 ?_; refine uq 4 ?_; refine uq 5 ?_; refine uq 6 ?_; refine uq 7 ?_; refine uq 8 ?_; refine uq 9 ?_; refine uq 10 ?_; refine uq 11 ?_; refine um 12 ?_; refine um 13 ?_; refine um 14 ?_; refine uq 15 ?_; refine uq 16 ?_; refine um 17 ?_; refine um 18 ?_; refine um 19 ?_; refine um 20 ?_; refine um 21 ?_; refine um 22 ?_; refine um 23 ?_; refine uq 24 ?_; refine dC ?_; go_wp2_with fail; go_ret; exact ⟨by rw [HD.out]; rfl, af kH (af oY hZ)⟩
   have zy : decide (nx <= x.fD) = false := decide_eq_false (by omega); cases rg with
   | false =>
    have HD : Hid (bO m = false) := xS.out (by rw [Q4.out]; simp); go_wp2_with fail; rw [<- mG]; clear mG; refine kz wp (fun hZ => ?_); refine uq 0 ?_; refine uq 1 ?_; refine uq 2 ?_; refine uq 3 ?_; refine uq 4 ?_; refine uq 5 ?_; refine uq 6 ?_; refine uq 7 ?_; refine uq 8 ?_; refine uq 9 ?_; refine uq 10 ?_; refine uq 11 ?_; refine uq 12 ?_; refine bf 13 rfl fun K hK => ?_
    go_simp; refine Calls.mono (Kq _) ?_; rintro e w1 ⟨rfl, hx1⟩; go_wp2_with fail; refine aL hK (af hZ hx1) (fun hZ => ?_); clear hK K; refine uq 14 ?_; refine uq 15 ?_; refine uq 16 ?_; refine um 17 ?_; refine um 18 ?_; refine um 19 ?_; refine um 20 ?_; refine um 21 ?_; refine um 22 ?_; refine um 23 ?_; refine uq 24 ?_; refine dC ?_; go_wp2_with fail; go_ret; exact ⟨by rw [HD.out]; rfl, af kH (af oY hZ)⟩
   | true =>
    cases ap with
    | false =>
     have HD : Hid (bO m = false) := xS.out (by rw [Q4.out]; simp); go_wp2_with fail; rw [<- mG]; clear mG; refine kz wp (fun hZ => ?_); refine uq 0 ?_; refine uq 1 ?_; refine uq 2 ?_; refine uq 3 ?_; refine uq 4 ?_; refine uq 5 ?_; refine uq 6 ?_; refine uq 7 ?_; refine uq 8 ?_; refine uq 9 ?_; refine uq 10 ?_; refine uq 11 ?_; refine uq 12 ?_; refine bf 13 rfl fun K hK => ?_
     go_simp; refine Calls.mono (Kq _) ?_; rintro e w1 ⟨rfl, hx1⟩; go_wp2_with fail; refine aL hK (af hZ hx1) (fun hZ => ?_); clear hK K; refine uq 14 ?_; refine uq 15 ?_; refine uq 16 ?_; refine uq 17 ?_; refine uq 18 ?_; refine uq 19 ?_; refine uq 20 ?_; refine uq 21 ?_; refine bf 22 rfl fun K hK => ?_
     go_simp; refine Calls.mono (Zo _ hZ) ?_; rintro e w2 ⟨rfl, hx2⟩; go_wp2_with fail; refine aL hK (af hZ hx2) (fun hZ => ?_); clear hK K; refine uq 23 ?_; refine uq 24 ?_; refine dC ?_; go_wp2_with fail; go_ret; exact ⟨by rw [HD.out]; rfl, af kH (af oY hZ)⟩
    | true =>
     have Ot := Hm (HG.out (by rw [Q4.out, decide_eq_true hA, decide_eq_true AE]; rfl)); have HU3 := Hm (Zn.out (WQ.out rfl)); have Ki : 0 <= x.fD := by omega
     go_wp2_with fail; rw [<- mG]; clear mG; refine kz wp (fun hZ => ?_); refine uq 0 ?_; refine uq 1 ?_; refine uq 2 ?_; refine uq 3 ?_; refine uq 4 ?_; refine uq 5 ?_; refine uq 6 ?_; refine uq 7 ?_; refine uq 8 ?_; refine uq 9 ?_; refine uq 10 ?_; refine uq 11 ?_; refine uq 12 ?_; refine bf 13 rfl fun K hK => ?_
     go_simp; refine Calls.mono (Kq _) ?_; rintro e w1 ⟨rfl, hx1⟩; go_wp2_with fail; refine aL hK (af hZ hx1) (fun hZ => ?_); clear hK K; refine uq 14 ?_; refine uq 15 ?_; refine uq 16 ?_; refine uq 17 ?_; refine uq 18 ?_; refine uq 19 ?_; refine uq 20 ?_; refine uq 21 ?_; refine bf 22 rfl fun K hK => ?_
     go_simp; refine Calls.mono (Zo _ hZ) ?_; rintro e w2 ⟨rfl, hx2⟩; go_wp2_with fail; refine aL hK (af hZ hx2) (fun hZ => ?_); clear hK K; refine uq 23 ?_; refine uq 24 ?_; refine dC ?_; have z0 := p0 _ hZ; go_wp2_with fail
     go_roundw
     case rel => exact ⟨k + 1, by omega, by go_num, by rw [HN.out], by rw [HN.out]; exact Ki, HU3, Ot, af oY hZ⟩
     case measure => simp [intOf]; omega
  ·have HD : Hid (bO m = true) := by show _ = _; rw [uH.out, HI.out]; exact Cq (by rw [HX.out]; omega)
   go_wp2_with fail; go_ret; exact ⟨by rw [HD.out]; rfl, tA⟩
end Go.Proofs.YtcamcgfbljhbhaaGreatDoor

namespace Go.Proofs.YtcamcgfbljhbhaaGreatDoor
open Go.RowKit Go.Maps Go.Shelf
def Pow (w : World) : Prop := Lib.TabIs Tryz.prog w "internal/strconv.uint64pow10" .u64 Lib.pow10Tab /\ qc.g 17 < w.heap.size
theorem Pow.below {w w' : World} (h : Pow w) (hb : Below w.heap.size w w') : Pow w' :=
 ⟨var?_below hb (by kernel_rfl) h.2 h.1, Nat.lt_of_lt_of_le h.2 hb.size⟩
theorem tR (n : Int) (w : World) (h0 : 0 <= n) (h1 : n <= 100000) (hT : Pow w) :
  Calls Tryz.prog 19 #[.int .i64 n] w fun e w' => e = .returned (.string (aU (cw n))) /\ Below w.heap.size w w' := by
 refine (Any.strconv_Itoa MH n (by omega) (by omega) w hT.1).mono ?_; rintro e w1 ⟨rfl, k, os, rfl⟩; exact ⟨by rw [Ii h0]; rfl, Lib.below_grow _ _ rN _ _⟩
theorem PY : Builder.Extra Tryz.prog vz where
 sizeBuilder := by kernel_rfl
 liesBuilder := by kernel_rfl
 t5 := Tryz.underlying5
 a5 := Tryz.isAgg5
 z5 := Tryz.sizeOf5
 v5 := Tryz.zeroValue5
 infoByte := by kernel_rfl
 cellsByte := by kernel_rfl
 sizeByte := by kernel_rfl
 neB5 := by decide
theorem CQ (g c n : Nat) (ls : List (List UInt8)) (sep : List UInt8) (sp : ByteArray) (w : World) (hsp : sp = aU sep) (hn : ls.length = n) (hb : Bx w g (ls.map fun l => Value.string (aU l))) (hc : n <= c) (h20 : n <= 100) (hl : (Lib.join ls sep).length <= 140737488355328) :
  Calls Tryz.prog 21 #[.slice (some ⟨g, 0, none⟩) n c, .string sp] w fun e w' => e = .returned (.string (aU (Lib.join ls sep))) /\ Below w.heap.size w w' := by
 subst hsp
 have e1 : (ls.map aU).map (fun s => s.data.toList) = ls := by
  rw [List.map_map]
  conv => rhs; rw [<- List.map_id ls]
  apply List.map_congr_left; intro l _; exact eE l
 have e2 : (aU sep).data.toList = sep := eE sep
 have hq := Any.strings_Join MI PY g 0 c (ls.map aU) (aU sep) w (fun j x hx => by
  rw [Nat.zero_add]; refine hb.2 j _ ?_; rw [List.getElem?_map] at hx ⊢; obtain ⟨y, hy, rfl⟩ := Option.map_eq_some_iff.1 hx; rw [hy]; rfl) hb.1 (by rw [List.length_map]; omega) (by rw [List.length_map]; omega) (by rw [e1, e2]; exact hl)
 rw [e1, e2, List.length_map, hn] at hq; exact hq
theorem zh (x : aT) (nx : Int) (w : World) (hM : mL nx x) (hn : nx <= 100000) (hT : Pow w) :
  Calls Tryz.prog 20 #[.agg #[.int .i64 x.fD, .int .i64 x.aN, .string x.eo, .string x.em]] w fun e w' => e = .returned (.string (aU (eR x))) /\ Below w.heap.size w w' := by
 have HJ := Hm (Ik x); have RZ := Hm (zY hM hn); obtain ⟨wp, mG⟩ : ∃ wp, wp = w.alloc (.cells #[.int .i64 x.fD, .int .i64 x.aN, .string x.eo, .string x.em] 50) := ⟨_, rfl⟩
 have ll : Below w.heap.size w wp := by rw [mG]; exact rB.alloc rN _
 have ot : Bx wp w.heap.size [.int .i64 x.fD, .int .i64 x.aN, .string x.eo, .string x.em] := by rw [mG]; exact Bx.new _ _ _
 have p0 : ∀ W, Below wp.heap.size wp W -> W.cell? ⟨w.heap.size, 0, none⟩ = some (.int .i64 x.fD) := fun W hb => (ot.under hb).2 0 _ rfl
 have p1 : ∀ W, Below wp.heap.size wp W -> W.cell? ⟨w.heap.size, 1, none⟩ = some (.int .i64 x.aN) := fun W hb => (ot.under hb).2 1 _ rfl
 have p2 : ∀ W, Below wp.heap.size wp W -> W.cell? ⟨w.heap.size, 2, none⟩ = some (.string x.eo) := fun W hb => (ot.under hb).2 2 _ rfl
 have p3 : ∀ W, Below wp.heap.size wp W -> W.cell? ⟨w.heap.size, 3, none⟩ = some (.string x.em) := fun W hb => (ot.under hb).2 3 _ rfl
 have xp := fun W (hb : Below wp.heap.size wp W) => tR x.fD W (by have := hM.UR; omega) (by have := hM.Q1; omega) (hT.below (af ll hb))
 have nt := fun W (hb : Below wp.heap.size wp W) => tR x.aN W hM.UT (by have := hM.Q2; omega) (hT.below (af ll hb))
 have N0 := fun W => tQ x.eo W (Nat.le_trans hM.lo (by omega))
 have S5 := fun W => tQ x.em W (Nat.le_trans hM.hi (by omega))
 clear hM hT; go_enter Tryz.func20, Tryz.ntmps20; go_wp2_with fail; rw [<- mG]; clear mG; refine kz wp (fun hZ => ?_); refine uq 0 ?_; refine uq 1 ?_; refine uq 3 ?_; refine uq 4 ?_; refine uq 6 ?_; refine uq 7 ?_; refine uq 9 ?_; refine uq 10 ?_; refine bf 2 rfl fun K hK => ?_
 go_simp; refine Calls.mono (xp _ hZ) ?_; rintro e w1 ⟨rfl, hx1⟩; have eD := af hZ hx1; go_wp2_with fail; refine aL hK (eD) (fun hZ => ?_); clear hK K; refine bf 5 rfl fun K hK => ?_
 go_simp; refine Calls.mono (nt _ hZ) ?_; rintro e w2 ⟨rfl, hx2⟩; have dU := af hZ hx2; go_wp2_with fail; refine aL hK (dU) (fun hZ => ?_); clear hK K; refine bf 8 rfl fun K hK => ?_
 go_simp; refine Calls.mono (N0 _) ?_; rintro e w3 ⟨rfl, hx3⟩; have bU := af hZ hx3; go_wp2_with fail; refine aL hK (bU) (fun hZ => ?_); clear hK K; refine bf 11 rfl fun K hK => ?_
 go_simp; refine Calls.mono (S5 _) ?_; rintro e w4 ⟨rfl, mX⟩; have bL := af hZ mX; go_wp2_with fail; refine aL hK (bL) (fun hZ => ?_); clear hK K; refine bf 12 rfl fun K hK => ?_
 go_simp; obtain ⟨w5, FZ⟩ : ∃ q, q = w4.alloc (.cells (List.toArray [Value.string (aU m9), Value.string (aU (cw x.fD)), Value.string (aU (cw x.aN)), Value.string (aU (eF x.eo)), Value.string (aU (eF x.em))]) 9) := ⟨_, rfl⟩
 have pE : Below w4.heap.size w4 w5 := by rw [FZ]; exact rB.alloc rN _
 have sr := af hZ pE; have Br : Bx w5 w4.heap.size ([m9, cw x.fD, cw x.aN, eF x.eo, eF x.em].map fun l => Value.string (aU l)) := by rw [FZ]; exact Bx.new _ _ _
 have hJ := CQ w4.heap.size 5 5 [m9, cw x.fD, cw x.aN, eF x.eo, eF x.em] [32] ⟨List.toArray [32]⟩ w5 rfl rfl Br (by omega) (by omega) (by rw [HJ.out]; have h := RZ.out; omega); rw [HJ.out] at hJ; refine (show _ = w5 from FZ.symm) ▸ ?_; clear FZ; refine aL hK (sr) (fun hZ => ?_); clear hK K; refine bf 13 rfl fun K hK => ?_
 go_simp; refine Calls.mono hJ ?_; rintro e w6 ⟨rfl, eA⟩; have MC := af hZ eA; go_wp2_with fail; refine aL hK (MC) (fun hZ => ?_); clear hK K; refine uq 14 ?_; refine dC ?_; go_wp2_with fail; go_ret; exact ⟨rfl, af ll MC⟩
theorem Tryz.MK : (Tryz.prog.info? 9).map (fun i => (i.zero, i.size, i.bytes)) = some (some (.string ByteArray.empty), 1, 16) := by kernel_rfl
theorem ig (cs : List Value) (m : aK) (w : World) (hr : ct w.heap.size w cs m) (hw : fP m <= 1048576) (hT : Pow w) :
  Calls Tryz.prog 6 #[.agg cs.toArray] w fun e w' => e = .returned (.string (cH m)) /\ Below w.heap.size w w' := by
 have rC := Hm hr; have Xv := Hm hw; obtain ⟨a0, c0, rfl, EB, A0, hL, _⟩ := hr; have HL := Hm hL; obtain ⟨l, hl⟩ : ∃ l, l = m.aD := ⟨_, rfl⟩
 obtain ⟨n, hx⟩ : ∃ n, n = l.length := ⟨_, rfl⟩
 have hn : n <= 1048576 := by have h : m.aD.length + aP kw m.aD <= 1048576 := hw; rw [hx, hl]; omega
 have HSW : Hid (aP kw l <= 1048576) := by show _ <= _; have h : m.aD.length + aP kw m.aD <= 1048576 := hw; rw [hl]; omega
 have PZ := Hm hl; rw [<- hl] at HL ⊢; have P0 : Hid (ct w.heap.size w [.int .i64 m.ah, .int .i64 m.ce, .slice a0 n c0] m) := by have h := rC.out; rw [<- hl, <- hx] at h; exact h
 rw [<- hx]; have HX := Hm hx.symm; clear hL hw hl hx EB A0 rC; go_enter Tryz.func6, Tryz.ntmps6; obtain ⟨wq, bI⟩ : ∃ wq, wq = w.alloc (.cells #[.int .i64 m.ah, .int .i64 m.ce, .slice a0 n c0] 30) := ⟨_, rfl⟩
 have kH : Below w.heap.size w wq := by rw [bI]; exact rB.alloc rN _
 have cg : Bx wq w.heap.size [.int .i64 m.ah, .int .i64 m.ce, .slice a0 n c0] := by rw [bI]; exact Bx.new _ _ _
 have y0 := cg.2 0 _ rfl; have y1 := cg.2 1 _ rfl; have y2 := cg.2 2 _ rfl; have hz := cg.1; go_wp2_with (rw [<- bI]); refine (nE [.int .i64 m.ah, .int .i64 m.ce, .slice a0 n c0] m wq (aR.mono (aR.below P0.out kH) kH.size) Xv.out).mono ?_; rintro e wm ⟨rfl, Ap⟩; have hb1 := af kH Ap
 by_cases mW : bO m = true
 rotate_left
 ·have KG := Bool.eq_false_iff.2 mW
  have HD := Hm (nD KG); rw [KG]; go_wp2_with fail; go_ret; exact ⟨by rw [HD.out]; rfl, hb1⟩
 have HF := Hm (kh mW); have HD := Hm (kg mW); rw [mW]; have uD : Hid (cH m = aU (Lib.join (lL m l ++ [ia, []]) [10])) := by show _ = _; rw [HD.out, yc, PZ.out]; rfl
 have hhl : (gM m).length <= 300000 := zZ HF.out; have KH : n <= 20 := by rw [<- HX.out, PZ.out]; exact HF.out.len
 have P1 : 0 <= m.ah := by have := HF.out.UU; omega
 have zf : m.ah <= 100000 := HF.out.Ij; have P2 : 0 <= m.ce := HF.out.UV; have KI : m.ce <= 100000 := by have := HF.out.Q3; omega
 have hE : Hid (∀ t, t ∈ l -> mL m.ah t) := by rw [PZ.out]; exact HF.out.each
 have q0 : ∀ W, Below wm.heap.size wm W -> W.cell? ⟨w.heap.size, 0, none⟩ = some (.int .i64 m.ah) := fun W hb => ((cg.under Ap).under hb).2 0 _ rfl
 have q1 : ∀ W, Below wm.heap.size wm W -> W.cell? ⟨w.heap.size, 1, none⟩ = some (.int .i64 m.ce) := fun W hb => ((cg.under Ap).under hb).2 1 _ rfl
 have q2 : ∀ W, Below wm.heap.size wm W -> W.cell? ⟨w.heap.size, 2, none⟩ = some (.slice a0 n c0) := fun W hb => ((cg.under Ap).under hb).2 2 _ rfl
 have xp := fun W (hb : Below wm.heap.size wm W) => tR m.ah W P1 zf (hT.below (af hb1 hb))
 have nt := fun W (hb : Below wm.heap.size wm W) => tR m.ce W P2 KI (hT.below (af hb1 hb))
 have QP : Hid (∀ (x : aT) (W : World), mL m.ah x -> Below wm.heap.size wm W -> Calls Tryz.prog 20 #[.agg #[.int .i64 x.fD, .int .i64 x.aN, .string x.eo, .string x.em]] W fun e w' => e = .returned (.string (aU (eR x))) /\ Below W.heap.size W w') := fun x W h hb => zh x m.ah W h zf (hT.below (af hb1 hb))
 obtain ⟨d1, gV⟩ : ∃ d, Hid (d = aU (cw m.ah)) := ⟨_, rfl⟩
 obtain ⟨d2, iZ⟩ : ∃ d, Hid (d = aU (cw m.ce)) := ⟨_, rfl⟩
 have sG : d1.size <= 100001 := by rw [gV.out, fE]; exact iM zf
 have vg : d2.size <= 100001 := by rw [iZ.out, fE]; exact iM KI
 rw [<- gV.out] at xp; rw [<- iZ.out] at nt
 have HH : Hid ((⟨#[110, 101, 120, 116, 32]⟩ : ByteArray) ++ d1 ++ ⟨#[32, 108, 111, 103, 32]⟩ ++ d2 = aU (gM m)) := by
  show _ = _; rw [gV.out, iZ.out, show (⟨#[110, 101, 120, 116, 32]⟩ : ByteArray) = aU vy from rfl, show (⟨#[32, 108, 111, 103, 32]⟩ : ByteArray) = aU CF from rfl]; simp only [p9, gM]
 have n1 : (9223372036854775807 < 5 + d1.size) = False := eq_false (by omega); have n2 : (9223372036854775807 < 5 + d1.size + 5) = False := eq_false (by omega); have n3 : (9223372036854775807 < 5 + d1.size + 5 + d2.size) = False := eq_false (by omega); obtain ⟨i0, hi, hz0, hz1, hz2⟩ := info_parts Tryz.MK; have HI : Hid (_ /\ _ /\ _ /\ _) := ⟨hi, hz0, hz1, hz2⟩
 have HFX := HF; clear HF HD mW y0 y1 y2 bI hi hz0 hz1 hz2 hT; go_wp2_with fail; refine kz wm (fun hZ => ?_); refine uq 0 ?_; refine uq 1 ?_; refine uq 5 ?_; refine uq 6 ?_; refine bf 2 rfl fun K hK => ?_
 go_simp; refine Calls.mono (xp _ hZ) ?_; rintro e w1 ⟨rfl, hx1⟩; have eD := af hZ hx1; go_wp2_with fail; refine aL hK (eD) (fun hZ => ?_); clear hK K; refine uq 3 ?_; refine uq 4 ?_; refine bf 7 rfl fun K hK => ?_
 go_simp; refine Calls.mono (nt _ hZ) ?_; rintro e w2 ⟨rfl, hx2⟩; have dU := af hZ hx2; go_wp2_with fail; refine aL hK (dU) (fun hZ => ?_); clear hK K; refine uq 8 ?_; refine bf 9 rfl fun K hK => ?_
 go_simp; rw [HH.out]; obtain ⟨w3, rF⟩ : ∃ q, q = w2.alloc (.cells (List.toArray [Value.string (aU (gM m))]) 9) := ⟨_, rfl⟩
 have hx3 : Below w2.heap.size w2 w3 := by rw [rF]; exact rB.alloc rN _
 have bU := af hZ hx3; have m4 : Hid (w3.ownsRow wm.heap.size 9 1 (.slice (some ⟨w2.heap.size, 0, none⟩) 1 1) 1 [Value.string (aU (gM m))]) := by rw [rF]; exact ⟨rfl, .inr ⟨w2.heap.size, 1, List.toArray [Value.string (aU (gM m))], rfl, dU.size, (show (w2.heap.push _)[w2.heap.size]? = _ from Array.getElem?_push_size), by omega, by simp [maxLen], by simp, by simp⟩⟩
 refine (show _ = w3 from rF.symm) ▸ ?_; clear rF; refine aL hK (bU) (fun hZ => ?_); clear hK K; refine uq 10 ?_; refine dC ?_; obtain ⟨wa, gY⟩ : ∃ x, x = w3 := ⟨_, rfl⟩
 have jL : Below wm.heap.size wm wa := by rw [gY]; exact bU
 have Zp : Hid (wa.ownsRow wm.heap.size 9 1 (.slice (some ⟨w2.heap.size, 0, none⟩) 1 1) 1 [Value.string (aU (gM m))]) := by rw [gY]; exact m4.out
 have y2 := q2 _ jL; have VA : w.heap.size < wa.heap.size := Nat.lt_of_lt_of_le hz (Nat.le_trans Ap.size jL.size); obtain ⟨gg, PG⟩ : ∃ x, x = w2.heap.size := ⟨_, rfl⟩
 rw [<- gY, <- PG]; rw [<- PG] at Zp; clear gY PG HH n1 n2 n3 xp nt sG vg gV iZ m4 bU hZ; go_wp2_with fail; clear y2
 go_loopw [3, 22] (fun v i wr => ∃ k : Nat, k <= n /\ i = .int .i64 k /\ wr.ownsRow wm.heap.size 9 1 v (k + 1) ((lL m (l.take k)).map fun x => Value.string (aU x)) /\ Below wm.heap.size wm wr) (fun _ i _ => n - (intOf i).toNat)
 case atStart => exact ⟨0, Nat.zero_le _, rfl, Zp.out, jL⟩
 case round =>
  obtain ⟨k, hk, rfl, hown, bF⟩ := hrel; have tA := af hb1 bF; have eI := tA.size; have oA : w.heap.size < wr.heap.size := Nat.lt_of_lt_of_le hz (Nat.le_trans Ap.size bF.size)
  by_cases hlt : k < n
  ·have gH : k < l.length := by rw [HX.out]; exact hlt
   obtain ⟨b1, o1, rfl, hB, cs, iw, hcell, rfl, g0, g1, g2, g3, _⟩ := (HL.out.2.2.below fe tA) k gH; have Qx : b1 < wr.heap.size := by omega
   have k0 := hcell 0 _ rfl; have k1 := hcell 1 _ rfl; have k2 := hcell 2 _ rfl; have k3 := hcell 3 _ rfl; rw [Nat.add_zero] at k0; have hM := hE.out l[k] (List.getElem_mem gH); have Zq := Hm (ED (m := m) gH); obtain ⟨x, Kp⟩ : ∃ x, x = l[k] := ⟨_, rfl⟩
   rw [<- Kp] at k0 k1 k2 k3 g0 g1 g2 g3 Zq hM; clear hcell iw Kp; have N0 := fun W hb => QP.out x W hM hb
   obtain ⟨wp, mG⟩ : ∃ wp, wp = wr.alloc (.cells #[.int .i64 x.fD, .int .i64 x.aN, .string x.eo, .string x.em] 50) := ⟨_, rfl⟩
   have ll : Below wr.heap.size wr wp := by rw [mG]; exact rB.alloc rN _
   have hown1 := aA hown ll; have oY := af bF ll; go_wp2_with (rw [<- mG]); refine (N0 _ oY).mono ?_; rintro e w5 ⟨rfl, pE⟩; have gK := aA hown1 pE; have Br := af oY pE; clear N0 hown hown1 mG k0 k1 k2 k3; obtain ⟨w6, l9⟩ : ∃ q, q = w5.alloc (.cells #[Value.string (aU (eR x))] 9) := ⟨_, rfl⟩
   have eA : Below w5.heap.size w5 w6 := by rw [l9]; exact rB.alloc rN _
   have qd : Bx w6 w5.heap.size [Value.string (aU (eR x))] := by rw [l9]; exact Bx.new _ _ _
   have ib := aA gK eA; have rZ := af Br eA; obtain ⟨xs, S6⟩ : ∃ q, Hid (q = (lL m (l.take k)).map fun x => Value.string (aU x)) := ⟨_, Hm rfl⟩
   rw [<- S6.out] at ib; clear gK; go_wp2_with (at_builtin; rw [<- l9]; refine wpList_append_own_at _ rfl _ _ 39 rfl wm.heap.size 9 i0 (.string ByteArray.empty) 1 16 Tryz.underlying39 HI.out.1 HI.out.2.1 HI.out.2.2.1 HI.out.2.2.2 rfl (by decide) _ _ _ rfl ib ⟨w5.heap.size, 0, none⟩ 1 1 [.string (aU (eR x))] rfl rfl (b8 qd) (by intro u hu; simp at hu; subst hu; rfl) (by unfold maxLen; omega) (by omega) rZ.size ?_; intro v7 w7 ki iN qf qg); have FO := rZ.grown iN rZ.size (fun k h => (ib.lt k h).1); have ML : Hid (w7.ownsRow wm.heap.size 9 1 v7 (k + 1 + 1) ((lL m (l.take (k + 1))).map fun x => Value.string (aU x))) := cM ki rfl (by rw [Zq.out, S6.out]; simp); clear ib ki iN qf qg l9 qd; go_wp2_with fail
   go_roundw
   case rel => exact ⟨k + 1, by omega, by go_num, ML.out, FO⟩
   case measure => simp [intOf]; omega
  ·have Ej : Hid (l.take k = l) := List.take_of_length_le (by rw [HX.out]; omega)
   have acl : k <= 20 := by omega
   have Xu : Hid ((lL m l).length = k + 1) := by show _ = _; simp only [lL, List.length_cons, List.length_map]; rw [HX.out]; omega
   rw [Ej.out] at hown; obtain ⟨w6, l9⟩ : ∃ q, q = wr.alloc (.cells #[Value.string (aU ia), Value.string (aU [])] 9) := ⟨_, rfl⟩
   have eA : Below wr.heap.size wr w6 := by rw [l9]; exact rB.alloc rN _
   have qd : Bx w6 wr.heap.size [Value.string (aU ia), Value.string (aU [])] := by rw [l9]; exact Bx.new _ _ _
   have ib := aA hown eA; have rZ := af bF eA
   have HJL : Hid ((Lib.join (lL m l ++ [ia, []]) [10]).length <= 140737488355328) := by
    show _ <= _; rw [yc]; have h1 := ya (l := l) hE.out zf; have h2 : l.length <= 20 := by rw [HX.out]; omega
    have h3 : l.length * 300001 <= 20 * 300001 := Nat.mul_le_mul_right _ h2; simp only [List.length_append, ia, List.length_cons, List.length_nil]; omega
   obtain ⟨xs, S6⟩ : ∃ q, Hid (q = (lL m l).map fun x => Value.string (aU x)) := ⟨_, Hm rfl⟩
   rw [<- S6.out] at ib; clear hown; go_wp2_with (at_builtin; rw [show (⟨#[101, 110, 100]⟩ : ByteArray) = aU ia from rfl, show (⟨#[]⟩ : ByteArray) = aU [] from rfl, <- l9]; refine wpList_append_own_at _ rfl _ _ 39 rfl wm.heap.size 9 i0 (.string ByteArray.empty) 1 16 Tryz.underlying39 HI.out.1 HI.out.2.1 HI.out.2.2.1 HI.out.2.2.2 rfl (by decide) _ _ _ rfl ib ⟨wr.heap.size, 0, none⟩ 2 2 [.string (aU ia), .string (aU [])] rfl rfl (b8 qd) (by intro u hu; simp at hu; rcases hu with rfl | rfl <;> rfl) (by unfold maxLen; omega) (by omega) rZ.size ?_; intro v7 w7 ki iN qf qg); have FO := rZ.grown iN rZ.size (fun k h => (ib.lt k h).1); obtain ⟨g7, Xw, rfl, UY, hg7, hg8⟩ := Gu ki (by omega)
   have S7 : Bx w7 g7 ((lL m l ++ [ia, []]).map fun x => Value.string (aU x)) := by
    refine ⟨hg8, fun i u hu => ?_⟩; have h1 : xs ++ [Value.string (aU ia), Value.string (aU [])] = (lL m l ++ [ia, []]).map fun x => Value.string (aU x) := by rw [S6.out]; simp
    rw [<- h1] at hu; have h2 := (List.getElem?_eq_some_iff.1 hu).1; have h3 := ki.1; rw [ki.cellAt i (by omega), hu]
   have hJ := CQ g7 Xw (k + 1 + 2) (lL m l ++ [ia, []]) [10] ⟨#[10]⟩ w7 rfl (by rw [List.length_append, Xu.out]; rfl) S7 UY (by omega) HJL.out; rw [<- uD.out] at hJ; clear ib ki iN qf qg l9 qd S7; go_wp2_with fail; refine hJ.mono ?_; rintro e w8 ⟨rfl, hx8⟩; go_wp2_with fail; go_ret; exact ⟨rfl, af hb1 (af FO hx8)⟩
end Go.Proofs.YtcamcgfbljhbhaaGreatDoor

namespace Go.Proofs.YtcamcgfbljhbhaaGreatDoor
open Go.RowKit
def fN (Xx : UInt8) : List UInt8 -> List (List UInt8)
 | [] => [[]]
 | x :: r => if x = Xx then [] :: fN Xx r else match fN Xx r with
  | [] => [[x]]
  | h :: t => (x :: h) :: t
theorem mN {b : UInt8} : ∀ {l : List UInt8}, b ∉ l -> fN b l = [l]
 | [], _ => rfl
 | x :: r, h => by
  have h1 : ¬ x = b := fun e => h (by rw [e]; simp)
  have h2 := mN (b := b) (l := r) (fun e => h (List.mem_cons_of_mem _ e)); rw [fN, if_neg h1, h2]
theorem fg {b : UInt8} : ∀ {l r : List UInt8}, b ∉ l -> fN b (l ++ b :: r) = l :: fN b r
 | [], r, _ => by rw [List.nil_append, fN, if_pos rfl]
 | x :: l, r, h => by
  have h1 : ¬ x = b := fun e => h (by rw [e]; simp)
  have h2 := fg (b := b) (l := l) (r := r) (fun e => h (List.mem_cons_of_mem _ e)); rw [List.cons_append, fN, if_neg h1, h2]
def S8 (b : UInt8) : Bool := decide (48 <= b.toNat /\ b.toNat <= 57)
def CR (l : List UInt8) (n : Int) : Int := l.foldl (fun n b => n * 10 + ((b.toNat : Int) - 48)) n
def Im (l : List UInt8) : Int := if (1 <= l.length /\ l.length <= 6) /\ l.all S8 = true then CR l 0 else -1
def Io (b : UInt8) : Int := if 48 <= b.toNat /\ b.toNat <= 57 then (b.toNat : Int) - 48 else if 97 <= b.toNat /\ b.toNat <= 102 then (b.toNat : Int) - 87 else 99
def uK : List UInt8 -> List UInt8
 | a :: b :: r => UInt8.ofNat ((Io a * 16 + Io b) % 256).toNat :: uK r
 | _ => []
theorem KJ (k : Nat) : ∀ n : Nat, n <= k -> ∀ b, b ∈ Lib.decDigits n -> 48 <= b.toNat /\ b.toNat <= 57 := by
 induction k with
 | zero =>
  intro n hn b hb; rw [Lib.decDigits, dif_pos (by omega)] at hb; simp at hb; subst hb; have : n = 0 := by omega
  subst this
  decide
 | succ k ih =>
  intro n hn b hb; rw [Lib.decDigits] at hb
  split at hb
  ·rename_i h
   rw [List.mem_singleton] at hb; subst hb; rw [UInt8.toNat_ofNat']; omega
  ·rename_i h
   rcases List.mem_append.1 hb with h1 | h1
   ·exact ih (n / 10) (by omega) b h1
   ·rw [List.mem_singleton] at h1
    subst h1; rw [UInt8.toNat_ofNat']; omega
theorem MM (k : Nat) : ∀ n : Nat, n <= k -> CR (Lib.decDigits n) 0 = (n : Int) := by
 induction k with
 | zero =>
  intro n hn; have : n = 0 := by omega
  subst this; rw [Lib.decDigits, dif_pos (by omega)]
  decide
 | succ k ih =>
  intro n hn; rw [Lib.decDigits]
  split
  ·rename_i h
   have h1 : n < 10 := h; simp only [CR, List.foldl_cons, List.foldl_nil]; rw [UInt8.toNat_ofNat']; omega
  ·rename_i h
   have h1 := ih (n / 10) (by omega); unfold CR at h1 ⊢; rw [List.foldl_append, h1]; simp only [List.foldl_cons, List.foldl_nil]; rw [UInt8.toNat_ofNat']; omega
theorem ii {n : Int} {b : UInt8} (hb : b ∈ cw n) : 48 <= b.toNat /\ b.toNat <= 57 := KJ n.toNat n.toNat rN b hb
theorem CS {n : Int} (h : 0 <= n) : CR (cw n) 0 = n := by
 have := MM n.toNat n.toNat rN; unfold cw; rw [this]; omega
theorem CT (n : Int) : 1 <= (cw n).length := by
 unfold cw; rw [Lib.decDigits]
 split <;> simp
theorem F8 (k : Nat) : ∀ n : Nat, n < 10 ^ (k + 1) -> (Lib.decDigits n).length <= k + 1 := by
 induction k with
 | zero =>
  intro n h; rw [Lib.decDigits, dif_pos (by simpa using h)]; simp
 | succ k ih =>
  intro n h; rw [Lib.decDigits]
  split
  ·simp
  ·have := ih (n / 10) (by rw [Nat.pow_succ] at h; omega)
   rw [List.length_append]; simp; omega
theorem tS {n : Int} (h0 : 0 <= n) (h1 : n <= 100000) : Im (cw n) = n := by
 unfold Im; rw [if_pos, CS h0]; refine ⟨⟨CT n, F8 5 n.toNat (by omega)⟩, List.all_eq_true.2 fun b hb => ?_⟩; exact decide_eq_true (ii hb)
theorem KL : ∀ b : Fin 256, UInt8.ofNat ((Io (lH (b.val / 16)) * 16 + Io (lH (b.val % 16))) % 256).toNat = UInt8.ofNat b.val := by decide +kernel
theorem Ab : ∀ l : List UInt8, uK (l.flatMap x5) = l
 | [] => rfl
 | x :: r => by
  rw [List.flatMap_cons]
  show UInt8.ofNat ((Io (lH (x.toNat / 16)) * 16 + Io (lH (x.toNat % 16))) % 256).toNat :: uK (r.flatMap x5) = _; rw [Ab r, KL ⟨x.toNat, x.toNat_lt⟩]; simp
theorem KM (s : ByteArray) : uK (eF s) = s.data.toList := Ab _
def Ac (i : Nat) (w : List (List UInt8)) (m : aK) : aK :=
 if i = 0 then (if w.length = 4 then { m with ah := Im (w.getD 1 []), ce := Im (w.getD 3 []) } else m)
 else if w.length = 5 then { m with aD := m.aD ++ [⟨Im (w.getD 1 []), Im (w.getD 2 []), aU (uK (w.getD 3 [])), aU (uK (w.getD 4 []))⟩] } else m
def pc : Nat -> List (List UInt8) -> aK -> aK
 | _, [], m => m
 | i, l :: r, m => pc (i + 1) r (Ac i (fN 32 l) m)
def CU (s : List UInt8) : aK := pc 0 ((fN 10 s).take 30) ⟨0, 0, []⟩
theorem gN {n : Int} {b : UInt8} (hb : b.toNat < 48) : b ∉ cw n := fun h => by have := (ii h).1; omega
theorem Ga : ∀ x : Fin 16, 48 <= (lH x.val).toNat := by decide
theorem lu {s : ByteArray} {b : UInt8} (hb : b.toNat < 48) : b ∉ eF s := fun h => by
 unfold eF at h; obtain ⟨x, _, hx⟩ := List.mem_flatMap.1 h; have hx1 : x.toNat < 256 := x.toNat_lt; simp only [x5, List.mem_cons, List.not_mem_nil, or_false] at hx; rcases hx with rfl | rfl
 ·exact absurd (Ga ⟨x.toNat / 16, by omega⟩) (by show ¬ 48 <= (lH (x.toNat / 16)).toNat; omega)
 ·exact absurd (Ga ⟨x.toNat % 16, by omega⟩) (by show ¬ 48 <= (lH (x.toNat % 16)).toNat; omega)
theorem EI (t : aT) : fN 32 (eR t) = [m9, cw t.fD, cw t.aN, eF t.eo, eF t.em] := by
 have e : eR t = m9 ++ 32 :: (cw t.fD ++ 32 :: (cw t.aN ++ 32 :: (eF t.eo ++ 32 :: eF t.em))) := by
  unfold eR; simp only [List.append_assoc, List.cons_append, List.nil_append]
 rw [e, fg (by decide), fg (gN (by decide)), fg (gN (by decide)), fg (lu (by decide)), mN (lu (by decide))]
theorem EJ (m : aK) : fN 32 (gM m) = [[110, 101, 120, 116], cw m.ah, [108, 111, 103], cw m.ce] := by
 have e : gM m = [110, 101, 120, 116] ++ 32 :: (cw m.ah ++ 32 :: ([108, 111, 103] ++ 32 :: cw m.ce)) := by
  unfold gM vy CF; simp only [List.append_assoc, List.cons_append, List.nil_append]
 rw [e, fg (by decide), fg (gN (by decide)), fg (by decide), mN (gN (by decide))]
theorem KN (t : aT) : (10 : UInt8) ∉ eR t := by
 unfold eR; simp only [List.mem_append, not_or]; refine ⟨⟨⟨⟨⟨⟨⟨⟨by decide, by decide⟩, gN (by decide)⟩, by decide⟩, gN (by decide)⟩, by decide⟩, lu (by decide)⟩, by decide⟩, lu (by decide)⟩
theorem KO (m : aK) : (10 : UInt8) ∉ gM m := by
 unfold gM; simp only [List.mem_append, not_or]; exact ⟨⟨⟨by decide, gN (by decide)⟩, by decide⟩, gN (by decide)⟩
theorem vA : ∀ (l : List aT) (r : List UInt8), fN 10 (dr l ++ r) = l.map eR ++ fN 10 r
 | [], r => by simp [dr]
 | t :: l, r => by
  have e : dr (t :: l) ++ r = eR t ++ 10 :: (dr l ++ r) := by
   unfold dr; rw [List.flatMap_cons]; simp only [List.append_assoc, List.cons_append, List.nil_append]
  rw [e, fg (KN t), vA l r]; rfl
theorem EK (m : aK) : fN 10 (fq m) = gM m :: (m.aD.map eR ++ [ia, []]) := by
 have e : fq m = gM m ++ 10 :: (dr m.aD ++ (ia ++ 10 :: [])) := by
  unfold fq; simp only [List.append_assoc, List.cons_append, List.nil_append]
 rw [e, fg (KO m), vA, fg (by decide)]; rfl
theorem yf {nx : Int} (hn : nx <= 100000) : ∀ (l : List aT) (i : Nat) (m : aK) (r : List (List UInt8)), 0 < i -> (∀ t, t ∈ l -> mL nx t) -> pc i (l.map eR ++ r) m = pc (i + l.length) r { m with aD := m.aD ++ l }
 | [], i, m, r, _, _ => by simp
 | t :: l, i, m, r, hi, h => by
  have h1 := h t (by simp)
  have ht : Ac i (fN 32 (eR t)) m = { m with aD := m.aD ++ [t] } := by
   unfold Ac; rw [if_neg (by omega), EI, if_pos (show [m9, cw t.fD, cw t.aN, eF t.eo, eF t.em].length = 5 from rfl)]; simp only [List.getD_cons_succ, List.getD_cons_zero]; rw [tS (by have := h1.UR; omega) (by have := h1.Q1; omega), tS h1.UT (by have := h1.Q2; omega), KM, KM, A7, A7]
  rw [List.map_cons, List.cons_append, pc, ht, yf hn l (i + 1) _ r (by omega) (fun x hx => h x (List.mem_cons_of_mem _ hx))]; simp only [List.append_assoc, List.cons_append, List.nil_append, List.length_cons]
  congr 1
  omega
theorem Ip {m : aK} (h : bO m = true) : CU (fq m) = m := by
 have hf := kh h; have hlen := hf.len; unfold CU; rw [EK, List.take_of_length_le (by simp; omega), pc]
 have hh : Ac 0 (fN 32 (gM m)) ⟨0, 0, []⟩ = ⟨m.ah, m.ce, []⟩ := by
  unfold Ac; rw [if_pos rfl, EJ, if_pos (show [[110, 101, 120, 116], cw m.ah, [108, 111, 103], cw m.ce].length = 4 from rfl)]; simp only [List.getD_cons_succ, List.getD_cons_zero]; rw [tS (by have := hf.UU; omega) hf.Ij, tS hf.UV (by have := hf.Q3; have := hf.Ij; omega)]
 rw [hh, yf hf.Ij m.aD (0 + 1) _ _ (by omega) hf.each]; have e1 : fN 32 ia = [ia] := mN (by decide); have e2 : fN 32 [] = [[]] := rfl; simp only [pc, Ac, e1, e2]; rw [if_neg (by omega), if_neg (by decide), if_neg (by omega), if_neg (by decide)]; simp
end Go.Proofs.YtcamcgfbljhbhaaGreatDoor

namespace Go.Proofs.YtcamcgfbljhbhaaGreatDoor
open Go.RowKit Go.Maps Go.Shelf
def vS : List UInt8 := [48, 49, 50, 51, 52, 53, 54, 55, 56, 57, 97, 98, 99, 100, 101, 102]
def tT (x : List UInt8) : Bool := decide (Lib.trimS x vS = [])
def vB (x : List UInt8) : Value := bif tT x then .iface 137 (.string (aU x)) else .iface 134 (.string (aU x))
theorem CV (x : List UInt8) (w : World) (hx : x.length <= 1048576) :
  Calls Tryz.prog 134 #[.string (aU x), .string ⟨#[48, 49, 50, 51, 52, 53, 54, 55, 56, 57, 97, 98, 99, 100, 101, 102]⟩] w fun e w' => e = .returned (.string (aU (Lib.trimS x vS))) /\ Below w.heap.size w w' := by
 have hs : (aU x).size = x.length := by rw [Lib.size_eq, eE]
 refine (Any.strings_Trim_laid MG (by kernel_rfl) (aU x) ⟨vS.toArray⟩ w (by omega) (by decide) (ascii_of_all (by decide))).mono ?_; rintro e w1 ⟨rfl, hb⟩; rw [eE]; exact ⟨rfl, hb⟩
theorem yg (x : List UInt8) (w : World) (hx : x.length <= 1048576) :
  Calls Tryz.prog 119 #[.string (aU x)] w fun e w' => e = .returned (vB x) /\ Below w.heap.size w w' := by
 by_cases h : Lib.trimS x vS = []
 ·have HV : Hid (vB x = .iface 137 (.string (aU x))) := by show _ = _; unfold vB tT; rw [decide_eq_true h]; rfl
  go_enter Tryz.func119, Tryz.ntmps119; go_wp2_with fail; refine (CV x w hx).mono ?_; rintro e w1 ⟨rfl, hb⟩; rw [h, show aU [] = (⟨#[]⟩ : ByteArray) from rfl]; go_wp2_with fail; go_ret; exact ⟨by rw [HV.out]; rfl, hb⟩
 ·have HV : Hid (vB x = .iface 134 (.string (aU x))) := by show _ = _; unfold vB tT; rw [decide_eq_false h]; rfl
  have hne : (aU (Lib.trimS x vS)).toList.isEmpty = false := Kl (fun hc => h (by rw [Lib.size_eq, eE] at hc; exact List.eq_nil_of_length_eq_zero hc)); go_enter Tryz.func119, Tryz.ntmps119; go_wp2_with fail; refine (CV x w hx).mono ?_; rintro e w1 ⟨rfl, hb⟩; generalize aU (Lib.trimS x vS) = y at *; go_wp2_with fail; go_ret; exact ⟨by rw [HV.out]; rfl, hb⟩
def qh (w : World) (A : Nat) (l : List (List UInt8)) (b : Bool) : Prop :=
 ∃ (p : Option Addr) (c : Nat), Bw w A 65 [.slice p l.length c, .bool b] /\ l.length <= c /\ ∀ (j : Nat) (x : List UInt8), l[j]? = some x -> x.length <= 1048576 /\ ∃ R i, p = some ⟨R, i, none⟩ /\ R < A /\ R < w.heap.size /\ w.cell? ⟨R, i + j, none⟩ = some (.string (aU x))
theorem qh.turn {w w' : World} {A : Nat} {l : List (List UInt8)} {b : Bool} {F : List Nat} (h : qh w A l b) (ht : aw F w w') (hF : ∀ k, k ∈ F -> A < k) : qh w' A l b := by
 obtain ⟨p, c, hb, hc, hw⟩ := h; refine ⟨p, c, hb.turn ht (fun hm => Nat.lt_irrefl _ (hF A hm)), hc, fun j x hx => ?_⟩; obtain ⟨h1, R, i, hp, P3, hR, hcell⟩ := hw j x hx; exact ⟨h1, R, i, hp, P3, Nat.lt_of_lt_of_le hR ht.size, (ht.cell hR (fun hm => by have := hF R hm; omega)).trans hcell⟩
theorem qh.below {w w' : World} {A : Nat} {l : List (List UInt8)} {b : Bool} (h : qh w A l b) (ht : Below w.heap.size w w') : qh w' A l b :=
 h.turn (F := []) (aw.bz ht) (fun k hk => by simp at hk)
theorem qh.set {w : World} {A : Nat} {l : List (List UInt8)} {b : Bool} (h : qh w A l b) (b' : Bool) : qh (w.setCell ⟨A, 1, none⟩ (.bool b')) A l b' := by
 obtain ⟨p, c, hb, hc, hw⟩ := h; refine ⟨p, c, hb.put 1 (.bool b'), hc, fun j x hx => ?_⟩; obtain ⟨h1, R, i, hp, P3, hR, hcell⟩ := hw j x hx; have ht : aw [A] w (w.setCell ⟨A, 1, none⟩ (.bool b')) := (aw.refl [A] w).setCell (by simp) _; exact ⟨h1, R, i, hp, P3, Nat.lt_of_lt_of_le hR ht.size, (ht.cell hR (by simpa using Nat.ne_of_lt P3)).trans hcell⟩
theorem lw (A : Nat) (l : List (List UInt8)) (b ok : Bool) (w : World) (h : qh w A l b) :
  Calls Tryz.prog 80 #[.pointer (some ⟨A, 0, none⟩), .bool ok] w fun e w' => e = .returned (.tuple #[]) /\ qh w' A l (b || !ok) /\ aw [A] w w' := by
 have HN := Hm (h.set (b || !ok)); have HT := Hm ((aw.refl [A] w).setCell (p := ⟨A, 1, none⟩) (by simp) (.bool (b || !ok))); obtain ⟨p, c, hb, hc, hw⟩ := h; have c1 := hb.cell 1 _ rfl; have f1 := hb.free 1; have hl := hb.lt; clear hb hc hw; cases b <;> cases ok
 all_goals
  go_enter Tryz.func80, Tryz.ntmps80; go_wp2_with fail; exact bodyPost_end (v := .tuple #[]) (by simp [results, Tryz.results80, go_sem]) rfl ⟨rfl, HN.out, HT.out⟩
def vC : List (List UInt8) -> Value
 | [] => .nilIface
 | x :: _ => vB x
theorem yh (A : Nat) (l : List (List UInt8)) (b : Bool) (w : World) (h : qh w A l b) :
  Calls Tryz.prog 104 #[.pointer (some ⟨A, 0, none⟩)] w fun e w' => e = .returned (vC l) /\ qh w' A l.tail b /\ aw [A] w w' := by
 have HR := Hm h; obtain ⟨p, c, hb, hc, hw⟩ := h; have c0 := hb.cell 0 _ rfl; have f0 := hb.free 0; have hl := hb.lt; cases l with
 | nil =>
  go_enter Tryz.func104, Tryz.ntmps104; go_wp2_with fail; go_ret; exact ⟨rfl, HR.out, aw.refl _ _⟩
 | cons x l =>
  obtain ⟨hx, R, i, rfl, P3, Xy, d8⟩ := hw 0 x rfl; have hlen : (x :: l).length = l.length + 1 := rfl; obtain ⟨n, hn⟩ : ∃ n, n = l.length := ⟨_, rfl⟩
  rw [hlen, <- hn] at c0 hc; have HN := Hm hn; have HW := Hm hw; have HB := Hm hb; clear hlen hn hw hb; have Zr : ¬ (((n + 1 : Nat) : Int) = 0) := by omega
  have d8 : w.cell? ⟨R, i, none⟩ = some (.string (aU x)) := d8
  have hstep : ∀ (w1 : World) (i' c' : Nat), Below w.heap.size w w1 -> n <= c' -> (n ≠ 0 -> i' = i + 1) -> qh (w1.setCell ⟨A, 0, none⟩ (.slice (some ⟨R, i', none⟩) n c')) A l b /\ aw [A] w (w1.setCell ⟨A, 0, none⟩ (.slice (some ⟨R, i', none⟩) n c')) := by
   intro w1 i' c' hb1 hn hi; have ht : aw [A] w (w1.setCell ⟨A, 0, none⟩ (.slice (some ⟨R, i', none⟩) n c')) := (aw.bz hb1).setCell (by simp) _; refine ⟨⟨some ⟨R, i', none⟩, c', ?_, by rw [<- HN.out]; exact hn, fun j y hy => ?_⟩, ht⟩
   ·rw [<- HN.out]; exact (HB.out.under hb1).put 0 _
   ·obtain ⟨h1, R1, i1, hp, acp, hR1, hcell⟩ := HW.out (j + 1) y (by simpa using hy)
    cases hp
    have hj : j < l.length := (List.getElem?_eq_some_iff.1 hy).1; have Ki : n ≠ 0 := by rw [HN.out]; omega
    have Uf := hi Ki; subst Uf; refine ⟨h1, R, i + 1, rfl, P3, Nat.lt_of_lt_of_le Xy ht.size, ?_⟩; rw [show i + 1 + j = i + (j + 1) by omega]; exact (ht.cell Xy (by simpa using Nat.ne_of_lt P3)).trans hcell
  have HS := Hm hstep; have tA := HB.out.free 0; have HF : Hid (∀ w1, Below w.heap.size w w1 -> w1.frozen? ⟨A, 0, none⟩ = false) := fun w1 hb1 => (HB.out.under hb1).free 0
  clear hstep
  by_cases hc1 : c = 1
  ·subst hc1
   have Ki : n = 0 := by omega
   subst Ki; go_enter Tryz.func104, Tryz.ntmps104; go_wp2_with fail; refine (yg x w hx).mono ?_; rintro e w1 ⟨rfl, hb1⟩; have c1 : w1.cell? ⟨A, 0, none⟩ = some (.slice (some ⟨R, i, none⟩) (0 + 1) 1) := (World.cell?_of_block (w := w) (hb1.block A hl)).trans c0; have f1 := HF.out w1 hb1; have sF : A < w1.heap.size := Nat.lt_of_lt_of_le hl hb1.size; go_wp2_with fail; go_ret; have h2 := HS.out w1 i 0 hb1 (by omega) (by omega); exact ⟨rfl, h2.1, h2.2⟩
  ·go_enter Tryz.func104, Tryz.ntmps104
   go_wp2_with fail; refine (yg x w hx).mono ?_; rintro e w1 ⟨rfl, hb1⟩; have c1 : w1.cell? ⟨A, 0, none⟩ = some (.slice (some ⟨R, i, none⟩) (n + 1) c) := (World.cell?_of_block (w := w) (hb1.block A hl)).trans c0; have f1 := HF.out w1 hb1; have sF : A < w1.heap.size := Nat.lt_of_lt_of_le hl hb1.size; go_wp2_with fail; go_ret; have h2 := HS.out w1 (i + 1) (c - 1) hb1 (by omega) (by omega); exact ⟨rfl, h2.1, h2.2⟩
def cV : List (List UInt8) -> List UInt8 × Bool
 | [] => ([], false)
 | x :: _ => bif tT x then ([], false) else (x, true)
def fB : List (List UInt8) -> List UInt8 × Bool
 | [] => ([], false)
 | x :: _ => bif tT x then (x, true) else ([], false)
theorem qi (l : List (List UInt8)) : (vC l = .nilIface /\ cV l = ([], false) /\ fB l = ([], false)) ∨ (∃ x, vC l = .iface 137 (.string (aU x)) /\ cV l = ([], false) /\ fB l = (x, true)) ∨ (∃ x, vC l = .iface 134 (.string (aU x)) /\ cV l = (x, true) /\ fB l = ([], false)) := by
 cases l with
 | nil => exact Or.inl ⟨rfl, rfl, rfl⟩
 | cons x l =>
  cases h : tT x
  ·exact Or.inr (Or.inr ⟨x, by simp [vC, vB, h], by simp [cV, h], by simp [fB, h]⟩)
  ·exact Or.inr (Or.inl ⟨x, by simp [vC, vB, h], by simp [cV, h], by simp [fB, h]⟩)
theorem MN (v : Value) (w : World) : (Instr.typeAssert (.iface 134 v) 20 134 true).run Tryz.prog w = .ok (.tuple #[v, .bool true]) w := by
 simp [Instr.typeAssert, run_underlying Tryz.underlying134, go_sem, Result.andThen]
theorem P4 (v : Value) (w : World) : (Instr.typeAssert (.iface 137 v) 20 134 true).run Tryz.prog w = .ok (.tuple #[.string ⟨#[]⟩, .bool false]) w := by
 simp [Instr.typeAssert, run_underlying Tryz.underlying134, Tryz.zeroValue134, go_sem, Result.andThen]
theorem MO (w : World) : (Instr.typeAssert .nilIface 20 134 true).run Tryz.prog w = .ok (.tuple #[.string ⟨#[]⟩, .bool false]) w := by
 simp [Instr.typeAssert, run_underlying Tryz.underlying134, Tryz.zeroValue134, go_sem, Result.andThen]
theorem Gb (v : Value) (w : World) : (Instr.typeAssert (.iface 137 v) 20 137 true).run Tryz.prog w = .ok (.tuple #[v, .bool true]) w := by
 simp [Instr.typeAssert, run_underlying Tryz.underlying137, go_sem, Result.andThen]
theorem KP (v : Value) (w : World) : (Instr.typeAssert (.iface 134 v) 20 137 true).run Tryz.prog w = .ok (.tuple #[.string ⟨#[]⟩, .bool false]) w := by
 simp [Instr.typeAssert, run_underlying Tryz.underlying137, Tryz.zeroValue137, go_sem, Result.andThen]
theorem Gc (w : World) : (Instr.typeAssert .nilIface 20 137 true).run Tryz.prog w = .ok (.tuple #[.string ⟨#[]⟩, .bool false]) w := by
 simp [Instr.typeAssert, run_underlying Tryz.underlying137, Tryz.zeroValue137, go_sem, Result.andThen]
theorem CW (A : Nat) (l : List (List UInt8)) (b : Bool) (w : World) (h : qh w A l b) :
  Calls Tryz.prog 81 #[.pointer (some ⟨A, 0, none⟩)] w fun e w' => e = .returned (.string (aU (cV l).1)) /\ qh w' A l.tail (b || !(cV l).2) /\ aw [A] w w' := by
 have HC := Hm (yh A l b w h); rcases qi l with ⟨hv, hN, hD⟩ | ⟨x, hv, hN, hD⟩ | ⟨x, hv, hN, hD⟩
 all_goals
  rw [hN]; have HV := Hm hv; have r0 := MN; have r1 := P4; have r2 := MO; clear hN hD hv h; go_enter Tryz.func81, Tryz.ntmps81; go_wp2_with fail; refine HC.out.mono ?_; rintro e w1 ⟨rfl, hr1, qU⟩; rw [HV.out]; go_wp2_with fail; refine (lw A l.tail b _ w1 hr1).mono ?_; rintro e w2 ⟨rfl, hr2, tL⟩; go_wp2_with fail; go_ret; exact ⟨rfl, hr2, qU.trans tL⟩
end Go.Proofs.YtcamcgfbljhbhaaGreatDoor
