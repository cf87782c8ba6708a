/-
  Part 23 of the texts that the proof leans on.
-/
import Derived.Test.YtcamcgfbljhbhaaGreatDoorMan21
import Derived.Test.YtcamcgfbljhbhaaGreatDoorMan5
import Derived.Test.YtcamcgfbljhbhaaGreatDoorMan0
import Derived.Test.YtcamcgfbljhbhaaGreatDoorMan20
import Derived.Test.YtcamcgfbljhbhaaGreatDoorMan17
import Derived.Test.YtcamcgfbljhbhaaGreatDoorMan2
import Derived.Lib.FieldsU
set_option linter.unusedVariables false
set_option linter.unusedSimpArgs false
set_option maxRecDepth 10000
set_option maxHeartbeats 20000000

namespace Go.Proofs.YtcamcgfbljhbhaaGreatDoor
open Go.RowKit Go.Maps Go.Shelf
def Gd (w : World) : Prop := ((∃ tp p, w.var? Tryz.prog "strconv.ErrSyntax" = some #[.iface tp p]) /\ b9.g 15 < w.heap.size) /\ (∃ tp p, w.var? Tryz.prog "strconv.ErrRange" = some #[.iface tp p]) /\ b9.g 16 < w.heap.size
theorem Gd.below {w w' : World} (h : Gd w) (hb : Below w.heap.size w w') : Gd w' := by
 obtain ⟨⟨⟨t1, p1, h1⟩, k1⟩, ⟨t2, p2, h2⟩, k2⟩ := h; exact ⟨⟨⟨t1, p1, var?_below hb (by kernel_rfl) k1 h1⟩, Nat.lt_of_lt_of_le k1 hb.size⟩, ⟨t2, p2, var?_below hb (by kernel_rfl) k2 h2⟩, Nat.lt_of_lt_of_le k2 hb.size⟩
def ql (x : List UInt8) : Int × Bool :=
 match Lib.atoiAll x with
 | .ok v => (v, true)
 | .range => (Lib.atoiSat x, false)
 | _ => (0, false)
theorem KQ (x : List UInt8) (w : World) (hx : x.length <= 1048576) (hE : Gd w) :
  Calls Tryz.prog 105 #[.string (aU x)] w fun e w' => ∃ ev, e = .returned (.tuple #[.int .i64 (ql x).1, ev]) /\ ((ql x).2 = true /\ ev = .nilIface ∨ (ql x).2 = false /\ ∃ N, ev = .iface (b9.t 168) (.pointer (some ⟨N, 0, none⟩))) /\ Below w.heap.size w w' := by
 have hs : (aU x).size = x.length := by rw [Lib.size_eq, eE]
 obtain ⟨⟨⟨t1, p1, h1⟩, k1⟩, ⟨t2, p2, h2⟩, k2⟩ := hE; unfold ql; cases h : Lib.atoiAll x with
 | ok v =>
  refine (Any.strconv_Atoi_ok Ba (aU x) (by omega) v (by rw [eE]; exact h) w).mono ?_; rintro e w1 ⟨rfl, hw⟩; refine ⟨_, rfl, Or.inl ⟨rfl, rfl⟩, ?_⟩; rcases hw with rfl | ⟨t, rfl⟩
  ·exact rB
  ·exact bytesWorld_below _ _ _
 | range =>
  refine (Any.strconv_Atoi_range_var Ba (aU x) (by omega) (by rw [eE]; exact h) t2 p2 w h2).mono ?_; rintro e w1 ⟨N, rfl, _, _, hb⟩; exact ⟨_, by rw [eE], Or.inr ⟨rfl, N, rfl⟩, hb⟩
 | _ =>
  refine (Any.strconv_Atoi_syntax_var Ba (aU x) (by omega) (by rw [eE]; exact h) t1 p1 w h1).mono ?_; rintro e w1 ⟨N, rfl, _, _, hb⟩; exact ⟨_, rfl, Or.inr ⟨rfl, N, rfl⟩, hb⟩
def b7 (l : List (List UInt8)) : Int × Bool := ((ql (fB l).1).1, (fB l).2 && (ql (fB l).1).2)
theorem yi {l : List (List UInt8)} (h : ∀ (j : Nat) x, l[j]? = some x -> x.length <= 1048576) : (fB l).1.length <= 1048576 := by
 cases l with
 | nil => exact Nat.zero_le _
 | cons x l =>
  have := h 0 x rfl; cases hd : tT x <;> simp [fB, hd] <;> omega
theorem qh.lens {w : World} {A : Nat} {l : List (List UInt8)} {b : Bool} (h : qh w A l b) : ∀ (j : Nat) x, l[j]? = some x -> x.length <= 1048576 := by
 obtain ⟨p, c, hb, hc, hw⟩ := h; exact fun j x hx => (hw j x hx).1
theorem yj (A : Nat) (l : List (List UInt8)) (b : Bool) (w : World) (h : qh w A l b) (hE : Gd w) (hA : ∀ w', aw [A] w w' -> Gd w') :
  Calls Tryz.prog 82 #[.pointer (some ⟨A, 0, none⟩)] w fun e w' => e = .returned (.int .i64 (b7 l).1) /\ qh w' A l.tail (b || !(b7 l).2) /\ aw [A] w w' := by
 have HC := Hm (yh A l b w h); have hL := yi h.lens; unfold b7; have Zs : Hid (∀ w1, Gd w1 -> Calls Tryz.prog 105 #[.string (aU (fB l).1)] w1 fun e w' => ∃ ev, e = .returned (.tuple #[.int .i64 (ql (fB l).1).1, ev]) /\ ((ql (fB l).1).2 = true /\ ev = .nilIface ∨ (ql (fB l).1).2 = false /\ ∃ N, ev = .iface (b9.t 168) (.pointer (some ⟨N, 0, none⟩))) /\ Below w1.heap.size w1 w') := fun w1 h1 => KQ _ w1 hL h1
 have HA := Hm hA; generalize hy : (ql (fB l).1).1 = y at *; generalize hz : (ql (fB l).1).2 = z at *; clear hy hz; rcases qi l with ⟨hv, hN, hD⟩ | ⟨x, hv, hN, hD⟩ | ⟨x, hv, hN, hD⟩
 all_goals
  rw [hD] at Zs ⊢; have HV := Hm hv; have r0 := Gb; have r1 := KP; have r2 := Gc; clear hN hD hv h hL hA; go_enter Tryz.func82, Tryz.ntmps82; go_wp2_with fail; refine HC.out.mono ?_; rintro e w1 ⟨rfl, hr1, qU⟩; rw [HV.out]; go_wp2_with fail; refine (Zs.out w1 (HA.out w1 qU)).mono ?_; rintro e w2 ⟨ev, rfl, hev, hb2⟩; rcases hev with ⟨rfl, rfl⟩ | ⟨rfl, N, rfl⟩
  all_goals
   go_wp2_with fail; refine (lw A l.tail b _ w2 (hr1.below hb2)).mono ?_; rintro e w3 ⟨rfl, hr3, ht3⟩; go_wp2_with fail; go_ret; exact ⟨rfl, hr3, (qU.trans (aw.bz hb2)).trans ht3⟩
end Go.Proofs.YtcamcgfbljhbhaaGreatDoor

namespace Go.Proofs.YtcamcgfbljhbhaaGreatDoor
open Go.RowKit
structure Ls (b : UInt8) (l : List UInt8) (D : List (List UInt8)) (fr i : Nat) : Prop where
 le : fr <= i
 il : i <= l.length
 eq : fN b l = D ++ fN b (l.drop fr)
 no : b ∉ (l.drop fr).take (i - fr)
section
variable {b : UInt8} {l : List UInt8} {D : List (List UInt8)} {fr i : Nat}
theorem Ls.start (b : UInt8) (l : List UInt8) : Ls b l [] 0 0 := ⟨rN, Nat.zero_le _, rfl, by simp⟩
theorem drop_at (h : fr <= i) (hi : i < l.length) : l.drop fr = (l.drop fr).take (i - fr) ++ l[i] :: l.drop (i + 1) := by
 have h1 : i - fr < (l.drop fr).length := by rw [List.length_drop]; omega
 have h2 := List.take_append_drop (i - fr) (l.drop fr); rw [List.drop_drop, show fr + (i - fr) = i by omega] at h2; rw [List.drop_eq_getElem_cons hi] at h2; exact h2.symm
theorem Ls.skip (h : Ls b l D fr i) (hi : i < l.length) (hne : l[i] ≠ b) : Ls b l D fr (i + 1) := by
 refine ⟨by have := h.le; omega, hi, h.eq, ?_⟩; have h1 : i - fr < (l.drop fr).length := by rw [List.length_drop]; have := h.le; omega
 rw [show i + 1 - fr = (i - fr) + 1 by have := h.le; omega, List.take_succ_eq_append_getElem h1]; intro hm; rcases List.mem_append.1 hm with hm | hm
 ·exact h.no hm
 ·rw [List.mem_singleton, List.getElem_drop] at hm
  have e : fr + (i - fr) = i := by have := h.le; omega
  simp only [e] at hm; exact hne hm.symm
theorem Ls.cut (h : Ls b l D fr i) (hi : i < l.length) (he : l[i] = b) : Ls b l (D ++ [(l.drop fr).take (i - fr)]) (i + 1) (i + 1) := by
 refine ⟨rN, hi, ?_, by simp⟩; have h2 := h.eq; rw [drop_at h.le hi, he, fg h.no] at h2; rw [h2, List.append_assoc]; rfl
theorem Ls.fin (h : Ls b l D fr l.length) : fN b l = D ++ [(l.drop fr).take (l.length - fr)] := by
 have h1 : (l.drop fr).take (l.length - fr) = l.drop fr := List.take_of_length_le (by rw [List.length_drop]; omega); have h2 := h.no; rw [h1] at h2 ⊢; rw [h.eq, mN h2]
end
end Go.Proofs.YtcamcgfbljhbhaaGreatDoor

namespace Go.Proofs.YtcamcgfbljhbhaaGreatDoor
open Go.RowKit Go.Maps
theorem KR (w : World) (x : Int) : (convert 22 9 (.slice (some ⟨w.heap.size, 0, none⟩) 1 1)).run Tryz.prog (w.alloc (.cells #[.int .u8 x] 5)) = .ok (.string (strOfNums [x])) (w.alloc (.cells #[.int .u8 x] 5)) :=
 run_convert_bytes_arg _ 22 5 Tryz.underlying22 Tryz.underlying5 w.heap.size 0 1 1 [x] rfl (fun i hi => by
  have h0 : i = 0 := by omega
  subst h0; simp) 9 Tryz.underlying9
theorem Iq {w : World} {g : Nat} {x : Int} (h : w.cell? ⟨g, 0, none⟩ = some (.int .u8 x)) : (convert 22 9 (.slice (some ⟨g, 0, none⟩) 1 1)).run Tryz.prog w = .ok (.string (strOfNums [x])) w :=
 run_convert_bytes_arg _ 22 5 Tryz.underlying22 Tryz.underlying5 g 0 1 1 [x] rfl (fun i hi => by
  have h0 : i = 0 := by omega
  subst h0
  simpa using h) 9 Tryz.underlying9
theorem Ge {x : Int} : strOfNums [x] = aU [UInt8.ofNat x.toNat] := rfl
theorem mO : ∀ (f : Nat) (n : Int) (w : World), 0 <= n -> n.toNat < f -> n <= 100000 ->
  Calls Tryz.prog 68 #[.int .i64 n] w fun e w' => e = .returned (.string (aU (cw n))) /\ Below w.heap.size w w'
 | 0, n, w, h0, h1, h2 => by omega
 | f + 1, n, w, h0, h1, h2 => by
  by_cases hlt : n < 10
  ·have HV : Hid (strOfNums [48 + n] = aU (cw n)) := by show _ = _; rw [Ge, EC h0 hlt]; congr 3; omega
   have hcv := KR w (48 + n); have di : IntKind.u8.wrap (48 + n) = 48 + n := by rw [IntKind.wrap_u8]; omega
   rw [HV.out] at hcv; go_enter Tryz.func68, Tryz.ntmps68; go_wp2_with fail; go_ret; exact ⟨rfl, rB.alloc rN _⟩
  ·have ih := fun W => mO f (n / 10) W (by omega) (by omega) (by omega)
   have hd := iM (n := n / 10) (by omega)
   have HV : Hid (aU (cw (n / 10)) ++ strOfNums [48 + n % 10] = aU (cw n)) := by
    show _ = _; rw [Ge, p9, KA (n := n) (by omega), show (48 + n % 10).toNat = 48 + (n % 10).toNat by omega]
   have hz1 : (aU (cw (n / 10))).size <= 100001 := by rw [fE]; exact hd
   have hz2 : (strOfNums [48 + n % 10]).size = 1 := strOfNums_size _; have hcv := fun (W : World) (g : Nat) (h : W.cell? ⟨g, 0, none⟩ = some (.int .u8 (48 + n % 10))) => Iq h
   have e1 : n.tdiv 10 = n / 10 := Int.tdiv_eq_ediv_of_nonneg h0; have e2 : n.tmod 10 = n % 10 := Int.tmod_eq_emod_of_nonneg h0; have hw0 : IntKind.i64.wrap (n / 10) = n / 10 := by rw [IntKind.wrap_i64]; omega
   have hw3 : IntKind.i64.wrap (n % 10) = n % 10 := by rw [IntKind.wrap_i64]; omega
   have hw4 : IntKind.i64.wrap (48 + n % 10) = 48 + n % 10 := by rw [IntKind.wrap_i64]; omega
   have di : IntKind.u8.wrap (48 + n % 10) = 48 + n % 10 := by rw [IntKind.wrap_u8]; omega
   generalize aU (cw (n / 10)) = s1 at *; generalize strOfNums [48 + n % 10] = s2 at *; go_enter Tryz.func68, Tryz.ntmps68; go_wp2_with fail
   go_region_with (go_at_call 68; refine (ih _).mono ?_; rintro e w1 ⟨rfl, hx1⟩; have hc1 := fun hs => hx1.cell (p := ⟨w.heap.size, 0, none⟩) hs)
   all_goals
    have hx2 := Hm hx1; clear hx1 hc1 hcv ih; go_wp2_with fail; go_ret; refine ⟨by rw [HV.out]; rfl, ?_⟩; have hx1 := hx2.out
    first | exact af (Below.drew rB) (hx1.alloc hx1.size _) | exact Below.alloc (af (Below.drew rB) hx1) hx1.size _ | exact af (rB.alloc rN _) hx1 | exact af (Below.drew (rB.alloc rN _)) hx1
theorem rG (cs : List Value) (m : aK) (w : World) (hr : ct w.heap.size w cs m) (hw : fP m <= 1048576) :
  Calls Tryz.prog 27 #[.agg cs.toArray] w fun e w' => e = .returned (.string (cH m)) /\ Below w.heap.size w w' := by
 have rC := Hm hr; have Xv := Hm hw; obtain ⟨a0, c0, rfl, EB, A0, hL, _⟩ := hr; have HL := Hm hL; obtain ⟨l, hl⟩ : ∃ l, l = m.aD := ⟨_, rfl⟩
 obtain ⟨n, hx⟩ : ∃ n, n = l.length := ⟨_, rfl⟩
 have hn : n <= 1048576 := by have h : m.aD.length + aP kw m.aD <= 1048576 := hw; rw [hx, hl]; omega
 have HSW : Hid (aP kw l <= 1048576) := by show _ <= _; have h : m.aD.length + aP kw m.aD <= 1048576 := hw; rw [hl]; omega
 have PZ := Hm hl; rw [<- hl] at HL ⊢; have P0 : Hid (ct w.heap.size w [.int .i64 m.ah, .int .i64 m.ce, .slice a0 n c0] m) := by have h := rC.out; rw [<- hl, <- hx] at h; exact h
 rw [<- hx]; have HX := Hm hx.symm; clear hL hw hl hx EB A0 rC; go_enter Tryz.func27, Tryz.ntmps27; obtain ⟨wq, bI⟩ : ∃ wq, wq = w.alloc (.cells #[.int .i64 m.ah, .int .i64 m.ce, .slice a0 n c0] 30) := ⟨_, rfl⟩
 have kH : Below w.heap.size w wq := by rw [bI]; exact rB.alloc rN _
 have cg : Bx wq w.heap.size [.int .i64 m.ah, .int .i64 m.ce, .slice a0 n c0] := by rw [bI]; exact Bx.new _ _ _
 have y0 := cg.2 0 _ rfl; have y1 := cg.2 1 _ rfl; have y2 := cg.2 2 _ rfl; have hz := cg.1; go_wp2_with (rw [<- bI]); refine (nC [.int .i64 m.ah, .int .i64 m.ce, .slice a0 n c0] m wq (aR.mono (aR.below P0.out kH) kH.size) Xv.out).mono ?_; rintro e wm ⟨rfl, Ap⟩; have hb1 := af kH Ap
 by_cases mW : bO m = true
 rotate_left
 ·have KG := Bool.eq_false_iff.2 mW
  have HD := Hm (nD KG); rw [KG]; go_wp2_with fail; go_ret; exact ⟨by rw [HD.out]; rfl, hb1⟩
 have HF := Hm (kh mW); have HD := Hm (kg mW); rw [mW]; obtain ⟨HT, UZ⟩ : ∃ x : List UInt8, Hid (x = gM m ++ [10]) := ⟨_, Hm rfl⟩
 have uD : Hid (cH m = aU (HT ++ dr l ++ [101, 110, 100, 10])) := by show _ = _; rw [HD.out, UZ.out, PZ.out]; apply xZ; simp [fq, ia]
 have hhl : HT.length <= 300001 := by rw [UZ.out, List.length_append]; have h := zZ HF.out; simp; omega
 have KH : n <= 20 := by rw [<- HX.out, PZ.out]; exact HF.out.len
 have P1 : 0 <= m.ah := by have := HF.out.UU; omega
 have zf : m.ah <= 100000 := HF.out.Ij; have P2 : 0 <= m.ce := HF.out.UV; have KI : m.ce <= 100000 := by have := HF.out.Q3; omega
 have hE : Hid (∀ t, t ∈ l -> mL m.ah t) := by rw [PZ.out]; exact HF.out.each
 have q0 : ∀ W, Below wm.heap.size wm W -> W.cell? ⟨w.heap.size, 0, none⟩ = some (.int .i64 m.ah) := fun W hb => ((cg.under Ap).under hb).2 0 _ rfl
 have q1 : ∀ W, Below wm.heap.size wm W -> W.cell? ⟨w.heap.size, 1, none⟩ = some (.int .i64 m.ce) := fun W hb => ((cg.under Ap).under hb).2 1 _ rfl
 have q2 : ∀ W, Below wm.heap.size wm W -> W.cell? ⟨w.heap.size, 2, none⟩ = some (.slice a0 n c0) := fun W hb => ((cg.under Ap).under hb).2 2 _ rfl
 have xp := fun W => mO (m.ah.toNat + 1) m.ah W P1 (by omega) zf
 have nt := fun W => mO (m.ce.toNat + 1) m.ce W P2 (by omega) KI
 obtain ⟨d1, gV⟩ : ∃ d, Hid (d = aU (cw m.ah)) := ⟨_, rfl⟩
 obtain ⟨d2, iZ⟩ : ∃ d, Hid (d = aU (cw m.ce)) := ⟨_, rfl⟩
 have sG : d1.size <= 100001 := by rw [gV.out, fE]; exact iM zf
 have vg : d2.size <= 100001 := by rw [iZ.out, fE]; exact iM KI
 rw [<- gV.out] at xp; rw [<- iZ.out] at nt
 have HH : Hid ((⟨#[110, 101, 120, 116, 32]⟩ : ByteArray) ++ d1 ++ ⟨#[32, 108, 111, 103, 32]⟩ ++ d2 ++ ⟨#[10]⟩ = aU HT) := by
  show _ = _; rw [gV.out, iZ.out, UZ.out, show (⟨#[110, 101, 120, 116, 32]⟩ : ByteArray) = aU vy from rfl, show (⟨#[32, 108, 111, 103, 32]⟩ : ByteArray) = aU CF from rfl, show (⟨#[10]⟩ : ByteArray) = aU [10] from rfl]; simp only [p9, gM]
 clear HF HD UZ mW y0 y1 y2 bI; have n1 : (9223372036854775807 < 5 + d1.size) = False := eq_false (by omega); have n2 : (9223372036854775807 < 5 + d1.size + 5) = False := eq_false (by omega); have n3 : (9223372036854775807 < 5 + d1.size + 5 + d2.size) = False := eq_false (by omega); have n4 : (9223372036854775807 < 5 + d1.size + 5 + d2.size + 1) = False := eq_false (by omega); go_wp2_with fail; refine kz wm (fun hZ => ?_); refine uq 0 ?_; refine uq 1 ?_; refine uq 5 ?_; refine uq 6 ?_; refine bf 2 rfl fun K hK => ?_
 go_simp; refine Calls.mono (xp _) ?_; rintro e w1 ⟨rfl, hx1⟩; go_wp2_with fail; refine aL hK (af hZ hx1) (fun hZ => ?_); clear hK K; refine uq 3 ?_; refine uq 4 ?_; refine bf 7 rfl fun K hK => ?_
 go_simp; refine Calls.mono (nt _) ?_; rintro e w2 ⟨rfl, hx2⟩; go_wp2_with fail; refine aL hK (af hZ hx2) (fun hZ => ?_); clear hK K; refine uq 8 ?_; refine uq 9 ?_; refine uq 10 ?_; refine dC ?_; rw [HH.out]; clear HH n1 n2 n3 n4 xp nt; go_wp2_with fail; obtain ⟨wa, gY⟩ : ∃ x, x = w2 := ⟨_, rfl⟩
 have jL : Below wm.heap.size wm wa := by rw [gY]; exact hZ
 rw [<- gY]; clear hZ gY
 go_loopw [3, 4] (fun v i wr => ∃ k : Nat, k <= n /\ i = .int .i64 k /\ v = .string (aU (HT ++ dr (l.take k))) /\ Below wm.heap.size wm wr) (fun _ i _ => n - (intOf i).toNat)
 case atStart => exact ⟨0, Nat.zero_le _, rfl, by simp [dr], jL⟩
 case round =>
  obtain ⟨k, hk, rfl, rfl, bF⟩ := hrel; have tA := af hb1 bF; have eI := tA.size; have y2 := q2 _ bF; have oA : w.heap.size < wr.heap.size := Nat.lt_of_lt_of_le hz (Nat.le_trans Ap.size bF.size)
  have iw : (dr (l.take k)).length <= 20 * 300001 := by
   have h := ya (l := l.take k) (fun t ht => hE.out t (List.mem_of_mem_take ht)) zf; have h2 : (l.take k).length <= 20 := by rw [List.length_take]; omega
   exact Nat.le_trans h (Nat.mul_le_mul_right _ h2)
  have hcu : (aU (HT ++ dr (l.take k))).size <= 6300021 := by rw [fE, List.length_append]; omega
  by_cases hlt : k < n
  ·have gH : k < l.length := by rw [HX.out]; exact hlt
   obtain ⟨b1, o1, rfl, hB, cs, iw, hcell, rfl, g0, g1, g2, g3, _⟩ := (HL.out.2.2.below fe tA) k gH; have Qx : b1 < wr.heap.size := by omega
   have k0 := hcell 0 _ rfl; have k1 := hcell 1 _ rfl; have k2 := hcell 2 _ rfl; have k3 := hcell 3 _ rfl; rw [Nat.add_zero] at k0; have hM := hE.out l[k] (List.getElem_mem gH); have gZ := Hm (CG gH); obtain ⟨x, Kp⟩ : ∃ x, x = l[k] := ⟨_, rfl⟩
   rw [<- Kp] at k0 k1 k2 k3 g0 g1 g2 g3 gZ hM; clear hcell iw Kp; obtain ⟨wp, mG⟩ : ∃ wp, wp = wr.alloc (.cells #[.int .i64 x.fD, .int .i64 x.aN, .string x.eo, .string x.em] 50) := ⟨_, rfl⟩
   have ll : Below wr.heap.size wr wp := by rw [mG]; exact rB.alloc rN _
   have ot : Bx wp wr.heap.size [.int .i64 x.fD, .int .i64 x.aN, .string x.eo, .string x.em] := by rw [mG]; exact Bx.new _ _ _
   have oY := af bF ll; have p0 : ∀ W, Below wp.heap.size wp W -> W.cell? ⟨wr.heap.size, 0, none⟩ = some (.int .i64 x.fD) := fun W hb => (ot.under hb).2 0 _ rfl
   have p1 : ∀ W, Below wp.heap.size wp W -> W.cell? ⟨wr.heap.size, 1, none⟩ = some (.int .i64 x.aN) := fun W hb => (ot.under hb).2 1 _ rfl
   have p2 : ∀ W, Below wp.heap.size wp W -> W.cell? ⟨wr.heap.size, 2, none⟩ = some (.string x.eo) := fun W hb => (ot.under hb).2 2 _ rfl
   have p3 : ∀ W, Below wp.heap.size wp W -> W.cell? ⟨wr.heap.size, 3, none⟩ = some (.string x.em) := fun W hb => (ot.under hb).2 3 _ rfl
   have S9 : x.fD <= 100000 := by have := hM.Q1; omega
   have Ta : x.aN <= 100000 := by have := hM.Q2; omega
   have Xz : 0 <= x.fD := by have := hM.UR; omega
   have xp := fun W => mO (x.fD.toNat + 1) x.fD W Xz (by omega) S9
   have nt := fun W => mO (x.aN.toNat + 1) x.aN W hM.UT (by omega) Ta
   have N0 := fun W => Aa x.eo W (Nat.le_trans hM.lo (by omega))
   have S5 := fun W => Aa x.em W (Nat.le_trans hM.hi (by omega))
   obtain ⟨d1, gV⟩ : ∃ d, Hid (d = aU (cw x.fD)) := ⟨_, Hm rfl⟩
   obtain ⟨d2, iZ⟩ : ∃ d, Hid (d = aU (cw x.aN)) := ⟨_, Hm rfl⟩
   obtain ⟨d3, Ht⟩ : ∃ d, Hid (d = aU (eF x.eo)) := ⟨_, Hm rfl⟩
   obtain ⟨d4, ub⟩ : ∃ d, Hid (d = aU (eF x.em)) := ⟨_, Hm rfl⟩
   have sG : d1.size <= 100001 := by rw [gV.out, fE]; exact iM S9
   have vg : d2.size <= 100001 := by rw [iZ.out, fE]; exact iM Ta
   have Dq : d3.size <= 40 := by rw [Ht.out, fE, lq]; have := hM.lo; omega
   have Oo : d4.size <= 40 := by rw [ub.out, fE, lq]; have := hM.hi; omega
   rw [<- gV.out] at xp; rw [<- iZ.out] at nt; rw [<- Ht.out] at N0; rw [<- ub.out] at S5; obtain ⟨cu, XA⟩ : ∃ c, Hid (c = aU (HT ++ dr (l.take k))) := ⟨_, Hm rfl⟩
   have HE : Hid (cu ++ (⟨#[116, 97, 98, 32]⟩ : ByteArray) ++ d1 ++ ⟨#[32]⟩ ++ d2 ++ ⟨#[32]⟩ ++ d3 ++ ⟨#[32]⟩ ++ d4 ++ ⟨#[10]⟩ = aU (HT ++ dr (l.take (k + 1)))) := by
    show _ = _; rw [XA.out, gZ.out, gV.out, iZ.out, Ht.out, ub.out, show (⟨#[116, 97, 98, 32]⟩ : ByteArray) = aU [116, 97, 98, 32] from rfl, show (⟨#[32]⟩ : ByteArray) = aU [32] from rfl, show (⟨#[10]⟩ : ByteArray) = aU [10] from rfl]; simp only [p9]; apply xZ; simp [eR, m9]
   rw [<- XA.out] at hcu ⊢; have n1 : (9223372036854775807 < cu.size + 4) = False := eq_false (by omega); have n2 : (9223372036854775807 < cu.size + 4 + d1.size) = False := eq_false (by omega); have n3 : (9223372036854775807 < cu.size + 4 + d1.size + 1) = False := eq_false (by omega); have n4 : (9223372036854775807 < cu.size + 4 + d1.size + 1 + d2.size) = False := eq_false (by omega); have n5 : (9223372036854775807 < cu.size + 4 + d1.size + 1 + d2.size + 1) = False := eq_false (by omega); have n6 : (9223372036854775807 < cu.size + 4 + d1.size + 1 + d2.size + 1 + d3.size) = False := eq_false (by omega); have n7 : (9223372036854775807 < cu.size + 4 + d1.size + 1 + d2.size + 1 + d3.size + 1) = False := eq_false (by omega); have n8 : (9223372036854775807 < cu.size + 4 + d1.size + 1 + d2.size + 1 + d3.size + 1 + d4.size) = False := eq_false (by omega); have n9 : (9223372036854775807 < cu.size + 4 + d1.size + 1 + d2.size + 1 + d3.size + 1 + d4.size + 1) = False := eq_false (by omega); clear hM gZ gV iZ Ht ub XA; go_wp2_with fail; rw [<- mG]; clear mG; refine kz wp (fun hZ => ?_); refine uq 0 ?_; refine uq 1 ?_; refine uq 2 ?_; refine uq 3 ?_; refine uq 7 ?_; refine uq 8 ?_; refine uq 12 ?_; refine uq 13 ?_; refine uq 17 ?_; refine uq 18 ?_; refine bf 4 rfl fun K hK => ?_
   go_simp; refine Calls.mono (xp _) ?_; rintro e w1 ⟨rfl, hx1⟩; go_wp2_with fail; refine aL hK (af hZ hx1) (fun hZ => ?_); clear hK K; refine uq 5 ?_; refine uq 6 ?_; refine bf 9 rfl fun K hK => ?_
   go_simp; refine Calls.mono (nt _) ?_; rintro e w2 ⟨rfl, hx2⟩; go_wp2_with fail; refine aL hK (af hZ hx2) (fun hZ => ?_); clear hK K; refine uq 10 ?_; refine uq 11 ?_; refine bf 14 rfl fun K hK => ?_
   go_simp; refine Calls.mono (N0 _) ?_; rintro e w3 ⟨rfl, hx3⟩; go_wp2_with fail; refine aL hK (af hZ hx3) (fun hZ => ?_); clear hK K; refine uq 15 ?_; refine uq 16 ?_; refine bf 19 rfl fun K hK => ?_
   go_simp; refine Calls.mono (S5 _) ?_; rintro e w4 ⟨rfl, mX⟩; go_wp2_with fail; refine aL hK (af hZ mX) (fun hZ => ?_); clear hK K; refine uq 20 ?_; refine uq 21 ?_; refine uq 22 ?_; refine dC ?_; rw [HE.out]; clear HE n1 n2 n3 n4 n5 n6 n7 n8 n9 xp nt N0 S5; go_wp2_with fail
   go_roundw
   case rel => exact ⟨k + 1, by omega, by go_num, rfl, af oY hZ⟩
   case measure => simp [intOf]; omega
  ·have Ej : Hid (l.take k = l) := List.take_of_length_le (by rw [HX.out]; omega)
   have HE : Hid (aU (HT ++ dr (l.take k)) ++ (⟨#[101, 110, 100, 10]⟩ : ByteArray) = cH m) := by
    show _ = _; rw [Ej.out, uD.out, show (⟨#[101, 110, 100, 10]⟩ : ByteArray) = aU [101, 110, 100, 10] from rfl, p9]
   have n1 : (9223372036854775807 < (aU (HT ++ dr (l.take k))).size + 4) = False := eq_false (by omega); generalize aU (HT ++ dr (l.take k)) = cu at *; go_wp2_with fail; go_ret; exact ⟨by rw [HE.out]; rfl, tA⟩
end Go.Proofs.YtcamcgfbljhbhaaGreatDoor

namespace Go.Proofs.YtcamcgfbljhbhaaGreatDoor
open Go.RowKit
theorem Ir (s : ByteArray) : s.data.toList.length = s.size := by rw [Array.length_toList]; rfl
def P5 (l : List UInt8) : Value := .string (aU l)
def qN (l : List UInt8) : List Int := l.map fun b => ((b.toNat : Nat) : Int)
theorem wu (l : List UInt8) : strOfNums (qN l) = aU l := by
 rw [zX]
 congr 1
 unfold qN; rw [List.map_map]
 conv => rhs; rw [<- List.map_id l]
 apply List.map_congr_left; intro b _; simp
end Go.Proofs.YtcamcgfbljhbhaaGreatDoor

namespace Go.Proofs.YtcamcgfbljhbhaaGreatDoor
open Go.RowKit Go.Maps Go.Shelf
def uL (b : UInt8) : Int := Lib.indexByte vS b
def fh : List UInt8 -> List UInt8
 | a :: b :: r => UInt8.ofNat ((uL a * 16 + uL b) % 256).toNat :: fh r
 | _ => []
theorem jG (b : UInt8) : -1 <= uL b /\ uL b <= 15 := by
 have h : ∀ i : Fin 256, -1 <= uL (UInt8.ofNat i.val) /\ uL (UInt8.ofNat i.val) <= 15 := by decide +kernel
 have h2 := h ⟨b.toNat, b.toNat_lt⟩
 rwa [UInt8.ofNat_toNat] at h2
theorem qm : ∀ (k : Nat) (l : List UInt8), (h : 2 * k + 1 < l.length) -> fh (l.take (2 * k + 2)) = fh (l.take (2 * k)) ++ [UInt8.ofNat ((uL l[2 * k] * 16 + uL l[2 * k + 1]) % 256).toNat]
 | 0, a :: b :: r, h => by simp [fh]
 | k + 1, a :: b :: r, h => by
  have h1 : 2 * k + 1 < r.length := by simp at h; omega
  have h2 := qm k r h1
  have e1 : (a :: b :: r).take (2 * (k + 1) + 2) = a :: b :: r.take (2 * k + 2) := by
   rw [show 2 * (k + 1) + 2 = (2 * k + 2) + 1 + 1 by omega, List.take_succ_cons, List.take_succ_cons]
  have e2 : (a :: b :: r).take (2 * (k + 1)) = a :: b :: r.take (2 * k) := by
   rw [show 2 * (k + 1) = (2 * k) + 1 + 1 by omega, List.take_succ_cons, List.take_succ_cons]
  rw [e1, e2]; simp only [fh, h2, List.cons_append]
  congr 2
 | 0, [], h => by simp at h
 | 0, [a], h => by simp at h
 | k + 1, [], h => by simp at h
 | k + 1, [a], h => by simp at h
theorem ww (k : Nat) (l : List UInt8) (h : ¬ 2 * k + 1 < l.length) (h2 : 2 * k <= l.length) : fh (l.take (2 * k)) = fh l := by
 have key : ∀ (k : Nat) (l : List UInt8), 2 * k <= l.length -> l.length <= 2 * k + 1 -> fh (l.take (2 * k)) = fh l := by
  intro k
  induction k with
  | zero =>
   intro l h1 h2
   match l, h2 with
   | [], _ => rfl
   | [a], _ => rfl
  | succ k ih =>
   intro l h1 h2
   match l, h1 with
   | a :: b :: r, h1 =>
    rw [show 2 * (k + 1) = (2 * k) + 1 + 1 by omega, List.take_succ_cons, List.take_succ_cons]; simp only [fh]; rw [ih r (by simp at h1; omega) (by simp at h2; omega)]
 exact key k l h2 (by omega)
theorem pd : ∀ (n : Nat) (l : List UInt8), l.length <= n -> (fh l).length <= l.length
 | 0, [], _ => rN
 | n + 1, [], _ => rN
 | n + 1, [a], _ => by simp [fh]
 | n + 1, a :: b :: r, h => by
  have := pd n r (by simp at h; omega); simp only [fh, List.length_cons]; omega
theorem qo (b : UInt8) (w : World) :
  Calls Tryz.prog 106 #[.string ⟨#[48, 49, 50, 51, 52, 53, 54, 55, 56, 57, 97, 98, 99, 100, 101, 102]⟩, .int .u8 ((b.toNat : Nat) : Int)] w fun e w' => e = .returned (.int .i64 (uL b)) /\ w' = w := by
 refine (Any.strings_IndexByte A9 ⟨vS.toArray⟩ ((b.toNat : Nat) : Int) w).mono ?_; rintro e w1 ⟨rfl, rfl⟩; refine ⟨?_, rfl⟩; have e1 : (((b.toNat : Nat) : Int).toNat).toUInt8 = b := by rw [Int.toNat_natCast]; exact UInt8.ofNat_toNat
 rw [e1]; rfl
theorem KS (x : List UInt8) (k : Nat) (W : World) (h : k < x.length) : (Instr.index 137 (.string (aU x)) (.int .i64 k)).run Tryz.prog W = .ok (.int .u8 ((x[k].toNat : Nat) : Int)) W := by
 have hs : (aU x).size = x.length := by rw [Lib.size_eq, eE]
 rw [run_index_string W 137 _ .i64 _ Tryz.underlying137, dif_pos ⟨by omega, by omega⟩]
 congr 3
theorem MP (l : List (List UInt8)) (w : World) : (Instr.typeAssert (vC l) 20 137 true).run Tryz.prog w = .ok (.tuple #[.string (aU (fB l).1), .bool (fB l).2]) w := by
 rcases qi l with ⟨hv, hN, hD⟩ | ⟨x, hv, hN, hD⟩ | ⟨x, hv, hN, hD⟩
 ·rw [hv, hD]; exact Gc w
 ·rw [hv, hD]; exact Gb _ w
 ·rw [hv, hD]; exact KP _ w
def fj (l : List (List UInt8)) : List UInt8 × Bool := (fh (fB l).1, (fB l).2 && decide ((fB l).1.length % 2 = 0))
theorem Gf (A : Nat) (l : List (List UInt8)) (b : Bool) (w : World) (h : qh w A l b) :
  Calls Tryz.prog 83 #[.pointer (some ⟨A, 0, none⟩)] w fun e w' => e = .returned (.string (aU (fj l).1)) /\ qh w' A l.tail (b || !(fj l).2) /\ aw [A] w w' := by
 obtain ⟨i0, IR⟩ := info_parts Tryz.wI; have HI := Hm IR; clear IR; have HC := Hm (yh A l b w h); have hL := yi h.lens; unfold fj; have r0 := MP l; generalize vC l = nv at *; generalize (fB l).1 = x at *; generalize (fB l).2 = ok at *; have BA := Hm (fun (k : Nat) (W : World) (h : k < x.length) => KS x k W h); have hs : (aU x).size = x.length := by rw [Lib.size_eq, eE]
 obtain ⟨s, Zt⟩ : ∃ s, s = aU x := ⟨_, rfl⟩
 rw [<- Zt] at BA hs r0; have AG := Hm hs; rw [<- hs] at hL; have XB : Hid (decide (x.length % 2 = 0) = decide (s.size % 2 = 0)) := by unfold Hid; rw [hs]
 rw [XB.out]; clear h hs Zt; have Tb : Int.tmod (s.size : Int) 2 = ((s.size % 2 : Nat) : Int) := by rw [Int.tmod_eq_emod_of_nonneg (by omega)]; omega
 obtain ⟨pr, Zu, XC⟩ : ∃ pr : Nat, s.size % 2 = pr /\ (pr = 0 ∨ pr = 1) := ⟨_, rfl, by omega⟩
 rw [Zu] at Tb ⊢; clear Zu; rcases XC with rfl | rfl <;> cases ok
 ·go_enter Tryz.func83, Tryz.ntmps83
  go_wp2_with fail; refine HC.out.mono ?_; rintro e w1 ⟨rfl, hr1, qU⟩; go_wp2_with fail; refine (lw A l.tail b _ w1 hr1).mono ?_; rintro e w2 ⟨rfl, hr2, tL⟩; have KT := Hm hr2; have vk := Hm (qU.trans tL); clear hr1 qU hr2 tL Tb r0; go_wp2_with fail
  go_loopw [5, 6] (fun v i wr => ∃ k : Nat, 2 * k <= s.size /\ i = .int .i64 ((2 * k + 1 : Nat) : Int) /\ wr.ownsRow w2.heap.size 5 1 v (qN (fh (x.take (2 * k)))).length ((qN (fh (x.take (2 * k)))).map (Value.int .u8)) /\ Below w2.heap.size w2 wr) (fun _ i _ => s.size + 2 - (intOf i).toNat)
  case atStart => exact ⟨0, Nat.zero_le _, rfl, ⟨rfl, .inl ⟨rfl, rfl⟩⟩, rB⟩
  case round =>
   obtain ⟨k, hk, rfl, hown, bF⟩ := hrel
   by_cases hlt : 2 * k + 1 < s.size
   ·have gH : 2 * k + 1 < x.length := by rw [<- AG.out]; exact hlt
    have hat := fun W => BA.out (2 * k) W (by omega)
    have pg := fun W => BA.out (2 * k + 1) W gH
    have HZ : Hid (qN (fh (x.take (2 * (k + 1)))) = qN (fh (x.take (2 * k))) ++ [((UInt8.ofNat ((uL x[2 * k] * 16 + uL x[2 * k + 1]) % 256).toNat).toNat : Int)]) := by
     show _ = _; rw [show 2 * (k + 1) = 2 * k + 2 by omega, qm k x gH]; simp [qN]
    have hl2 : (qN (fh (x.take (2 * k)))).length <= 1048576 := by
     have h1 := pd _ (x.take (2 * k)) rN; unfold qN; rw [List.length_map]; rw [List.length_take] at h1; omega
    have yS := Hm (fun W => qo x[2 * k] W); have rv := Hm (fun W => qo x[2 * k + 1] W); have sG := jG x[2 * k]; have vg := jG x[2 * k + 1]; generalize uL x[2 * k] = p1 at *; generalize uL x[2 * k + 1] = p2 at *; generalize x[2 * k].toNat = c1 at *; generalize x[2 * k + 1].toNat = c2 at *; have hv : ((UInt8.ofNat ((p1 * 16 + p2) % 256).toNat).toNat : Int) = (p1 * 16 + p2) % 256 := by rw [UInt8.toNat_ofNat']; omega
    rw [hv] at HZ; have hwr : IntKind.u8.wrap (p1 * 16 + p2) = (p1 * 16 + p2) % 256 := by rw [IntKind.wrap_u8]
    clear hv; generalize qN (fh (x.take (2 * k))) = out at *; generalize P6 : (p1 * 16 + p2) % 256 = xv at *; clear P6; obtain ⟨j, hj⟩ : ∃ j, j = 2 * k := ⟨_, rfl⟩
    have HJ := Hm hj; rw [<- hj] at hat pg hlt ⊢; replace pg : ∀ W, (Instr.index 137 (.string s) (.int .i64 ((j : Int) + 1))).run Tryz.prog W = .ok (.int .u8 ((c2 : Nat) : Int)) W := pg; clear hj; have ur : (j : Int) + 1 < (s.size : Int) := by omega
    have XD : IntKind.i64.wrap (j : Int) = (j : Int) := by rw [IntKind.wrap_i64]; omega
    have hsj : (j : Int) + 1 - 1 = (j : Int) := by omega
    have mG : IntKind.i64.wrap (p1 * 16) = p1 * 16 := by rw [IntKind.wrap_i64]; omega
    have LV : IntKind.i64.wrap (p1 * 16 + p2) = p1 * 16 + p2 := by rw [IntKind.wrap_i64]; omega
    go_wp2_with fail; refine vE (fun W => Below w2.heap.size w2 W) (Below.drew bF) (fun hZ => ?_); refine uq 0 ?_; refine uq 1 ?_; refine uq 2 ?_; refine uq 3 ?_; refine uq 5 ?_; refine uq 6 ?_; refine uq 7 ?_; refine bf 4 rfl fun K hK => ?_
    go_simp; refine (yS.out _).mono ?_; rintro e wa ⟨rfl, gY⟩; have eD : Below w2.heap.size w2 wa := by rw [gY]; exact hZ
    replace gY := gY.symm; subst gY; go_wp2_with fail; go_wp2_with fail; refine aL hK (eD) (fun hZ => ?_); clear hK K; refine bf 8 rfl fun K hK => ?_
    go_simp; refine (rv.out _).mono ?_; rintro e wb ⟨rfl, gj⟩; have dU : Below w2.heap.size w2 wb := by rw [gj]; exact hZ
    replace gj := gj.symm; subst gj; go_wp2_with fail; go_wp2_with fail; refine aL hK (dU) (fun hZ => ?_); clear hK K; refine uq 9 ?_; refine uq 10 ?_; refine dC ?_; obtain ⟨w6, l9⟩ : ∃ q, q = (wr.alloc (.cells #[Value.int .u8 xv] 5)).drew := ⟨_, rfl⟩
    have eA : Below wr.heap.size wr w6 := by rw [l9]; exact Below.drew (rB.alloc rN _)
    have qd : Bx w6 wr.heap.size [Value.int .u8 xv] := by rw [l9]; exact (Bx.new wr [Value.int .u8 xv] 5)
    have ib := aA hown eA; have rZ := af bF eA; clear hown yS rv hat pg; go_wp2_with (at_builtin; rw [<- l9]; refine wpList_append_own_at _ rfl _ _ 22 rfl w2.heap.size 5 i0 (.int .u8 0) 1 1 Tryz.underlying22 HI.out.1 HI.out.2.1 HI.out.2.2.1 HI.out.2.2.2 rfl (by decide) _ _ _ rfl ib ⟨wr.heap.size, 0, none⟩ 1 1 [.int .u8 xv] rfl rfl (b8 qd) (by intro u hu; simp at hu; subst hu; rfl) (by unfold maxLen; omega) (by omega) rZ.size ?_; intro v7 w7 ki iN qf qg); have FO := rZ.grown iN rZ.size (fun k h => (ib.lt k h).1); have ML : Hid (w7.ownsRow w2.heap.size 5 1 v7 (out ++ [xv]).length ((out ++ [xv]).map (Value.int .u8))) := cM ki (by simp) (by simp); clear ib ki iN qf qg l9 qd; go_wp2_with fail
    go_roundw
    case rel => exact ⟨k + 1, by have := HJ.out; omega, by rw [show (2 * (k + 1) + 1 : Nat) = j + 1 + 2 by have := HJ.out; omega]; rfl, by rw [HZ.out]; exact ML.out, FO⟩
    case measure => simp [intOf]; have := HJ.out; omega
   ·have HU : Hid (fh (x.take (2 * k)) = fh x) := ww k x (by rw [<- AG.out]; exact hlt) (by rw [<- AG.out]; exact hk)
    rw [HU.out] at hown; have hcv := ox hown; rw [wu] at hcv; have hn : ¬ ((2 * k : Nat) : Int) + 1 < (s.size : Int) := by omega
    go_wp2_with fail; go_ret; exact ⟨rfl, by have h9 := KT.out.below bF; simpa using h9, vk.out.trans (aw.bz bF)⟩
 ·go_enter Tryz.func83, Tryz.ntmps83
  go_wp2_with fail; refine HC.out.mono ?_; rintro e w1 ⟨rfl, hr1, qU⟩; go_wp2_with fail; refine (lw A l.tail b _ w1 hr1).mono ?_; rintro e w2 ⟨rfl, hr2, tL⟩; have KT := Hm hr2; have vk := Hm (qU.trans tL); clear hr1 qU hr2 tL Tb r0; go_wp2_with fail
  go_loopw [5, 6] (fun v i wr => ∃ k : Nat, 2 * k <= s.size /\ i = .int .i64 ((2 * k + 1 : Nat) : Int) /\ wr.ownsRow w2.heap.size 5 1 v (qN (fh (x.take (2 * k)))).length ((qN (fh (x.take (2 * k)))).map (Value.int .u8)) /\ Below w2.heap.size w2 wr) (fun _ i _ => s.size + 2 - (intOf i).toNat)
  case atStart => exact ⟨0, Nat.zero_le _, rfl, ⟨rfl, .inl ⟨rfl, rfl⟩⟩, rB⟩
  case round =>
   obtain ⟨k, hk, rfl, hown, bF⟩ := hrel
   by_cases hlt : 2 * k + 1 < s.size
   ·have gH : 2 * k + 1 < x.length := by rw [<- AG.out]; exact hlt
    have hat := fun W => BA.out (2 * k) W (by omega)
    have pg := fun W => BA.out (2 * k + 1) W gH
    have HZ : Hid (qN (fh (x.take (2 * (k + 1)))) = qN (fh (x.take (2 * k))) ++ [((UInt8.ofNat ((uL x[2 * k] * 16 + uL x[2 * k + 1]) % 256).toNat).toNat : Int)]) := by
     show _ = _; rw [show 2 * (k + 1) = 2 * k + 2 by omega, qm k x gH]; simp [qN]
    have hl2 : (qN (fh (x.take (2 * k)))).length <= 1048576 := by
     have h1 := pd _ (x.take (2 * k)) rN; unfold qN; rw [List.length_map]; rw [List.length_take] at h1; omega
    have yS := Hm (fun W => qo x[2 * k] W); have rv := Hm (fun W => qo x[2 * k + 1] W); have sG := jG x[2 * k]; have vg := jG x[2 * k + 1]; generalize uL x[2 * k] = p1 at *; generalize uL x[2 * k + 1] = p2 at *; generalize x[2 * k].toNat = c1 at *; generalize x[2 * k + 1].toNat = c2 at *; have hv : ((UInt8.ofNat ((p1 * 16 + p2) % 256).toNat).toNat : Int) = (p1 * 16 + p2) % 256 := by rw [UInt8.toNat_ofNat']; omega
    rw [hv] at HZ; have hwr : IntKind.u8.wrap (p1 * 16 + p2) = (p1 * 16 + p2) % 256 := by rw [IntKind.wrap_u8]
    clear hv; generalize qN (fh (x.take (2 * k))) = out at *; generalize P6 : (p1 * 16 + p2) % 256 = xv at *; clear P6; obtain ⟨j, hj⟩ : ∃ j, j = 2 * k := ⟨_, rfl⟩
    have HJ := Hm hj; rw [<- hj] at hat pg hlt ⊢; replace pg : ∀ W, (Instr.index 137 (.string s) (.int .i64 ((j : Int) + 1))).run Tryz.prog W = .ok (.int .u8 ((c2 : Nat) : Int)) W := pg; clear hj; have ur : (j : Int) + 1 < (s.size : Int) := by omega
    have XD : IntKind.i64.wrap (j : Int) = (j : Int) := by rw [IntKind.wrap_i64]; omega
    have hsj : (j : Int) + 1 - 1 = (j : Int) := by omega
    have mG : IntKind.i64.wrap (p1 * 16) = p1 * 16 := by rw [IntKind.wrap_i64]; omega
    have LV : IntKind.i64.wrap (p1 * 16 + p2) = p1 * 16 + p2 := by rw [IntKind.wrap_i64]; omega
    go_wp2_with fail; refine vE (fun W => Below w2.heap.size w2 W) (Below.drew bF) (fun hZ => ?_); refine uq 0 ?_; refine uq 1 ?_; refine uq 2 ?_; refine uq 3 ?_; refine uq 5 ?_; refine uq 6 ?_; refine uq 7 ?_; refine bf 4 rfl fun K hK => ?_
    go_simp; refine (yS.out _).mono ?_; rintro e wa ⟨rfl, gY⟩; have eD : Below w2.heap.size w2 wa := by rw [gY]; exact hZ
    replace gY := gY.symm; subst gY; go_wp2_with fail; go_wp2_with fail; refine aL hK (eD) (fun hZ => ?_); clear hK K; refine bf 8 rfl fun K hK => ?_
    go_simp; refine (rv.out _).mono ?_; rintro e wb ⟨rfl, gj⟩; have dU : Below w2.heap.size w2 wb := by rw [gj]; exact hZ
    replace gj := gj.symm; subst gj; go_wp2_with fail; go_wp2_with fail; refine aL hK (dU) (fun hZ => ?_); clear hK K; refine uq 9 ?_; refine uq 10 ?_; refine dC ?_; obtain ⟨w6, l9⟩ : ∃ q, q = (wr.alloc (.cells #[Value.int .u8 xv] 5)).drew := ⟨_, rfl⟩
    have eA : Below wr.heap.size wr w6 := by rw [l9]; exact Below.drew (rB.alloc rN _)
    have qd : Bx w6 wr.heap.size [Value.int .u8 xv] := by rw [l9]; exact (Bx.new wr [Value.int .u8 xv] 5)
    have ib := aA hown eA; have rZ := af bF eA; clear hown yS rv hat pg; go_wp2_with (at_builtin; rw [<- l9]; refine wpList_append_own_at _ rfl _ _ 22 rfl w2.heap.size 5 i0 (.int .u8 0) 1 1 Tryz.underlying22 HI.out.1 HI.out.2.1 HI.out.2.2.1 HI.out.2.2.2 rfl (by decide) _ _ _ rfl ib ⟨wr.heap.size, 0, none⟩ 1 1 [.int .u8 xv] rfl rfl (b8 qd) (by intro u hu; simp at hu; subst hu; rfl) (by unfold maxLen; omega) (by omega) rZ.size ?_; intro v7 w7 ki iN qf qg); have FO := rZ.grown iN rZ.size (fun k h => (ib.lt k h).1); have ML : Hid (w7.ownsRow w2.heap.size 5 1 v7 (out ++ [xv]).length ((out ++ [xv]).map (Value.int .u8))) := cM ki (by simp) (by simp); clear ib ki iN qf qg l9 qd; go_wp2_with fail
    go_roundw
    case rel => exact ⟨k + 1, by have := HJ.out; omega, by rw [show (2 * (k + 1) + 1 : Nat) = j + 1 + 2 by have := HJ.out; omega]; rfl, by rw [HZ.out]; exact ML.out, FO⟩
    case measure => simp [intOf]; have := HJ.out; omega
   ·have HU : Hid (fh (x.take (2 * k)) = fh x) := ww k x (by rw [<- AG.out]; exact hlt) (by rw [<- AG.out]; exact hk)
    rw [HU.out] at hown; have hcv := ox hown; rw [wu] at hcv; have hn : ¬ ((2 * k : Nat) : Int) + 1 < (s.size : Int) := by omega
    go_wp2_with fail; go_ret; exact ⟨rfl, by have h9 := KT.out.below bF; simpa using h9, vk.out.trans (aw.bz bF)⟩
 ·go_enter Tryz.func83, Tryz.ntmps83
  go_wp2_with fail; refine HC.out.mono ?_; rintro e w1 ⟨rfl, hr1, qU⟩; go_wp2_with fail; refine (lw A l.tail b _ w1 hr1).mono ?_; rintro e w2 ⟨rfl, hr2, tL⟩; have KT := Hm hr2; have vk := Hm (qU.trans tL); clear hr1 qU hr2 tL Tb r0; go_wp2_with fail
  go_loopw [5, 6] (fun v i wr => ∃ k : Nat, 2 * k <= s.size /\ i = .int .i64 ((2 * k + 1 : Nat) : Int) /\ wr.ownsRow w2.heap.size 5 1 v (qN (fh (x.take (2 * k)))).length ((qN (fh (x.take (2 * k)))).map (Value.int .u8)) /\ Below w2.heap.size w2 wr) (fun _ i _ => s.size + 2 - (intOf i).toNat)
  case atStart => exact ⟨0, Nat.zero_le _, rfl, ⟨rfl, .inl ⟨rfl, rfl⟩⟩, rB⟩
  case round =>
   obtain ⟨k, hk, rfl, hown, bF⟩ := hrel
   by_cases hlt : 2 * k + 1 < s.size
   ·have gH : 2 * k + 1 < x.length := by rw [<- AG.out]; exact hlt
    have hat := fun W => BA.out (2 * k) W (by omega)
    have pg := fun W => BA.out (2 * k + 1) W gH
    have HZ : Hid (qN (fh (x.take (2 * (k + 1)))) = qN (fh (x.take (2 * k))) ++ [((UInt8.ofNat ((uL x[2 * k] * 16 + uL x[2 * k + 1]) % 256).toNat).toNat : Int)]) := by
     show _ = _; rw [show 2 * (k + 1) = 2 * k + 2 by omega, qm k x gH]; simp [qN]
    have hl2 : (qN (fh (x.take (2 * k)))).length <= 1048576 := by
     have h1 := pd _ (x.take (2 * k)) rN; unfold qN; rw [List.length_map]; rw [List.length_take] at h1; omega
    have yS := Hm (fun W => qo x[2 * k] W); have rv := Hm (fun W => qo x[2 * k + 1] W); have sG := jG x[2 * k]; have vg := jG x[2 * k + 1]; generalize uL x[2 * k] = p1 at *; generalize uL x[2 * k + 1] = p2 at *; generalize x[2 * k].toNat = c1 at *; generalize x[2 * k + 1].toNat = c2 at *; have hv : ((UInt8.ofNat ((p1 * 16 + p2) % 256).toNat).toNat : Int) = (p1 * 16 + p2) % 256 := by rw [UInt8.toNat_ofNat']; omega
    rw [hv] at HZ; have hwr : IntKind.u8.wrap (p1 * 16 + p2) = (p1 * 16 + p2) % 256 := by rw [IntKind.wrap_u8]
    clear hv; generalize qN (fh (x.take (2 * k))) = out at *; generalize P6 : (p1 * 16 + p2) % 256 = xv at *; clear P6; obtain ⟨j, hj⟩ : ∃ j, j = 2 * k := ⟨_, rfl⟩
    have HJ := Hm hj; rw [<- hj] at hat pg hlt ⊢; replace pg : ∀ W, (Instr.index 137 (.string s) (.int .i64 ((j : Int) + 1))).run Tryz.prog W = .ok (.int .u8 ((c2 : Nat) : Int)) W := pg; clear hj; have ur : (j : Int) + 1 < (s.size : Int) := by omega
    have XD : IntKind.i64.wrap (j : Int) = (j : Int) := by rw [IntKind.wrap_i64]; omega
    have hsj : (j : Int) + 1 - 1 = (j : Int) := by omega
    have mG : IntKind.i64.wrap (p1 * 16) = p1 * 16 := by rw [IntKind.wrap_i64]; omega
    have LV : IntKind.i64.wrap (p1 * 16 + p2) = p1 * 16 + p2 := by rw [IntKind.wrap_i64]; omega
    go_wp2_with fail; refine vE (fun W => Below w2.heap.size w2 W) (Below.drew bF) (fun hZ => ?_); refine uq 0 ?_; refine uq 1 ?_; refine uq 2 ?_; refine uq 3 ?_; refine uq 5 ?_; refine uq 6 ?_; refine uq 7 ?_; refine bf 4 rfl fun K hK => ?_
    go_simp; refine (yS.out _).mono ?_; rintro e wa ⟨rfl, gY⟩; have eD : Below w2.heap.size w2 wa := by rw [gY]; exact hZ
    replace gY := gY.symm; subst gY; go_wp2_with fail; go_wp2_with fail; refine aL hK (eD) (fun hZ => ?_); clear hK K; refine bf 8 rfl fun K hK => ?_
    go_simp; refine (rv.out _).mono ?_; rintro e wb ⟨rfl, gj⟩; have dU : Below w2.heap.size w2 wb := by rw [gj]; exact hZ
    replace gj := gj.symm; subst gj; go_wp2_with fail; go_wp2_with fail; refine aL hK (dU) (fun hZ => ?_); clear hK K; refine uq 9 ?_; refine uq 10 ?_; refine dC ?_; obtain ⟨w6, l9⟩ : ∃ q, q = (wr.alloc (.cells #[Value.int .u8 xv] 5)).drew := ⟨_, rfl⟩
    have eA : Below wr.heap.size wr w6 := by rw [l9]; exact Below.drew (rB.alloc rN _)
    have qd : Bx w6 wr.heap.size [Value.int .u8 xv] := by rw [l9]; exact (Bx.new wr [Value.int .u8 xv] 5)
    have ib := aA hown eA; have rZ := af bF eA; clear hown yS rv hat pg; go_wp2_with (at_builtin; rw [<- l9]; refine wpList_append_own_at _ rfl _ _ 22 rfl w2.heap.size 5 i0 (.int .u8 0) 1 1 Tryz.underlying22 HI.out.1 HI.out.2.1 HI.out.2.2.1 HI.out.2.2.2 rfl (by decide) _ _ _ rfl ib ⟨wr.heap.size, 0, none⟩ 1 1 [.int .u8 xv] rfl rfl (b8 qd) (by intro u hu; simp at hu; subst hu; rfl) (by unfold maxLen; omega) (by omega) rZ.size ?_; intro v7 w7 ki iN qf qg); have FO := rZ.grown iN rZ.size (fun k h => (ib.lt k h).1); have ML : Hid (w7.ownsRow w2.heap.size 5 1 v7 (out ++ [xv]).length ((out ++ [xv]).map (Value.int .u8))) := cM ki (by simp) (by simp); clear ib ki iN qf qg l9 qd; go_wp2_with fail
    go_roundw
    case rel => exact ⟨k + 1, by have := HJ.out; omega, by rw [show (2 * (k + 1) + 1 : Nat) = j + 1 + 2 by have := HJ.out; omega]; rfl, by rw [HZ.out]; exact ML.out, FO⟩
    case measure => simp [intOf]; have := HJ.out; omega
   ·have HU : Hid (fh (x.take (2 * k)) = fh x) := ww k x (by rw [<- AG.out]; exact hlt) (by rw [<- AG.out]; exact hk)
    rw [HU.out] at hown; have hcv := ox hown; rw [wu] at hcv; have hn : ¬ ((2 * k : Nat) : Int) + 1 < (s.size : Int) := by omega
    go_wp2_with fail; go_ret; exact ⟨rfl, by have h9 := KT.out.below bF; simpa using h9, vk.out.trans (aw.bz bF)⟩
 ·go_enter Tryz.func83, Tryz.ntmps83
  go_wp2_with fail; refine HC.out.mono ?_; rintro e w1 ⟨rfl, hr1, qU⟩; go_wp2_with fail; refine (lw A l.tail b _ w1 hr1).mono ?_; rintro e w2 ⟨rfl, hr2, tL⟩; have KT := Hm hr2; have vk := Hm (qU.trans tL); clear hr1 qU hr2 tL Tb r0; go_wp2_with fail
  go_loopw [5, 6] (fun v i wr => ∃ k : Nat, 2 * k <= s.size /\ i = .int .i64 ((2 * k + 1 : Nat) : Int) /\ wr.ownsRow w2.heap.size 5 1 v (qN (fh (x.take (2 * k)))).length ((qN (fh (x.take (2 * k)))).map (Value.int .u8)) /\ Below w2.heap.size w2 wr) (fun _ i _ => s.size + 2 - (intOf i).toNat)
  case atStart => exact ⟨0, Nat.zero_le _, rfl, ⟨rfl, .inl ⟨rfl, rfl⟩⟩, rB⟩
  case round =>
   obtain ⟨k, hk, rfl, hown, bF⟩ := hrel
   by_cases hlt : 2 * k + 1 < s.size
   ·have gH : 2 * k + 1 < x.length := by rw [<- AG.out]; exact hlt
    have hat := fun W => BA.out (2 * k) W (by omega)
    have pg := fun W => BA.out (2 * k + 1) W gH
    have HZ : Hid (qN (fh (x.take (2 * (k + 1)))) = qN (fh (x.take (2 * k))) ++ [((UInt8.ofNat ((uL x[2 * k] * 16 + uL x[2 * k + 1]) % 256).toNat).toNat : Int)]) := by
     show _ = _; rw [show 2 * (k + 1) = 2 * k + 2 by omega, qm k x gH]; simp [qN]
    have hl2 : (qN (fh (x.take (2 * k)))).length <= 1048576 := by
     have h1 := pd _ (x.take (2 * k)) rN; unfold qN; rw [List.length_map]; rw [List.length_take] at h1; omega
    have yS := Hm (fun W => qo x[2 * k] W); have rv := Hm (fun W => qo x[2 * k + 1] W); have sG := jG x[2 * k]; have vg := jG x[2 * k + 1]; generalize uL x[2 * k] = p1 at *; generalize uL x[2 * k + 1] = p2 at *; generalize x[2 * k].toNat = c1 at *; generalize x[2 * k + 1].toNat = c2 at *; have hv : ((UInt8.ofNat ((p1 * 16 + p2) % 256).toNat).toNat : Int) = (p1 * 16 + p2) % 256 := by rw [UInt8.toNat_ofNat']; omega
    rw [hv] at HZ; have hwr : IntKind.u8.wrap (p1 * 16 + p2) = (p1 * 16 + p2) % 256 := by rw [IntKind.wrap_u8]
    clear hv; generalize qN (fh (x.take (2 * k))) = out at *; generalize P6 : (p1 * 16 + p2) % 256 = xv at *; clear P6; obtain ⟨j, hj⟩ : ∃ j, j = 2 * k := ⟨_, rfl⟩
    have HJ := Hm hj; rw [<- hj] at hat pg hlt ⊢; replace pg : ∀ W, (Instr.index 137 (.string s) (.int .i64 ((j : Int) + 1))).run Tryz.prog W = .ok (.int .u8 ((c2 : Nat) : Int)) W := pg; clear hj; have ur : (j : Int) + 1 < (s.size : Int) := by omega
    have XD : IntKind.i64.wrap (j : Int) = (j : Int) := by rw [IntKind.wrap_i64]; omega
    have hsj : (j : Int) + 1 - 1 = (j : Int) := by omega
    have mG : IntKind.i64.wrap (p1 * 16) = p1 * 16 := by rw [IntKind.wrap_i64]; omega
    have LV : IntKind.i64.wrap (p1 * 16 + p2) = p1 * 16 + p2 := by rw [IntKind.wrap_i64]; omega
    go_wp2_with fail; refine vE (fun W => Below w2.heap.size w2 W) (Below.drew bF) (fun hZ => ?_); refine uq 0 ?_; refine uq 1 ?_; refine uq 2 ?_; refine uq 3 ?_; refine uq 5 ?_; refine uq 6 ?_; refine uq 7 ?_; refine bf 4 rfl fun K hK => ?_
    go_simp; refine (yS.out _).mono ?_; rintro e wa ⟨rfl, gY⟩; have eD : Below w2.heap.size w2 wa := by rw [gY]; exact hZ
    replace gY := gY.symm; subst gY; go_wp2_with fail; go_wp2_with fail; refine aL hK (eD) (fun hZ => ?_); clear hK K; refine bf 8 rfl fun K hK => ?_
    go_simp; refine (rv.out _).mono ?_; rintro e wb ⟨rfl, gj⟩; have dU : Below w2.heap.size w2 wb := by rw [gj]; exact hZ
    replace gj := gj.symm; subst gj; go_wp2_with fail; go_wp2_with fail; refine aL hK (dU) (fun hZ => ?_); clear hK K; refine uq 9 ?_; refine uq 10 ?_; refine dC ?_; obtain ⟨w6, l9⟩ : ∃ q, q = (wr.alloc (.cells #[Value.int .u8 xv] 5)).drew := ⟨_, rfl⟩
    have eA : Below wr.heap.size wr w6 := by rw [l9]; exact Below.drew (rB.alloc rN _)
    have qd : Bx w6 wr.heap.size [Value.int .u8 xv] := by rw [l9]; exact (Bx.new wr [Value.int .u8 xv] 5)
    have ib := aA hown eA; have rZ := af bF eA; clear hown yS rv hat pg; go_wp2_with (at_builtin; rw [<- l9]; refine wpList_append_own_at _ rfl _ _ 22 rfl w2.heap.size 5 i0 (.int .u8 0) 1 1 Tryz.underlying22 HI.out.1 HI.out.2.1 HI.out.2.2.1 HI.out.2.2.2 rfl (by decide) _ _ _ rfl ib ⟨wr.heap.size, 0, none⟩ 1 1 [.int .u8 xv] rfl rfl (b8 qd) (by intro u hu; simp at hu; subst hu; rfl) (by unfold maxLen; omega) (by omega) rZ.size ?_; intro v7 w7 ki iN qf qg); have FO := rZ.grown iN rZ.size (fun k h => (ib.lt k h).1); have ML : Hid (w7.ownsRow w2.heap.size 5 1 v7 (out ++ [xv]).length ((out ++ [xv]).map (Value.int .u8))) := cM ki (by simp) (by simp); clear ib ki iN qf qg l9 qd; go_wp2_with fail
    go_roundw
    case rel => exact ⟨k + 1, by have := HJ.out; omega, by rw [show (2 * (k + 1) + 1 : Nat) = j + 1 + 2 by have := HJ.out; omega]; rfl, by rw [HZ.out]; exact ML.out, FO⟩
    case measure => simp [intOf]; have := HJ.out; omega
   ·have HU : Hid (fh (x.take (2 * k)) = fh x) := ww k x (by rw [<- AG.out]; exact hlt) (by rw [<- AG.out]; exact hk)
    rw [HU.out] at hown; have hcv := ox hown; rw [wu] at hcv; have hn : ¬ ((2 * k : Nat) : Int) + 1 < (s.size : Int) := by omega
    go_wp2_with fail; go_ret; exact ⟨rfl, by have h9 := KT.out.below bF; simpa using h9, vk.out.trans (aw.bz bF)⟩
end Go.Proofs.YtcamcgfbljhbhaaGreatDoor

namespace Go.Proofs.YtcamcgfbljhbhaaGreatDoor
open Go.RowKit
theorem Ad : ∀ (x cur r : List UInt8), (∀ c, c ∈ x -> Lib.isSp c = false) -> Lib.fieldsGo cur (x ++ r) = Lib.fieldsGo (cur ++ x) r
 | [], cur, r, _ => by simp
 | a :: x, cur, r, h => by
  rw [List.cons_append, Lib.fieldsGo_more cur a _ (h a (by simp)), Ad x (cur ++ [a]) r (fun c hc => h c (by simp [hc]))]; simp
theorem fC {x r : List UInt8} {b : UInt8} (hx : x ≠ []) (hs : ∀ c, c ∈ x -> Lib.isSp c = false) (hb : Lib.isSp b = true) : Lib.fields (x ++ b :: r) = x :: Lib.fields r := by
 unfold Lib.fields; rw [Ad x [] _ hs, List.nil_append, Lib.fieldsGo_end x b r hb hx]
theorem Q6 {c : UInt8} (h : 48 <= c.toNat) : Lib.isSp c = false := by
 have h0 : ∀ i : Fin 256, 48 <= i.val -> Lib.isSp (UInt8.ofNat i.val) = false := by decide +kernel
 have h2 := h0 ⟨c.toNat, c.toNat_lt⟩ h
 rwa [UInt8.ofNat_toNat] at h2
theorem Gg {s : ByteArray} {b : UInt8} (h : b ∈ eF s) : 48 <= b.toNat := by
 by_cases hb : b.toNat < 48
 ·exact absurd h (lu hb)
 ·omega
theorem tU (n : Int) : cw n ≠ [] := fun h => by have := CT n; rw [h] at this; simp at this
theorem Gh {s : ByteArray} (h : 1 <= s.size) : eF s ≠ [] := fun hc => by have := lq s; rw [hc] at this; simp at this; omega
def mP (t : aT) : List (List UInt8) := [m9, cw t.fD, cw t.aN, eF t.eo, eF t.em]
theorem CX {t : aT} {r : List UInt8} (h1 : 1 <= t.eo.size) (h2 : 1 <= t.em.size) : Lib.fields (eR t ++ 10 :: r) = mP t ++ Lib.fields r := by
 have e : eR t ++ 10 :: r = m9 ++ 32 :: (cw t.fD ++ 32 :: (cw t.aN ++ 32 :: (eF t.eo ++ 32 :: (eF t.em ++ 10 :: r)))) := by
  unfold eR; simp only [List.append_assoc, List.cons_append, List.nil_append]
 rw [e, fC (by decide) (by decide) (by decide), fC (tU _) (fun c hc => Q6 (ii hc).1) (by decide), fC (tU _) (fun c hc => Q6 (ii hc).1) (by decide),
  fC (Gh h1) (fun c hc => Q6 (Gg hc)) (by decide), fC (Gh h2) (fun c hc => Q6 (Gg hc)) (by decide)]
 rfl
theorem tV : ∀ (l : List aT) (r : List UInt8), (∀ t, t ∈ l -> 1 <= t.eo.size /\ 1 <= t.em.size) -> Lib.fields (dr l ++ r) = l.flatMap mP ++ Lib.fields r
 | [], r, _ => by simp [dr]
 | t :: l, r, h => by
  have e : dr (t :: l) ++ r = eR t ++ 10 :: (dr l ++ r) := by
   unfold dr; rw [List.flatMap_cons]; simp only [List.append_assoc, List.cons_append, List.nil_append]
  rw [e, CX (h t (by simp)).1 (h t (by simp)).2, tV l r (fun u hu => h u (by simp [hu])), List.flatMap_cons, List.append_assoc]
theorem CY {m : aK} (h : ∀ t, t ∈ m.aD -> 1 <= t.eo.size /\ 1 <= t.em.size) :
  Lib.fields (fq m) = [[110, 101, 120, 116], cw m.ah, [108, 111, 103], cw m.ce] ++ (m.aD.flatMap mP ++ [ia]) := by
 have e : fq m = [110, 101, 120, 116] ++ 32 :: (cw m.ah ++ 32 :: ([108, 111, 103] ++ 32 :: (cw m.ce ++ 10 :: (dr m.aD ++ (ia ++ 10 :: []))))) := by
  unfold fq gM vy CF; simp only [List.append_assoc, List.cons_append, List.nil_append]
 rw [e, fC (by decide) (by decide) (by decide), fC (tU _) (fun c hc => Q6 (ii hc).1) (by decide), fC (by decide) (by decide) (by decide),
  fC (tU _) (fun c hc => Q6 (ii hc).1) (by decide), tV _ _ h, fC (by decide) (by decide) (by decide)]
 rfl
theorem CZ {p : UInt8 -> Bool} : ∀ {l : List UInt8}, (∀ c, c ∈ l -> p c = true) -> l.dropWhile p = []
 | [], _ => rfl
 | a :: l, h => by rw [List.dropWhile_cons_of_pos (h a (by simp))]; exact CZ fun c hc => h c (by simp [hc])
theorem C0 {x : List UInt8} (h : ∀ c, c ∈ x -> vS.contains c = true) : tT x = true := by
 have e : Lib.trimRightS x vS = [] := by
  unfold Lib.trimRightS; rw [List.reverse_eq_nil_iff]; exact CZ fun c hc => h c (by simpa using hc)
 unfold tT Lib.trimS; rw [e]; exact decide_eq_true rfl
theorem KU (n : Int) : tT (cw n) = true := C0 fun c hc => by
 have h0 : ∀ i : Fin 256, 48 <= i.val /\ i.val <= 57 -> vS.contains (UInt8.ofNat i.val) = true := by decide +kernel
 have h2 := h0 ⟨c.toNat, c.toNat_lt⟩ (ii hc)
 rwa [UInt8.ofNat_toNat] at h2
theorem KV (s : ByteArray) : tT (eF s) = true := C0 fun c hc => by
 unfold eF at hc; rw [List.mem_flatMap] at hc; obtain ⟨b, _, hb⟩ := hc; have h0 : ∀ i : Fin 16, vS.contains (lH i.val) = true := by decide
 have hlt := b.toNat_lt; unfold x5 at hb; simp only [List.mem_cons, List.not_mem_nil, or_false] at hb; rcases hb with rfl | rfl
 ·exact h0 ⟨b.toNat / 16, by omega⟩
 ·exact h0 ⟨b.toNat % 16, by omega⟩
theorem MQ : ∀ b : Fin 256, UInt8.ofNat ((uL (lH (b.val / 16)) * 16 + uL (lH (b.val % 16))) % 256).toNat = UInt8.ofNat b.val := by decide +kernel
theorem Gi : ∀ l : List UInt8, fh (l.flatMap x5) = l
 | [] => rfl
 | b :: l => by
  rw [List.flatMap_cons]
  show fh (lH (b.toNat / 16) :: lH (b.toNat % 16) :: l.flatMap x5) = b :: l; have h := MQ ⟨b.toNat, b.toNat_lt⟩; rw [fh, Gi l]
  congr 1
  rw [h, UInt8.ofNat_toNat]
theorem Gj (s : ByteArray) (r : List (List UInt8)) : fj (eF s :: r) = (s.data.toList, true) := by
 have hd : fB (eF s :: r) = (eF s, true) := by simp [fB, KV]
 unfold fj; rw [hd]
 show (fh (eF s), true && decide ((eF s).length % 2 = 0)) = _; rw [lq, show (2 * s.size) % 2 = 0 by omega]; exact congrArg (fun z => (z, true)) (Gi _)
theorem qO {x : List UInt8} (r : List (List UInt8)) (h : tT x = false) : cV (x :: r) = (x, true) := by simp [cV, h]
theorem C1 : ∀ (l : List UInt8) (acc : Nat), (∀ b, b ∈ l -> 48 <= b.toNat /\ b.toNat <= 57) -> (acc + 1) * 10 ^ l.length <= 1000000000000000000 -> ∃ u : Nat, Lib.parseUint10 acc l = .ok u /\ (u : Int) = CR l acc /\ u < 1000000000000000000
 | [], acc, _, h => ⟨acc, rfl, rfl, by simp at h; omega⟩
 | b :: l, acc, hd, h => by
  have hb := hd b (by simp); have hp : 1 <= 10 ^ l.length := Nat.pos_of_ne_zero (by simp)
  have e : (acc + 1) * 10 ^ (b :: l).length = (acc * 10 + 10) * 10 ^ l.length := by
   rw [List.length_cons, Nat.pow_succ, Nat.mul_comm (10 ^ l.length) 10, <- Nat.mul_assoc, Nat.add_mul, Nat.one_mul]
  rw [e] at h; have h1 : (acc * 10 + (b.toNat - 48) + 1) * 10 ^ l.length <= (acc * 10 + 10) * 10 ^ l.length := Nat.mul_le_mul_right _ (by omega); have h2 : (acc * 10 + 10) * 1 <= (acc * 10 + 10) * 10 ^ l.length := Nat.mul_le_mul_left _ hp; obtain ⟨u, hu, hv, hl⟩ := C1 l (acc * 10 + (b.toNat - 48)) (fun c hc => hd c (by simp [hc])) (Nat.le_trans h1 h); refine ⟨u, ?_, ?_, hl⟩
  ·rw [Lib.parseUint10, if_pos hb, if_neg (by omega), if_neg (by omega)]
   exact hu
  ·rw [hv]
   show CR l _ = CR l ((acc : Int) * 10 + ((b.toNat : Int) - 48))
   congr 1
   omega
theorem MR {n : Int} (h0 : 0 <= n) (h1 : n <= 100000) : ql (cw n) = (n, true) := by
 have hlen : (cw n).length <= 6 := F8 5 n.toNat (by show n.toNat < 1000000; omega); have hp : 10 ^ (cw n).length <= 10 ^ 6 := Nat.pow_le_pow_right (by decide) hlen; obtain ⟨u, hu, hv, hl⟩ := C1 (cw n) 0 (fun b hb => ii hb) (by rw [Nat.zero_add, Nat.one_mul]; omega); have hval : (u : Int) = n := by rw [hv]; exact CS h0
 have key : Lib.atoiAll (cw n) = .ok n := by
  cases hc : cw n with
  | nil => exact absurd hc (tU n)
  | cons c r =>
   have MS : 48 <= c.toNat /\ c.toNat <= 57 := ii (n := n) (by rw [hc]; simp); rw [hc] at hu; unfold Lib.atoiAll Lib.parseMag; simp only []; rw [if_neg (show ¬ (c.toNat = 43 ∨ c.toNat = 45) by omega), if_neg (List.cons_ne_nil c r), hu]; simp only []; rw [if_neg (by omega), if_neg (by omega), if_neg (by omega), hval]
 unfold ql; rw [key]
theorem tW {n : Int} (r : List (List UInt8)) (h0 : 0 <= n) (h1 : n <= 100000) : b7 (cw n :: r) = (n, true) := by
 have hd : fB (cw n :: r) = (cw n, true) := by simp [fB, KU]
 unfold b7; rw [hd]
 show ((ql (cw n)).1, true && (ql (cw n)).2) = _; rw [MR h0 h1]; rfl
end Go.Proofs.YtcamcgfbljhbhaaGreatDoor
