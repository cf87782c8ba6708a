/-
  Part 7 of the texts that the proof leans on.
-/
import Derived.Test.YtcamcgfbljhbhaaGreatDoorMan0
import Derived.Test.YtcamcgfbljhbhaaGreatDoorMan2
import Derived.Test.YtcamcgfbljhbhaaGreatDoorMan4
import Derived.Test.YtcamcgfbljhbhaaGreatDoorMan5
import Derived.Deep.RegionHeld3
import Derived.Test.YtcamcgfbljhbhaaGreatDoorMan3
import Derived.Test.YtcamcgfbljhbhaaGreatDoorMan1
set_option linter.unusedVariables false
set_option linter.unusedSimpArgs false
set_option maxRecDepth 10000
set_option maxHeartbeats 20000000

namespace Go.Proofs.YtcamcgfbljhbhaaGreatDoor
open Go.RowKit Go.Maps
def qT (F0 : List Nat) : nS aI := fun B w cs m => ∃ Fk, fX w cs m Fk /\ ∀ b, b ∈ Fk -> b ∈ F0 /\ b < B
theorem d9 (F0 : List Nat) : (qT F0).Good :=
 ⟨fun ⟨Fk, h1, h2⟩ hb => ⟨Fk, aH.frame h1 (fun b kB => hb.block b (h2 b kB).2), h2⟩, fun ⟨Fk, h1, h2⟩ hB => ⟨Fk, h1, fun b hb => ⟨(h2 b hb).1, Nat.lt_of_lt_of_le (h2 b hb).2 hB⟩⟩⟩
theorem zB (F0 : List Nat) : ∀ B w cs m, qT F0 B w cs m -> dL B w cs m := by
 rintro B w cs m ⟨Fk, ⟨v1, F1, rfl, h0, h1, h2, rfl⟩, hF⟩; obtain ⟨h3, h4, rfl⟩ := h1; rcases h3.2 with ⟨rfl, h'⟩ | ⟨g, cap, cur, rfl, hb, hg, po, hm, _⟩
 ·exact ⟨none, 0, by rw [h'], h0, ⟨by omega, by omega, fun j hj => by omega, h4⟩, h2, trivial⟩
 ·have Uu := (hF g (by simp [Value.ownBlock])).2
  refine ⟨_, cap, rfl, h0, ⟨po, by simpa [maxLen] using hm, fun j hj => ?_, h4⟩, h2, trivial⟩; obtain ⟨b, off, e, _, hc⟩ := Rd.own rfl h3 j hj; simp only [Option.some.injEq, Addr.mk.injEq, and_true] at e; obtain ⟨rfl, rfl⟩ := e; exact ⟨g, 0, rfl, Uu, hc⟩
theorem aF.NC {e : TypeId} {w : World} {a : Option Addr} {c : Nat} {l : List aI} {F : List Nat} (h : aF 3 e fX w (.slice a l.length c) l F) : bw 3 (qT F) w.heap.size w a c l := by
 rcases h with ⟨h1, rfl, _⟩ | ⟨g, cap, cur, Fs, h1, h2, h3, h4, h5, h6, h7, rfl⟩
 ·simp only [List.length_nil, Value.slice.injEq, true_and] at h1
  obtain ⟨rfl, rfl⟩ := h1; exact ⟨by simp, by omega, fun j hj => by simp at hj⟩
 ·simp only [Value.slice.injEq, true_and] at h1
  obtain ⟨rfl, rfl⟩ := h1; refine ⟨h3, by simpa [maxLen] using h4, fun j hj => ⟨g, 0, rfl, (Array.getElem?_eq_some_iff.1 h2).1, _, aH.len (h7 j hj), ?_, _, h7 j hj, fun b hb => ⟨List.mem_cons_of_mem _ (dh (by omega) hb), aH.lt (h7 j hj) b hb⟩⟩⟩; intro i u hu; rw [Nat.zero_add, cell_of_row w g _ cur e (0, 0) h2]; rw [List.getElem?_take] at hu
  split at hu
  ·rw [List.getElem?_drop] at hu
   simpa using hu
  ·cases hu
theorem ND {F0 : List Nat} {B : Nat} {w : World} : ∀ {l : List aI} {css : List (List Value)}, css.length = l.length -> (∀ j, (h : j < l.length) -> (h2 : j < css.length) -> qT F0 B w css[j] l[j]) ->
  ∃ Fs : List (List Nat), Fs.length = l.length /\ (∀ j, (h : j < l.length) -> (h2 : j < css.length) -> fX w css[j] l[j] (Fs.getD j [])) /\ ∀ b, b ∈ Fs.flatten -> b ∈ F0 /\ b < B
 | [], [], _, _ => ⟨[], rfl, fun j h => by simp at h, fun b hb => by simp at hb⟩
 | m :: l, c :: css, hl, h => by
  obtain ⟨Fs, f1, f2, f3⟩ := ND (l := l) (css := css) (by simpa using hl) (fun j h1 h2 => h (j + 1) (by simpa using h1) (by simpa using h2)); obtain ⟨Fk, g1, g2⟩ := h 0 (by simp) (by simp); refine ⟨Fk :: Fs, by simp [f1], fun j h1 h2 => ?_, fun b hb => ?_⟩
  ·cases j with
   | zero => exact g1
   | succ j => exact f2 j (by simpa using h1) (by simpa using h2)
  ·rw [List.flatten_cons, List.mem_append] at hb
   rcases hb with hb | hb
   ·exact g2 b hb
   ·exact f3 b hb
 | [], _ :: _, hl, _ => by simp at hl
 | _ :: _, [], hl, _ => by simp at hl
theorem bS.own {F0 : List Nat} {B base : Nat} {e : TypeId} {w : World} {v : Value} {l : List aI} (h : bS 3 e (qT F0) B w base v l) : ∃ F', aF 3 e fX w v l F' /\ ∀ b, b ∈ F' -> b ∈ F0 ∨ base <= b := by
 obtain ⟨css, r1, r2, r3, r4⟩ := h; obtain ⟨Fs, f1, f2, f3⟩ := ND r1 r3; rcases r4.2 with ⟨rfl, h0⟩ | ⟨g, cap, cur, rfl, hb, hg, po, hm, hs, ht⟩
 ·exact ⟨[], .inl ⟨rfl, List.eq_nil_of_length_eq_zero h0, rfl⟩, fun b hb => by cases hb⟩
 ·refine ⟨g :: Fs.flatten, .inr ⟨g, cap, cur, Fs, rfl, hg, po, hm, hs, f1, fun j hj => ?_, rfl⟩, fun b kB => ?_⟩
  ·have vd : j < css.length := by omega
   have hmul : (j + 1) * 3 <= l.length * 3 := Nat.mul_le_mul_right _ hj
   have e0 : (cur.toList.drop (j * 3)).take 3 = css[j] := by
    rw [<- uv r2 vd, <- ht]; apply List.ext_getElem?; intro i; rw [List.getElem?_take, List.getElem?_take, List.getElem?_drop, List.getElem?_drop, List.getElem?_take]
    by_cases hi : i < 3
    ·rw [if_pos hi, if_pos hi, if_pos (by omega)]
    ·rw [if_neg hi, if_neg hi]
   rw [e0]; exact f2 j hj vd
  ·rcases List.mem_cons.1 kB with rfl | kB
   ·exact .inr hb
   ·exact .inl (f3 b kB).1
theorem bS.turn {α : Type} {size : Nat} {e : TypeId} {R : nS α} (hR : R.Good) {F : List Nat} {B : Nat} {w w' : World} {base base' : Nat} {v : Value} {l : List α} (h : bS size e R B w base v l) (hT : aw F w w') (hF : ∀ k, k ∈ F -> B <= k /\ k < base) (hB : B <= w.heap.size) (hb : base' <= base) : bS size e R B w' base' v l := by
 obtain ⟨css, r1, r2, r3, r4⟩ := h; exact ⟨css, r1, r2, fun j h1 h2 => hR.below (r3 j h1 h2) (hT.below (fun k hk => (hF k hk).1) hB), ep (fQ r4 (fun k hk => hT.block k (r4.lt k hk).2 (fun hm => by have := (r4.lt k hk).1; have := (hF k hm).2; omega))) hb⟩
theorem xo (R : nS aI) (hR : R.Good) (hRI : ∀ B w cs m, R B w cs m -> dL B w cs m) (a0 a1 a2 : Option Addr) (c0 c1 c2 : Nat) (m : az) (w : World) (B : Nat) (FC : B <= w.heap.size) (hI : bw 3 R B w a0 c0 m.aa) (gf : bw 2 cy w.heap.size w a1 c1 m.ae) (gT : bw 2 cy w.heap.size w a2 c2 m.ag) (hw : m.aa.length <= 1048576 /\ m.ae.length <= 1048576 /\ m.ag.length <= 1048576) :
  Calls Tryz.prog 102 #[.agg #[.slice a0 m.aa.length c0, .slice a1 m.ae.length c1, .slice a2 m.ag.length c2, .int .i64 m.ah]] w fun e w' => ∃ (a : Option Addr) (c : Nat), e = .returned (.agg #[.slice a (bV m).length c, .slice a1 m.ae.length c1, .slice a2 m.ag.length c2, .int .i64 m.ah]) /\ bS 3 73 R B w' w.heap.size (.slice a (bV m).length c) (bV m) /\ Below w.heap.size w w' := by
 obtain ⟨hw0, di, hw2⟩ := hw; obtain ⟨i0, hi, hz0, hz1, hz2⟩ := info_parts Tryz.jE; have HI := Hm hI.2.2; have HN := Hm gf.2.2; have HS := Hm gT.2.2; clear hI gf gT; go_enter Tryz.func102, Tryz.ntmps102; go_wp2_with fail
 go_loopw [3, 4] (fun v i wr => ∃ k : Nat, k <= m.aa.length /\ i = .int .i64 k /\ bS 3 73 R B wr (w.heap.size + 2) v ((m.aa.take k).filter (isNamed m)) /\ Below w.heap.size w wr /\ Bw wr w.heap.size 27 (cj a0 c0 a1 c1 a2 c2 m) /\ Bw wr (w.heap.size + 1) 27 oz) (fun _ i _ => m.aa.length - (intOf i).toNat)
 case atStart =>
  refine ⟨0, Nat.zero_le _, rfl, ⟨[], rfl, (fun _ h => by cases h), (fun _ h => by simp at h), ?_⟩, Below.alloc (Below.alloc (Below.alloc rB rN _) (by simp) _) (by simp; omega) _, Bw.alloc (Bw.alloc (Bw.new _ _ _) _) _, Bw.alloc (Bw.dX _ _ _ (by simp)) _⟩; have h := kY ((w.alloc (.cells #[.slice a0 m.aa.length c0, .slice a1 m.ae.length c1, .slice a2 m.ag.length c2, .int .i64 m.ah] 27)).alloc (.cells #[.slice none 0 0, .slice none 0 0, .slice none 0 0, .int .i64 0] 27)) (w.heap.size + 2) 73 3 (by simp)
  simpa using h
 case round =>
  obtain ⟨k, hk, rfl, hrow, bF, dl, hbr⟩ := hrel; have cO := Hm hrow; have x0 := dl.cell 0 _ rfl; have hlx := dl.lt; have Yw := hbr.lt; have Bq := Hm dl; have zx := Hm hbr; clear hrow dl hbr
  by_cases hlt : k < m.aa.length
  ·obtain ⟨b1, o1, rfl, hB, cs, iw, hcell, t8⟩ := (HI.out.below hR (bF.mono FC)) k hlt
   have nZ := Hm (fun h => lC (p := isNamed m) hlt h); have mo := Hm (fun h => mv (p := isNamed m) hlt h); have qK : Hid (isNamed m m.aa[k] = (named m.ae m.aa[k].bi || named m.ag m.aa[k].bi)) := rfl; have wN : ((m.aa.take k).filter (isNamed m)).length <= 1048576 := Nat.le_trans (List.length_filter_le _ _) (by simp; omega); obtain ⟨n, hn⟩ : ∃ n, m.aa[k] = n := ⟨_, rfl⟩
   rw [hn] at nZ mo qK t8; clear hn; have L6 := t8; obtain ⟨ad, cd, rfl, hid, Bn, hsu, _⟩ := hRI _ _ _ _ t8; have k0 := hcell 0 _ rfl; have k1 := hcell 1 _ rfl; have k2 := hcell 2 _ rfl; rw [Nat.add_zero] at k0; have FD := Hm L6; have p0 : ∀ W, Below wr.heap.size wr W -> W.cell? ⟨w.heap.size, 0, none⟩ = some (.slice (some ⟨b1, o1, none⟩) m.aa.length c0) := fun W hb => (Bq.out.under hb).cell 0 _ rfl
   have p1 : ∀ W, Below wr.heap.size wr W -> W.cell? ⟨w.heap.size, 1, none⟩ = some (.slice a1 m.ae.length c1) := fun W hb => (Bq.out.under hb).cell 1 _ rfl
   have p2 : ∀ W, Below wr.heap.size wr W -> W.cell? ⟨w.heap.size, 2, none⟩ = some (.slice a2 m.ag.length c2) := fun W hb => (Bq.out.under hb).cell 2 _ rfl
   have VW := bF.size; have eI := Nat.le_trans FC VW; have q0 : ∀ W, Below wr.heap.size wr W -> W.cell? ⟨b1, o1 + k * 3, none⟩ = some (.int .i64 n.bi) := fun W hb => (hb.cell (p := ⟨b1, o1 + k * 3, none⟩) (Nat.lt_of_lt_of_le hB eI)).trans k0
   have xp := fun W (hb : Below wr.heap.size wr W) => nr a1 _ c1 m.ae n.bi W w.heap.size rfl (by omega) (HN.out.below au (af bF hb))
   have nt := fun W (hb : Below wr.heap.size wr W) => nr a2 _ c2 m.ag n.bi W w.heap.size rfl (by omega) (HS.out.below au (af bF hb))
   clear hcell iw L6
   by_cases hY : isNamed m n = true
   ·have HF := Hm (nZ.out hY)
    have HY := Hm hY; clear nZ mo hY
    by_cases hA : named m.ae n.bi = true
    ·rw [hA] at xp
     go_wp2_with fail; refine kz wr (fun hZ => ?_); refine uq 0 ?_; refine uq 1 ?_; refine uq 2 ?_; refine uq 3 ?_; refine uq 4 ?_; refine uq 5 ?_; refine uq 6 ?_; refine uq 7 ?_; refine bf 8 rfl fun K hK => ?_
     go_simp; refine Calls.mono (xp _ hZ) ?_; rintro e OI ⟨rfl, di⟩; have B5 := a8 di; clear di; go_wp2_with fail; refine aL hK (af hZ B5) (fun hZ => ?_); clear hK K; refine uq 9 ?_; refine um 10 ?_; refine um 11 ?_; refine um 12 ?_; refine um 13 ?_; refine um 14 ?_; refine um 15 ?_; refine um 16 ?_; refine um 17 ?_; refine um 18 ?_; refine uq 19 ?_; refine dC ?_; obtain ⟨wa, gY⟩ : ∃ wa, wa = OI := ⟨_, rfl⟩
     rw [<- gY] at hZ ⊢; have t6 := af bF hZ; have x0a := (Bq.out.under hZ).cell 0 _ rfl; have hza := hZ.size; have k0a := (hZ.cell (p := ⟨b1, o1 + k * 3, none⟩) (Nat.lt_of_lt_of_le hB eI)).trans k0; have k1a := (hZ.cell (p := ⟨b1, o1 + k * 3 + 1, none⟩) (Nat.lt_of_lt_of_le hB eI)).trans k1; have k2a := (hZ.cell (p := ⟨b1, o1 + k * 3 + 2, none⟩) (Nat.lt_of_lt_of_le hB eI)).trans k2; have RX := bS.keep hR cO.out hZ eI; have OJ := Hm (hR.below FD.out (hZ.mono eI)); have JB := Hm (Bq.out.under hZ); have JC := Hm (zx.out.under hZ); have Le := Hm t6; have HHa := Hm hZ; have OL := t6.size; have VX : b1 < wa.heap.size := by omega
     have VY := JB.out.lt; have VZ := JC.out.lt; obtain ⟨fl, AC⟩ : ∃ fl, fl = (m.aa.take k).filter (isNamed m) := ⟨_, rfl⟩
     rw [<- AC] at RX HF wN; obtain ⟨css, r1, r2, r3, r4⟩ := RX; clear gY p0 p1 p2 q0 xp nt k0 k1 k2 hZ qK AC cO; go_wp2_with (at_builtin; refine wpList_append_own_at _ rfl _ _ 24 rfl (w.heap.size + 2) 73 i0 (.agg #[.int .i64 0, .slice none 0 0, .int .i64 0]) 3 40 Tryz.underlying24 hi hz0 hz1 hz2 rfl (by decide) _ _ _ rfl (aA r4 (rB.alloc rN _)) ⟨wa.heap.size, 0, none⟩ 1 1 [.int .i64 n.bi, .slice ad n.aG.length cd, .int .i64 n.aW] rfl rfl (b8 (Bx.new wa _ _)) (by intro u hu; simp at hu; rcases hu with rfl | rfl | rfl <;> rfl) (by unfold maxLen; omega) (by omega) (by simp; omega) ?_; intro v' w3 ek dI hnil hloc); have hT := aw.after ((Below.refl wa.heap.size wa).alloc rN _) (dE dI); have lx : ∀ k, k ∈ (Value.ownBlock _).toList -> w.heap.size + 2 <= k := fun k hk => (r4.lt k (by simpa using hk)).1
     have hBl : Below w.heap.size wa w3 := aw.below hT (fun k hk => by have := lx k hk; omega) OL
     go_roundw
     case rel => exact ⟨k + 1, by omega, by go_num, by rw [HF.out]; exact bS.push hR r1 r2 r3 (hBl.mono FC) rfl (hR.below OJ.out (hBl.mono FC)) ek, t6.trans hBl, JB.out.turn hT (fun h => by have := lx _ h; omega), JC.out.turn hT (fun h => by have := lx _ h; omega)⟩
     case measure => simp [intOf]; omega
    ·have yU : named m.ae n.bi = false := Bool.eq_false_iff.2 hA
     have QK : named m.ag n.bi = true := by have h := qK.out; rw [HY.out, yU, Bool.false_or] at h; exact h.symm
     rw [yU] at xp; rw [QK] at nt; go_wp2_with fail; refine kz wr (fun hZ => ?_); refine uq 0 ?_; refine uq 1 ?_; refine uq 2 ?_; refine uq 3 ?_; refine uq 4 ?_; refine uq 5 ?_; refine uq 6 ?_; refine uq 7 ?_; refine bf 8 rfl fun K hK => ?_
     go_simp; refine Calls.mono (xp _ hZ) ?_; rintro e OI ⟨rfl, di⟩; have B5 := a8 di; clear di; go_wp2_with fail; refine aL hK (af hZ B5) (fun hZ => ?_); clear hK K; refine uq 9 ?_; refine uq 10 ?_; refine uq 11 ?_; refine uq 12 ?_; refine uq 13 ?_; refine uq 14 ?_; refine uq 15 ?_; refine uq 16 ?_; refine uq 17 ?_; refine bf 18 rfl fun K hK => ?_
     go_simp; refine Calls.mono (nt _ hZ) ?_; rintro e OM ⟨rfl, hw2⟩; have uA := a8 hw2; clear hw2; go_wp2_with fail; refine aL hK (af hZ uA) (fun hZ => ?_); clear hK K; refine uq 19 ?_; refine dC ?_; obtain ⟨wa, gY⟩ : ∃ wa, wa = OM := ⟨_, rfl⟩
     rw [<- gY] at hZ ⊢; have t6 := af bF hZ; have x0a := (Bq.out.under hZ).cell 0 _ rfl; have hza := hZ.size; have k0a := (hZ.cell (p := ⟨b1, o1 + k * 3, none⟩) (Nat.lt_of_lt_of_le hB eI)).trans k0; have k1a := (hZ.cell (p := ⟨b1, o1 + k * 3 + 1, none⟩) (Nat.lt_of_lt_of_le hB eI)).trans k1; have k2a := (hZ.cell (p := ⟨b1, o1 + k * 3 + 2, none⟩) (Nat.lt_of_lt_of_le hB eI)).trans k2; have RX := bS.keep hR cO.out hZ eI; have OJ := Hm (hR.below FD.out (hZ.mono eI)); have JB := Hm (Bq.out.under hZ); have JC := Hm (zx.out.under hZ); have Le := Hm t6; have HHa := Hm hZ; have OL := t6.size; have VX : b1 < wa.heap.size := by omega
     have VY := JB.out.lt; have VZ := JC.out.lt; obtain ⟨fl, AC⟩ : ∃ fl, fl = (m.aa.take k).filter (isNamed m) := ⟨_, rfl⟩
     rw [<- AC] at RX HF wN; obtain ⟨css, r1, r2, r3, r4⟩ := RX; clear gY p0 p1 p2 q0 xp nt k0 k1 k2 hZ qK AC cO; go_wp2_with (at_builtin; refine wpList_append_own_at _ rfl _ _ 24 rfl (w.heap.size + 2) 73 i0 (.agg #[.int .i64 0, .slice none 0 0, .int .i64 0]) 3 40 Tryz.underlying24 hi hz0 hz1 hz2 rfl (by decide) _ _ _ rfl (aA r4 (rB.alloc rN _)) ⟨wa.heap.size, 0, none⟩ 1 1 [.int .i64 n.bi, .slice ad n.aG.length cd, .int .i64 n.aW] rfl rfl (b8 (Bx.new wa _ _)) (by intro u hu; simp at hu; rcases hu with rfl | rfl | rfl <;> rfl) (by unfold maxLen; omega) (by omega) (by simp; omega) ?_; intro v' w3 ek dI hnil hloc); have hT := aw.after ((Below.refl wa.heap.size wa).alloc rN _) (dE dI); have lx : ∀ k, k ∈ (Value.ownBlock _).toList -> w.heap.size + 2 <= k := fun k hk => (r4.lt k (by simpa using hk)).1
     have hBl : Below w.heap.size wa w3 := aw.below hT (fun k hk => by have := lx k hk; omega) OL
     go_roundw
     case rel => exact ⟨k + 1, by omega, by go_num, by rw [HF.out]; exact bS.push hR r1 r2 r3 (hBl.mono FC) rfl (hR.below OJ.out (hBl.mono FC)) ek, t6.trans hBl, JB.out.turn hT (fun h => by have := lx _ h; omega), JC.out.turn hT (fun h => by have := lx _ h; omega)⟩
     case measure => simp [intOf]; omega
   ·have V0 : isNamed m n = false := Bool.eq_false_iff.2 hY
    have HF := Hm (mo.out V0); have hb3 := qK.out; rw [V0] at hb3; have yU : named m.ae n.bi = false := (Bool.or_eq_false_iff.1 hb3.symm).1; have QK : named m.ag n.bi = false := (Bool.or_eq_false_iff.1 hb3.symm).2; rw [yU] at xp; rw [QK] at nt; clear nZ mo hY V0 hb3 qK; go_wp2_with fail; refine kz wr (fun hZ => ?_); refine uq 0 ?_; refine uq 1 ?_; refine uq 2 ?_; refine uq 3 ?_; refine uq 4 ?_; refine uq 5 ?_; refine uq 6 ?_; refine uq 7 ?_; refine bf 8 rfl fun K hK => ?_
    go_simp; refine Calls.mono (xp _ hZ) ?_; rintro e OI ⟨rfl, di⟩; have B5 := a8 di; clear di; go_wp2_with fail; refine aL hK (af hZ B5) (fun hZ => ?_); clear hK K; refine uq 9 ?_; refine uq 10 ?_; refine uq 11 ?_; refine uq 12 ?_; refine uq 13 ?_; refine uq 14 ?_; refine uq 15 ?_; refine uq 16 ?_; refine uq 17 ?_; refine bf 18 rfl fun K hK => ?_
    go_simp; refine Calls.mono (nt _ hZ) ?_; rintro e OM ⟨rfl, hw2⟩; have uA := a8 hw2; clear hw2; go_wp2_with fail; refine aL hK (af hZ uA) (fun hZ => ?_); clear hK K; refine uq 19 ?_; refine dC ?_; obtain ⟨wa, gY⟩ : ∃ wa, wa = OM := ⟨_, rfl⟩
    rw [<- gY] at hZ ⊢; have t6 := af bF hZ; clear gY p0 p1 p2 q0 xp nt k0 k1 k2; go_wp2_with fail
    go_roundw
    case rel => exact ⟨k + 1, by omega, by go_num, by rw [HF.out]; exact bS.keep hR cO.out hZ eI, t6, Bq.out.under hZ, zx.out.under hZ⟩
    case measure => simp [intOf]; omega
  ·have qZ : k = m.aa.length := by omega
   subst qZ; have hrow := cO.out; rw [List.take_length] at hrow; obtain ⟨ar, cr, hv, wV⟩ := hrow.leaf hR (Nat.le_trans FC bF.size); subst hv; have x1 := Bq.out.cell 1 _ rfl; have x2 := Bq.out.cell 2 _ rfl; have x3 := Bq.out.cell 3 _ rfl; have f0 := Bq.out.free 0; obtain ⟨oa, oc, od, mz, og, nL, oh, ol⟩ := zx.out.c8; have RY : Hid (bS 3 73 R B wr (w.heap.size + 2) (.slice ar (bV m).length cr) (bV m)) := hrow; have gH : ((m.aa.filter (isNamed m)).length : Int) = ((bV m).length : Int) := rfl; have Yx : Hid ((m.aa.filter (isNamed m)).length = (bV m).length) := rfl; clear hrow wV gH; go_wp2_with fail; rw [Yx.out]; refine bodyPost_ret (v := .agg #[.slice ar (bV m).length cr, .slice a1 m.ae.length c1, .slice a2 m.ag.length c2, .int .i64 m.ah]) (by rw [<- Yx.out]; simp [results, Tryz.results102, go_sem, *]) rfl ⟨ar, cr, rfl, ?_, ?_⟩
   ·refine bS.turn hR (F := [w.heap.size, w.heap.size + 1]) RY.out ?_ (fun k hk => by simp at hk; omega) (Nat.le_trans FC bF.size) (by omega)
    repeat (first | with_reducible exact aw.refl _ _ | with_reducible refine aw.setCell ?_ (by simp) _)
   ·refine bF.trans (aw.below (F := [w.heap.size, w.heap.size + 1]) ?_ (fun k hk => by simp at hk; omega) bF.size)
    repeat (first | with_reducible exact aw.refl _ _ | with_reducible refine aw.setCell ?_ (by simp) _)
def uC (d : az) : Bool :=
 decide (1 <= d.ah) && decide (d.ah <= 1000000) && (nQ d.ah 0 d.aa && decide (aP aJ d.aa <= 60000)) &&
  (decide (d.ae.length <= 30) && ly d.aa [] ByteArray.empty d.ae) && (decide (d.ag.length <= 30) && ly d.aa [] ByteArray.empty d.ag) && decide ((bV d).length = d.aa.length)
theorem B8 (d : az) : decide ((bV d).length = d.aa.length) = d.aa.all (isNamed d) := by
 unfold bV; rw [Bool.eq_iff_iff, decide_eq_true_eq, List.length_filter_eq_length_iff, List.all_eq_true]
theorem G9 (d : az) : uC d = bc d := by
 unfold uC bc; rw [B8, Bool.decide_and]; cases decide (1 <= d.ah) <;> cases decide (d.ah <= 1000000) <;> cases nQ d.ah 0 d.aa <;> cases decide (aP aJ d.aa <= 60000) <;> simp [Bool.and_assoc]
theorem xu (cs : List Value) (m : az) (w : World) (hr : bg w.heap.size w cs m) (hw : aZ m <= 16777216) :
  Calls Tryz.prog 36 #[.agg cs.toArray] w fun e w' => e = .returned (.bool (uC m)) /\ Below w.heap.size w w' := by
 have hq := hr; obtain ⟨a0, c0, a1, c1, a2, c2, rfl, hI, gf, gT, kX, _⟩ := hq; have hw2 : m.aa.length + aP aJ m.aa + (m.ae.length + aP a7 m.ae) + (m.ag.length + aP a7 m.ag) <= 16777216 := hw; have HW := Hm hw; have HR := Hm hr; have HI := Hm hI; have yE := Hm gf; have AG := Hm gT; clear hr hI gf gT hw; have Ny : -9223372036854775808 <= m.ah /\ m.ah <= 9223372036854775807 := by simpa [Lit.wf, IntKind.min, IntKind.max, IntKind.signed, IntKind.bits] using kX
 have Rt := Hm Ny; obtain ⟨V4, V5⟩ := Ny; go_enter Tryz.func36, Tryz.ntmps36; go_wp2_with fail; obtain ⟨wq, bI⟩ : ∃ wq, wq = w.alloc (.cells #[.slice a0 m.aa.length c0, .slice a1 m.ae.length c1, .slice a2 m.ag.length c2, .int .i64 m.ah] 27) := ⟨_, rfl⟩
 have cJ : Below w.heap.size w wq := by rw [bI]; exact rB.alloc rN _
 have cg : Bx wq w.heap.size (cj a0 c0 a1 c1 a2 c2 m) := by rw [bI]; exact Bx.new _ _ _
 rw [<- bI]; clear bI; have p0 : ∀ W, Below wq.heap.size wq W -> W.cell? ⟨w.heap.size, 0, none⟩ = some (.slice a0 m.aa.length c0) := fun W hb => (cg.under hb).2 0 _ rfl
 have p1 : ∀ W, Below wq.heap.size wq W -> W.cell? ⟨w.heap.size, 1, none⟩ = some (.slice a1 m.ae.length c1) := fun W hb => (cg.under hb).2 1 _ rfl
 have p2 : ∀ W, Below wq.heap.size wq W -> W.cell? ⟨w.heap.size, 2, none⟩ = some (.slice a2 m.ag.length c2) := fun W hb => (cg.under hb).2 2 _ rfl
 have p3 : ∀ W, Below wq.heap.size wq W -> W.cell? ⟨w.heap.size, 3, none⟩ = some (.int .i64 m.ah) := fun W hb => (cg.under hb).2 3 _ rfl
 have zC := fun W (hb : Below wq.heap.size wq W) => AA a0 c0 m.aa m.ah W (bw.mono aV (HI.out.below aV (af cJ hb)) (af cJ hb).size) (by omega) Rt.out
 have FA := fun W (hb : Below wq.heap.size wq W) => vM _ m W (aq.mono (aq.below HR.out (af cJ hb)) (af cJ hb).size) HW.out
 obtain ⟨A1, R8⟩ : ∃ b : Bool, (nQ m.ah 0 m.aa && decide (aP aJ m.aa <= 60000)) = b := ⟨_, rfl⟩
 obtain ⟨A2, yU⟩ : ∃ b : Bool, (decide (m.ae.length <= 30) && ly m.aa [] ByteArray.empty m.ae) = b := ⟨_, rfl⟩
 obtain ⟨A3, LU⟩ : ∃ b : Bool, (decide (m.ag.length <= 30) && ly m.aa [] ByteArray.empty m.ag) = b := ⟨_, rfl⟩
 have HV : Hid (uC m = (decide (1 <= m.ah) && decide (m.ah <= 1000000) && A1 && A2 && A3 && decide ((bV m).length = m.aa.length))) := by
  show uC m = _; unfold uC; rw [R8, yU, LU]
 have HA1 := Hm R8; simp only [R8] at zC
 by_cases h1 : 1 <= m.ah
 ·by_cases h2 : m.ah <= 1000000
  ·cases A1
   ·clear R8 yU LU FA
    refine kz wq (fun hZ => ?_); refine uq 0 ?_; refine uq 1 ?_; refine uq 2 ?_; refine uq 3 ?_; refine uq 4 ?_; refine uq 5 ?_; refine uq 6 ?_; refine uq 7 ?_; refine uq 8 ?_; refine uq 9 ?_; refine uq 10 ?_; refine uq 11 ?_; refine uq 12 ?_; refine bf 13 rfl fun K hK => ?_
    go_simp; refine Calls.mono (zC _ hZ) ?_; rintro e w1 ⟨rfl, hx1⟩; go_wp2_with fail; refine aL hK (af hZ hx1) (fun hZ => ?_); clear hK K; refine uq 14 ?_; refine uq 15 ?_; refine um 16 ?_; refine um 17 ?_; refine um 18 ?_; refine um 19 ?_; refine um 20 ?_; refine uq 21 ?_; refine uq 22 ?_; refine um 23 ?_; refine um 24 ?_; refine um 25 ?_; refine um 26 ?_; refine um 27 ?_; refine uq 28 ?_; refine uq 29 ?_; refine um 30 ?_; refine um 31 ?_; refine um 32 ?_; refine um 33 ?_; refine um 34 ?_; refine um 35 ?_; refine um 36 ?_; refine uq 37 ?_; refine uq 38 ?_; refine dC ?_; go_wp2_with fail; go_ret; exact ⟨by rw [HV.out]; simp, af cJ hZ⟩
   ·have Uz : m.aa.Pairwise fun x y => x.bi < y.bi := by
     have h := HA1.out; rw [Bool.and_eq_true] at h; exact rT h.1
    have QO := Hm Uz; clear Uz; have AH := fun W (hb : Below wq.heap.size wq W) => rk a1 a0 _ c1 c0 m.ae m.aa W rfl (bw.mono au (yE.out.below au (af cJ hb)) (af cJ hb).size) (bw.mono aV (HI.out.below aV (af cJ hb)) (af cJ hb).size) (by omega) (by omega) QO.out
    have B7 := fun W (hb : Below wq.heap.size wq W) => rk a2 a0 _ c2 c0 m.ag m.aa W rfl (bw.mono au (AG.out.below au (af cJ hb)) (af cJ hb).size) (bw.mono aV (HI.out.below aV (af cJ hb)) (af cJ hb).size) (by omega) (by omega) QO.out
    simp only [yU] at AH; simp only [LU] at B7; clear R8 yU LU; cases A2
    ·skip
     refine kz wq (fun hZ => ?_); refine uq 0 ?_; refine uq 1 ?_; refine uq 2 ?_; refine uq 3 ?_; refine uq 4 ?_; refine uq 5 ?_; refine uq 6 ?_; refine uq 7 ?_; refine uq 8 ?_; refine uq 9 ?_; refine uq 10 ?_; refine uq 11 ?_; refine uq 12 ?_; refine bf 13 rfl fun K hK => ?_
     go_simp; refine Calls.mono (zC _ hZ) ?_; rintro e w1 ⟨rfl, hx1⟩; go_wp2_with fail; refine aL hK (af hZ hx1) (fun hZ => ?_); clear hK K; refine uq 14 ?_; refine uq 15 ?_; refine uq 16 ?_; refine uq 17 ?_; refine uq 18 ?_; refine uq 19 ?_; refine bf 20 rfl fun K hK => ?_
     go_simp; refine Calls.mono (AH _ hZ) ?_; rintro e w2 ⟨rfl, hx2⟩; go_wp2_with fail; refine aL hK (af hZ hx2) (fun hZ => ?_); clear hK K; refine uq 21 ?_; refine uq 22 ?_; refine um 23 ?_; refine um 24 ?_; refine um 25 ?_; refine um 26 ?_; refine um 27 ?_; refine uq 28 ?_; refine uq 29 ?_; refine um 30 ?_; refine um 31 ?_; refine um 32 ?_; refine um 33 ?_; refine um 34 ?_; refine um 35 ?_; refine um 36 ?_; refine uq 37 ?_; refine uq 38 ?_; refine dC ?_; go_wp2_with fail; go_ret; exact ⟨by rw [HV.out]; simp, af cJ hZ⟩
    ·cases A3
     ·skip
      refine kz wq (fun hZ => ?_); refine uq 0 ?_; refine uq 1 ?_; refine uq 2 ?_; refine uq 3 ?_; refine uq 4 ?_; refine uq 5 ?_; refine uq 6 ?_; refine uq 7 ?_; refine uq 8 ?_; refine uq 9 ?_; refine uq 10 ?_; refine uq 11 ?_; refine uq 12 ?_; refine bf 13 rfl fun K hK => ?_
      go_simp; refine Calls.mono (zC _ hZ) ?_; rintro e w1 ⟨rfl, hx1⟩; go_wp2_with fail; refine aL hK (af hZ hx1) (fun hZ => ?_); clear hK K; refine uq 14 ?_; refine uq 15 ?_; refine uq 16 ?_; refine uq 17 ?_; refine uq 18 ?_; refine uq 19 ?_; refine bf 20 rfl fun K hK => ?_
      go_simp; refine Calls.mono (AH _ hZ) ?_; rintro e w2 ⟨rfl, hx2⟩; go_wp2_with fail; refine aL hK (af hZ hx2) (fun hZ => ?_); clear hK K; refine uq 21 ?_; refine uq 22 ?_; refine uq 23 ?_; refine uq 24 ?_; refine uq 25 ?_; refine uq 26 ?_; refine bf 27 rfl fun K hK => ?_
      go_simp; refine Calls.mono (B7 _ hZ) ?_; rintro e w3 ⟨rfl, hx3⟩; go_wp2_with fail; refine aL hK (af hZ hx3) (fun hZ => ?_); clear hK K; refine uq 28 ?_; refine uq 29 ?_; refine um 30 ?_; refine um 31 ?_; refine um 32 ?_; refine um 33 ?_; refine um 34 ?_; refine um 35 ?_; refine um 36 ?_; refine uq 37 ?_; refine uq 38 ?_; refine dC ?_; go_wp2_with fail; go_ret; exact ⟨by rw [HV.out]; simp, af cJ hZ⟩
     ·skip
      refine kz wq (fun hZ => ?_); refine uq 0 ?_; refine uq 1 ?_; refine uq 2 ?_; refine uq 3 ?_; refine uq 4 ?_; refine uq 5 ?_; refine uq 6 ?_; refine uq 7 ?_; refine uq 8 ?_; refine uq 9 ?_; refine uq 10 ?_; refine uq 11 ?_; refine uq 12 ?_; refine bf 13 rfl fun K hK => ?_
      go_simp; refine Calls.mono (zC _ hZ) ?_; rintro e w1 ⟨rfl, hx1⟩; go_wp2_with fail; refine aL hK (af hZ hx1) (fun hZ => ?_); clear hK K; refine uq 14 ?_; refine uq 15 ?_; refine uq 16 ?_; refine uq 17 ?_; refine uq 18 ?_; refine uq 19 ?_; refine bf 20 rfl fun K hK => ?_
      go_simp; refine Calls.mono (AH _ hZ) ?_; rintro e w2 ⟨rfl, hx2⟩; go_wp2_with fail; refine aL hK (af hZ hx2) (fun hZ => ?_); clear hK K; refine uq 21 ?_; refine uq 22 ?_; refine uq 23 ?_; refine uq 24 ?_; refine uq 25 ?_; refine uq 26 ?_; refine bf 27 rfl fun K hK => ?_
      go_simp; refine Calls.mono (B7 _ hZ) ?_; rintro e w3 ⟨rfl, hx3⟩; go_wp2_with fail; refine aL hK (af hZ hx3) (fun hZ => ?_); clear hK K; refine uq 28 ?_; refine uq 29 ?_; refine uq 30 ?_; refine uq 33 ?_; refine uq 34 ?_; refine uq 35 ?_; refine bf 31 rfl fun K hK => ?_
      go_simp; refine Calls.mono (FA _ hZ) ?_; rintro e w4 ⟨ar, cr, rfl, _, mX⟩; go_wp2_with fail; refine aL hK (af hZ mX) (fun hZ => ?_); clear hK K; refine uq 32 ?_; refine uq 36 ?_; refine uq 37 ?_; refine uq 38 ?_; refine dC ?_; go_wp2_with fail; go_ret; have gV : Hid (decide (1 <= m.ah) = true) := decide_eq_true h1; have uD : Hid (decide (m.ah <= 1000000) = true) := decide_eq_true h2; refine ⟨?_, af cJ hZ⟩; rw [HV.out, gV.out, uD.out]; simp; rw [Bool.eq_iff_iff, beq_iff_eq, decide_eq_true_eq]; omega
  ·have Uq : (m.ah <= 1000000) = False := eq_false h2
   have uD := Hm (decide_eq_false h2); refine kz wq (fun hZ => ?_); refine uq 0 ?_; refine uq 1 ?_; refine uq 2 ?_; refine uq 3 ?_; refine uq 4 ?_; refine uq 5 ?_; refine uq 6 ?_; refine uq 7 ?_; refine uq 8 ?_; refine um 9 ?_; refine um 10 ?_; refine um 11 ?_; refine um 12 ?_; refine um 13 ?_; refine uq 14 ?_; refine uq 15 ?_; refine um 16 ?_; refine um 17 ?_; refine um 18 ?_; refine um 19 ?_; refine um 20 ?_; refine uq 21 ?_; refine uq 22 ?_; refine um 23 ?_; refine um 24 ?_; refine um 25 ?_; refine um 26 ?_; refine um 27 ?_; refine uq 28 ?_; refine uq 29 ?_; refine um 30 ?_; refine um 31 ?_; refine um 32 ?_; refine um 33 ?_; refine um 34 ?_; refine um 35 ?_; refine um 36 ?_; refine uq 37 ?_; refine uq 38 ?_; refine dC ?_; go_wp2_with fail; go_ret; exact ⟨by rw [HV.out, uD.out]; simp, af cJ hZ⟩
 ·have QF : (1 <= m.ah) = False := eq_false h1
  have gV := Hm (decide_eq_false h1); refine kz wq (fun hZ => ?_); refine uq 0 ?_; refine uq 1 ?_; refine uq 2 ?_; refine uq 3 ?_; refine um 4 ?_; refine um 5 ?_; refine um 6 ?_; refine uq 7 ?_; refine uq 8 ?_; refine um 9 ?_; refine um 10 ?_; refine um 11 ?_; refine um 12 ?_; refine um 13 ?_; refine uq 14 ?_; refine uq 15 ?_; refine um 16 ?_; refine um 17 ?_; refine um 18 ?_; refine um 19 ?_; refine um 20 ?_; refine uq 21 ?_; refine uq 22 ?_; refine um 23 ?_; refine um 24 ?_; refine um 25 ?_; refine um 26 ?_; refine um 27 ?_; refine uq 28 ?_; refine uq 29 ?_; refine um 30 ?_; refine um 31 ?_; refine um 32 ?_; refine um 33 ?_; refine um 34 ?_; refine um 35 ?_; refine um 36 ?_; refine uq 37 ?_; refine uq 38 ?_; refine dC ?_; go_wp2_with fail; go_ret; exact ⟨by rw [HV.out, gV.out]; simp, af cJ hZ⟩
theorem tz (cs : List Value) (m : az) (w : World) (hr : bg w.heap.size w cs m) (hw : aZ m <= 16777216) :
  Calls Tryz.prog 36 #[.agg cs.toArray] w fun e w' => e = .returned (.bool (bc m)) /\ Below w.heap.size w w' := by
 rw [<- G9]; exact xu cs m w hr hw
theorem jZ (cs : List Value) (m : az) (w : World) (hr : bg w.heap.size w cs m) (hw : aZ m <= 1048576) :
  Calls Tryz.prog 36 #[.agg cs.toArray] w fun e w' => e = .returned (.bool (bc m)) /\ Below w.heap.size w w' :=
 tz cs m w hr (by omega)
theorem OY {B base : Nat} {W : World} {ak b1 b2 : Option Addr} {ck d1 d2 : Nat} {n : az} (h : bS 3 73 dL B W base (.slice ak (bV n).length ck) (bV n)) (hB : B <= W.heap.size) (hN : bw 2 cy B W b1 d1 n.ae) (hS : bw 2 cy B W b2 d2 n.ag) (hx : (Lit.int .i64 n.ah).wf = true) :
  bg W.heap.size W [.slice ak (bV n).length ck, .slice b1 n.ae.length d1, .slice b2 n.ag.length d2, .int .i64 n.ah] (aY n) := by
 obtain ⟨a', c', he, h1⟩ := h.leaf aV hB; simp only [Value.slice.injEq, true_and] at he; obtain ⟨rfl, rfl⟩ := he; exact ⟨ak, ck, b1, d1, b2, d2, rfl, h1, bw.mono au hN hB, bw.mono au hS hB, hx, trivial⟩
theorem yZ (cs : List Value) (m : az) (w : World) (hr : bg w.heap.size w cs m) (hw : aZ m <= 1048576) :
  Calls Tryz.prog 60 #[.agg cs.toArray] w fun e w' => ∃ (cs' : List Value) (F : List Nat), e = .returned (.tuple #[.agg cs'.toArray, .int .i64 (eL m)]) /\ ba w' cs' (cC m) F /\ F.Nodup /\ (∀ b, b ∈ F -> w.heap.size <= b) /\ Below w.heap.size w w' := by
 have hq := hr; obtain ⟨a0, c0, a1, c1, a2, c2, rfl, hI, gf, gT, kX, _⟩ := hq; have hw2 : m.aa.length + aP aJ m.aa + (m.ae.length + aP a7 m.ae) + (m.ag.length + aP a7 m.ag) <= 1048576 := hw; have HW := Hm hw; have HR := Hm hr; have HI := Hm hI; have Dt := Hm gf; clear hr hI gf gT hw; go_enter Tryz.func60, Tryz.ntmps60; go_wp2_with fail; obtain ⟨wq, bI⟩ : ∃ wq, wq = ((w.alloc (.cells #[.slice a0 m.aa.length c0, .slice a1 m.ae.length c1, .slice a2 m.ag.length c2, .int .i64 m.ah] 27)).alloc (.cells #[.slice none 0 0, .slice none 0 0, .slice none 0 0, .int .i64 0] 27)) := ⟨_, rfl⟩
 have cJ : Below w.heap.size w wq := by rw [bI]; exact Below.alloc (Below.alloc rB (by exact rN) _) (by simp; try omega) _
 have dl : Bw wq (w.heap.size) 27 (cj a0 c0 a1 c1 a2 c2 m) := by rw [bI]; exact Bw.alloc (Bw.dX _ _ _ (by simp)) _
 have hbr : Bw wq (w.heap.size + 1) 27 oz := by rw [bI]; exact Bw.dX _ _ _ (by simp)
 rw [<- bI]; clear bI; refine (jZ _ m wq (aq.mono (aq.below HR.out cJ) cJ.size) HW.out).mono ?_; rintro e w1 ⟨rfl, hx1⟩; have hb1 := af cJ hx1; have df := dl.under hx1; have dB := hbr.under hx1; have sF := df.lt; have JL := dB.lt; obtain ⟨y0, y1, y2, y3⟩ := df.c4; clear dl hbr
 by_cases hK : bc m = true
 ·have HV : Hid (cC m = aY { m with ag := m.ae } /\ eL m = 0) := by refine ⟨?_, ?_⟩ <;> simp [cC, eL, hK]
  have hwt := eB hK; have Aw : aZ { m with ag := m.ae } <= 1048576 := by rw [cR]; simp only; omega
  have AK : Hid (aZ { m with ag := m.ae } <= 16777216) := by show _ <= _; omega
  have NG : Hid (aZ (aY { m with ag := m.ae }) <= 1048576) := Nat.le_trans (jS _) Aw; rw [hK]; clear hK hwt Aw; have f2 := df.free 2; go_wp2_with fail; obtain ⟨ws, jh⟩ : ∃ ws, ws = w1.setCell ⟨w.heap.size, 2, none⟩ (.slice a1 m.ae.length c1) := ⟨_, rfl⟩
  have jw : aw [w.heap.size] w1 ws := by rw [jh]; exact aw.setCell (aw.refl _ _) (by simp) _
  have oT : Bw ws w.heap.size 27 [.slice a0 m.aa.length c0, .slice a1 m.ae.length c1, .slice a1 m.ae.length c1, .int .i64 m.ah] := by rw [jh]; exact df.put 2 _
  rw [<- jh]; clear jh y0 y1 y2 y3 f2; have jd := dB.turn jw (by simp); have l8 : Below w.heap.size w ws := hb1.trans (jw.below (fun k hk => by simp at hk; omega) hb1.size); refine (iY a0 a1 a1 c0 c1 c1 { m with ag := m.ae } ws w.heap.size l8.size (HI.out.below aV l8) (bw.mono au (Dt.out.below au l8) l8.size) (bw.mono au (Dt.out.below au l8) l8.size) AK.out).mono ?_; rintro e w2 ⟨ak, ck, rfl, hrow, _, hx2⟩; have oQ := Hm hrow; have hb2 := af l8 hx2; have eT := oT.under hx2; have bZ := jd.under hx2; have hl2 := eT.lt; have Sk := oT.lt; have JM := jd.lt; obtain ⟨y0, y1, y2, y3⟩ := eT.c4; have f0 := eT.free 0; clear hrow; go_wp2_with fail; obtain ⟨wt, hwt⟩ : ∃ wt, wt = w2.setCell ⟨w.heap.size, 0, none⟩ (.slice ak (bV { m with ag := m.ae }).length ck) := ⟨_, rfl⟩
  have AL : aw [w.heap.size] w2 wt := by rw [hwt]; exact aw.setCell (aw.refl _ _) (by simp) _
  rw [<- hwt]; clear hwt y0 y1 y2 y3 f0; have xD := bZ.turn AL (by simp); have Cc : Below w.heap.size w wt := hb2.trans (AL.below (fun k hk => by simp at hk; omega) hb2.size); have Hg := OY (bS.turn aV oQ.out AL (fun k hk => by simp at hk; omega) hb2.size rN) Cc.size (Dt.out.below au Cc) (Dt.out.below au Cc) kX; refine (cE _ (aY { m with ag := m.ae }) wt Hg NG.out).mono ?_; rintro e w3 ⟨uB, F3, rfl, eU, jx, cm, hx3⟩; have hb3 := af Cc hx3; have dc := xD.under hx3; have sI := dc.lt; have hz3 := Cc.size; have Ce := xD.lt; obtain ⟨q0, p0, q1, p1, q2, p2, G0, G1, G2, rfl, _, _, _, _, rfl⟩ := aC eU
  have hkey : ∀ W', aw [w.heap.size + 1] w3 W' -> ba W' [.slice q0 (aY { m with ag := m.ae }).aa.length p0, .slice q1 (aY { m with ag := m.ae }).ae.length p1, .slice q2 (aY { m with ag := m.ae }).ag.length p2, .int .i64 (aY { m with ag := m.ae }).ah] (aY { m with ag := m.ae }) (G0 ++ G1 ++ G2 ++ []) /\ Below w.heap.size w W' := fun W' hT =>
   ⟨aj.frame eU (fun b hb => hT.block b (aj.lt eU b hb) (fun h => by simp at h; have := cm b hb; omega)), hb3.trans (hT.below (fun k hk => by simp at hk; omega) hb3.size)⟩
  have HKEY := Hm hkey; have rW := Hm jx; have pW : Hid (∀ b, b ∈ G0 ++ G1 ++ G2 ++ [] -> w.heap.size <= b) := fun b hb => by have := cm b hb; omega
  clear hkey eU jx cm ; obtain ⟨oa, od, og, oh⟩ := dc.c4; obtain ⟨oc, mz, nL, ol⟩ := dc.f4; go_wp2_with fail; obtain ⟨h1, h3⟩ := HKEY.out _ (show aw [w.heap.size + 1] w3 ((((w3.setCell ⟨w.heap.size + 1, 0, none⟩ (.slice q0 (aY { m with ag := m.ae }).aa.length p0)).setCell ⟨w.heap.size + 1, 1, none⟩ (.slice q1 (aY { m with ag := m.ae }).ae.length p1)).setCell ⟨w.heap.size + 1, 2, none⟩ (.slice q2 (aY { m with ag := m.ae }).ag.length p2)).setCell ⟨w.heap.size + 1, 3, none⟩ (.int .i64 (aY { m with ag := m.ae }).ah)) from bE _ _ _ _ _ _); exact bodyPost_ret (v := .tuple #[.agg #[.slice q0 (aY { m with ag := m.ae }).aa.length p0, .slice q1 (aY { m with ag := m.ae }).ae.length p1, .slice q2 (aY { m with ag := m.ae }).ag.length p2, .int .i64 (aY { m with ag := m.ae }).ah], .int .i64 0]) (by simp [results, Tryz.results60, go_sem, *]) rfl ⟨[.slice q0 (aY { m with ag := m.ae }).aa.length p0, .slice q1 (aY { m with ag := m.ae }).ae.length p1, .slice q2 (aY { m with ag := m.ae }).ag.length p2, .int .i64 (aY { m with ag := m.ae }).ah], _, by rw [HV.out.2], by rw [HV.out.1]; exact h1, rW.out, pW.out, h3⟩
 ·have hK2 : bc m = false := Bool.eq_false_iff.2 hK
  have HV : Hid (cC m = m /\ eL m = 1) := by refine ⟨?_, ?_⟩ <;> simp [cC, eL, hK2]
  rw [hK2]; clear hK hK2; go_wp2_with fail; refine (cE _ (m) w1 (aq.mono (aq.below HR.out hb1) hb1.size) HW.out).mono ?_; rintro e w3 ⟨uB, F3, rfl, eU, jx, cm, hx3⟩; have hb3 := af hb1 hx3; have dc := dB.under hx3; have sI := dc.lt; have hz3 := hb1.size; have Ce := dB.lt; obtain ⟨q0, p0, q1, p1, q2, p2, G0, G1, G2, rfl, _, _, _, _, rfl⟩ := aC eU
  have hkey : ∀ W', aw [w.heap.size + 1] w3 W' -> ba W' (cj q0 p0 q1 p1 q2 p2 m) (m) (G0 ++ G1 ++ G2 ++ []) /\ Below w.heap.size w W' := fun W' hT =>
   ⟨aj.frame eU (fun b hb => hT.block b (aj.lt eU b hb) (fun h => by simp at h; have := cm b hb; omega)), hb3.trans (hT.below (fun k hk => by simp at hk; omega) hb3.size)⟩
  have HKEY := Hm hkey; have rW := Hm jx; have pW : Hid (∀ b, b ∈ G0 ++ G1 ++ G2 ++ [] -> w.heap.size <= b) := fun b hb => by have := cm b hb; omega
  clear hkey eU jx cm y0 y1 y2 y3; obtain ⟨oa, od, og, oh⟩ := dc.c4; obtain ⟨oc, mz, nL, ol⟩ := dc.f4; go_wp2_with fail; obtain ⟨h1, h3⟩ := HKEY.out _ (show aw [w.heap.size + 1] w3 ((((w3.setCell ⟨w.heap.size + 1, 0, none⟩ (.slice q0 m.aa.length p0)).setCell ⟨w.heap.size + 1, 1, none⟩ (.slice q1 m.ae.length p1)).setCell ⟨w.heap.size + 1, 2, none⟩ (.slice q2 m.ag.length p2)).setCell ⟨w.heap.size + 1, 3, none⟩ (.int .i64 m.ah)) from bE _ _ _ _ _ _); exact bodyPost_ret (v := .tuple #[.agg #[.slice q0 m.aa.length p0, .slice q1 m.ae.length p1, .slice q2 m.ag.length p2, .int .i64 m.ah], .int .i64 1]) (by simp [results, Tryz.results60, go_sem, *]) rfl ⟨(cj q0 p0 q1 p1 q2 p2 m), _, by rw [HV.out.2], by rw [HV.out.1]; exact h1, rW.out, pW.out, h3⟩
end Go.Proofs.YtcamcgfbljhbhaaGreatDoor

namespace Go.Proofs.YtcamcgfbljhbhaaGreatDoor
open Go.RowKit
theorem vq {size : Nat} : ∀ {css : List (List Value)} {j : Nat} {cs' : List Value}, (∀ c, c ∈ css -> c.length = size) -> j < css.length -> cs'.length = size ->
  (css.set j cs').flatten = css.flatten.take (j * size) ++ cs' ++ css.flatten.drop (j * size + size)
 | [], j, cs', _, h, _ => by simp at h
 | c :: r, 0, cs', hc, _, hl => by
  have h1 := hc c (by simp); simp only [List.set_cons_zero, List.flatten_cons, Nat.zero_mul, List.take_zero, List.nil_append, Nat.zero_add]; rw [<- h1, List.drop_left]
 | c :: r, j + 1, cs', hc, hj, hl => by
  have h1 := hc c (by simp); have ih := vq (css := r) (j := j) (cs' := cs') (fun x hx => hc x (by simp [hx])) (by simpa using hj) hl; simp only [List.set_cons_succ, List.flatten_cons, ih]; have e1 : (j + 1) * size = c.length + j * size := by rw [Nat.succ_mul, h1]; omega
  have e2 : (j + 1) * size + size = c.length + (j * size + size) := by omega
  rw [e2, e1, List.take_append, List.drop_append]; simp [List.take_of_length_le, List.drop_eq_nil_of_le]
theorem bS.put {α : Type} {size : Nat} {e : TypeId} {R : nS α} (hR : R.Good) {B base : Nat} {w : World} {g cap : Nat} {l : List α} (h : bS size e R B w base (.slice (some ⟨g, 0, none⟩) l.length cap) l) (hB : B <= base) (vr : B <= w.heap.size) {j : Nat} (hj : j < l.length) {cs' : List Value} {m' : α} (hc : cs'.length = size) (hm : R B w cs' m') :
  bS size e R B (w.setCells g (j * size) cs') base (.slice (some ⟨g, 0, none⟩) l.length cap) (l.set j m') /\ aw [g] w (w.setCells g (j * size) cs') /\ base <= g := by
 obtain ⟨css, r1, r2, r3, r4⟩ := h; have wN := jm r2; rcases r4.2 with ⟨h0, _⟩ | ⟨g', cap', cur, h0, hb, hg, po, hmx, hs, ht⟩
 ·cases h0
 ·simp only [Value.slice.injEq, Option.some.injEq, Addr.mk.injEq, and_true, true_and] at h0
  obtain ⟨rfl, rfl⟩ := h0; have Hl : j < css.length := by omega
  have hmul : (j + 1) * size <= l.length * size := Nat.mul_le_mul_right _ hj; rw [Nat.succ_mul] at hmul; have YX : l.length * size <= cap * size := Nat.mul_le_mul_right _ po
  have hT : ∀ (vs : List Value) (o : Nat) (W : World), aw [g] w W -> aw [g] w (W.setCells g o vs) := by
   intro vs
   induction vs with
   | nil => intro o W h; exact h
   | cons v r ih => intro o W h; exact ih (o + 1) _ (aw.setCell h (by simp) v)
  have YY := hT cs' (j * size) w (aw.refl _ _); obtain ⟨cur', d1, d2, d3⟩ := nG g e cs' (j * size) w cur hg (by rw [hc]; omega); have Uu : B <= g := Nat.le_trans hB hb; refine ⟨⟨css.set j cs', by simp [r1], ?_, ?_, ?_⟩, YY, hb⟩
  ·intro c hcm
   rcases List.mem_or_eq_of_mem_set hcm with h | h
   ·exact r2 c h
   ·rw [h]; exact hc
  ·intro i h1 h2
   have hbl := YY.below (B := B) (fun k hk => by simp at hk; omega) vr; simp only [List.length_set] at h1 h2
   by_cases Bl : i = j
   ·subst Bl
    rw [List.getElem_set_self, List.getElem_set_self]; exact hR.below hm hbl
   ·rw [List.getElem_set_ne (Ne.symm Bl), List.getElem_set_ne (Ne.symm Bl)]
    exact hR.below (r3 i h1 h2) hbl
  ·refine ⟨?_, .inr ⟨g, cap, cur', by simp, hb, d1, by simpa using po, hmx, by rw [d2, hs], ?_⟩⟩
   ·rw [jm (size := size)]
    ·simp [r1]
    ·intro c hcm
     rcases List.mem_or_eq_of_mem_set hcm with h | h
     ·exact r2 c h
     ·rw [h]; exact hc
   ·rw [vq r2 Hl hc, <- ht, d3]
    have iw : cur.toList.length = cap * size := by simpa using hs
    apply List.ext_getElem?; intro i; simp only [List.getElem?_take, List.getElem?_append, List.length_append, List.length_take, List.getElem?_drop, hc, List.length_set, iw]; have e1 : min (j * size) (cap * size) = j * size := by omega
    have e2 : min (j * size) (min (l.length * size) (cap * size)) = j * size := by omega
    rw [e1, e2]
    by_cases h1 : i < j * size
    ·have h2 : i < l.length * size := by omega
     have h3 : i < j * size + size := by omega
     simp [h1, h2, h3]
    ·by_cases h3 : i < j * size + size
     ·have h2 : i < l.length * size := by omega
      have h4 : i - j * size < size := by omega
      simp [h1, h2, h3, h4]
     ·have e3 : j * size + size + (i - (j * size + size)) = i := by omega
      simp [h1, h3, e3]
theorem bS.at {α : Type} {size : Nat} {e : TypeId} {R : nS α} {B base : Nat} {w : World} {v : Value} {l : List α} (h : bS size e R B w base v l) {j : Nat} (hj : j < l.length) :
  ∃ g cap cs, v = .slice (some ⟨g, 0, none⟩) l.length cap /\ base <= g /\ g < w.heap.size /\ cs.length = size /\ R B w cs l[j] /\ (∀ i u, cs[i]? = some u -> w.cell? ⟨g, j * size + i, none⟩ = some u) /\ ∀ i, w.frozen? ⟨g, i, none⟩ = false := by
 obtain ⟨css, r1, r2, r3, r4⟩ := h; have Hl : j < css.length := by omega
 rcases r4.2 with ⟨_, h0⟩ | ⟨g, cap, cur, rfl, hb, hg, po, hmx, hs, ht⟩
 ·omega
 ·refine ⟨g, cap, css[j], rfl, hb, (Array.getElem?_eq_some_iff.1 hg).1, r2 _ (List.getElem_mem Hl), r3 j hj Hl, fun i u hu => ?_, fun i => frozen_of_row w g i cur e hg⟩
  have hi : i < size := by
   have := (List.getElem?_eq_some_iff.1 hu).1; rw [r2 _ (List.getElem_mem Hl)] at this; exact this
  have hf := kF r2 (j := j) hi; rw [List.getElem?_eq_getElem Hl, Option.bind_some, hu, <- ht, List.getElem?_take] at hf
  split at hf
  ·rw [cell_of_row w g _ cur e (0, 0) hg]
   simpa using hf
  ·cases hf
theorem tH {size : Nat} : ∀ {css : List (List Value)} {j i : Nat} {u : Value} (hj : j < css.length), (∀ c, c ∈ css -> c.length = size) -> i < size -> (css.set j (css[j].set i u)).flatten = css.flatten.set (j * size + i) u
 | [], j, i, u, h, _, _ => by simp at h
 | c :: r, 0, i, u, _, hc, hi => by
  have h1 := hc c (by simp); simp only [List.set_cons_zero, List.flatten_cons, Nat.zero_mul, Nat.zero_add, List.getElem_cons_zero]; rw [List.set_append_left _ _ (by omega)]
 | c :: r, j + 1, i, u, hj, hc, hi => by
  have h1 := hc c (by simp); have ih := tH (css := r) (j := j) (i := i) (u := u) (by simpa using hj) (fun x hx => hc x (by simp [hx])) hi; simp only [List.set_cons_succ, List.flatten_cons, List.getElem_cons_succ, ih]; rw [List.set_append_right _ _ (by rw [h1, Nat.succ_mul]; omega)]
  congr 2
  rw [h1, Nat.succ_mul]; omega
theorem bS.split {α : Type} {size : Nat} {e : TypeId} {R : nS α} (hR : R.Good) {B base : Nat} {w : World} {v : Value} {l : List α} (h : bS size e R B w base v l) (hB : B <= base) (vr : B <= w.heap.size) {j : Nat} (hj : j < l.length) :
  ∃ g cap cs, v = .slice (some ⟨g, 0, none⟩) l.length cap /\ base <= g /\ g < w.heap.size /\ cs.length = size /\ R B w cs l[j] /\ (∀ i u, cs[i]? = some u -> w.cell? ⟨g, j * size + i, none⟩ = some u) /\ (∀ i, w.frozen? ⟨g, i, none⟩ = false) /\
   ∀ (i : Nat) (u : Value) (m' : α), i < size -> R B w (cs.set i u) m' -> bS size e R B (w.setCell ⟨g, j * size + i, none⟩ u) base v (l.set j m') := by
 have hat := h.at hj; obtain ⟨css, r1, r2, r3, r4⟩ := h; have Hl : j < css.length := by omega
 rcases r4.2 with ⟨_, h0⟩ | ⟨g, cap, cur, rfl, hb, hg, po, hmx, hs, ht⟩
 ·omega
 ·have Ps : ∀ i u, css[j][i]? = some u -> w.cell? ⟨g, j * size + i, none⟩ = some u := by
   intro i u hu
   have hi : i < size := by
    have := (List.getElem?_eq_some_iff.1 hu).1; rw [r2 _ (List.getElem_mem Hl)] at this; exact this
   have hf := kF r2 (j := j) hi; rw [List.getElem?_eq_getElem Hl, Option.bind_some, hu, <- ht, List.getElem?_take] at hf
   split at hf
   ·rw [cell_of_row w g _ cur e (0, 0) hg]
    simpa using hf
   ·cases hf
  refine ⟨g, cap, css[j], rfl, hb, (Array.getElem?_eq_some_iff.1 hg).1, r2 _ (List.getElem_mem Hl), r3 j hj Hl, Ps, fun i => frozen_of_row w g i cur e hg, ?_⟩; intro i u m' hi hm; have hT : aw [g] w (w.setCell ⟨g, j * size + i, none⟩ u) := aw.setCell (aw.refl _ _) (by simp) _; have hbl := hT.below (B := B) (fun k hk => by simp at hk; omega) vr
  have hl2 : ∀ c, c ∈ css.set j (css[j].set i u) -> c.length = size := by
   intro c hcm; rcases List.mem_or_eq_of_mem_set hcm with h | h
   ·exact r2 c h
   ·rw [h, List.length_set]; exact r2 _ (List.getElem_mem Hl)
  refine ⟨css.set j (css[j].set i u), by simp [r1], hl2, ?_, ?_⟩
  ·intro x h1 h2
   simp only [List.length_set] at h1 h2
   by_cases IU : x = j
   ·subst IU
    rw [List.getElem_set_self, List.getElem_set_self]; exact hR.below hm hbl
   ·rw [List.getElem_set_ne (Ne.symm IU), List.getElem_set_ne (Ne.symm IU)]
    exact hR.below (r3 x h1 h2) hbl
  ·refine ⟨by rw [jm hl2]; simp [r1], .inr ⟨g, cap, cur.setIfInBounds (j * size + i) u, by simp, hb, heap_setCell_same w g _ cur e u hg, by simpa using po, hmx, by simpa using hs, ?_⟩⟩
   rw [tH Hl r2 hi, <- ht, Array.toList_setIfInBounds, List.take_set, List.length_set]
theorem lO.cut {e : TypeId} {w : World} {a : Option Addr} {n c : Nat} {zs : List Int} {F : List Nat} (h : lO e w (.slice a n c) zs F) (hn : zs.length = n) {k : Nat} (hk : k <= n) : lO e w (.slice a k c) (zs.take k) F := by
 obtain ⟨h1, h2, rfl⟩ := h; have hl : (zs.take k).length = k := by simp; omega
 refine ⟨⟨by simp, ?_⟩, fun z hz => h2 z (List.mem_of_mem_take hz), by cases a <;> rfl⟩; rcases h1.2 with ⟨h0, h0'⟩ | ⟨g, cap, cur, h0, hb, hg, po, hm, hs, ht⟩
 ·simp only [Value.slice.injEq] at h0
  obtain ⟨rfl, rfl, rfl⟩ := h0; left; have : k = 0 := by omega
  subst this; exact ⟨rfl, by simp⟩
 ·simp only [Value.slice.injEq] at h0
  obtain ⟨rfl, h0n, rfl⟩ := h0; right; refine ⟨g, c, cur, by rw [hl], hb, hg, by omega, hm, hs, ?_⟩; rw [hl, Nat.mul_one, List.map_take, <- ht, Nat.mul_one, List.take_take]
  congr 1
  omega
theorem fM.take {B : Nat} {w : World} {a : Option Addr} {c : Nat} {zs : List Int} (h : fM B w a c zs) (n : Nat) : fM B w a c (zs.take n) := by
 refine ⟨by have := h.1; simp; omega, h.2.1, fun j hj => ?_, fun z hz => h.2.2.2 z (List.mem_of_mem_take hz)⟩; have vd : j < zs.length := by simp at hj; omega
 obtain ⟨b, off, e, hb, hc⟩ := h.2.2.1 j vd; refine ⟨b, off, e, hb, ?_⟩; rw [hc]; have LO : j < n := by simp at hj; omega
 simp [List.getD_eq_getElem?_getD, List.getElem?_take, LO]
def cG {α : Type} (f : α -> α) (l : List α) (k : Nat) : List α := (l.take k).map f ++ l.drop k
theorem tI {α : Type} (f : α -> α) (l : List α) : cG f l 0 = l := by simp [cG]
theorem vt {α : Type} (f : α -> α) (l : List α) : cG f l l.length = l.map f := by simp [cG]
theorem pX {α : Type} (f : α -> α) (l : List α) {k : Nat} (h : k <= l.length) : (cG f l k).length = l.length := by simp [cG]; omega
theorem oV {α : Type} (f : α -> α) (l : List α) {k : Nat} (h : k < l.length) (h2 : k < (cG f l k).length) : (cG f l k)[k] = l[k] := by
 have h3 : (cG f l k)[k]? = some l[k] := by
  unfold cG; have hm : min k l.length = k := by omega
  rw [List.getElem?_append_right (by simp; omega)]; simp only [List.length_map, List.length_take, hm, Nat.sub_self, List.getElem?_drop, Nat.add_zero]; exact List.getElem?_eq_getElem h
 rw [List.getElem?_eq_getElem h2] at h3; exact Option.some.inj h3
theorem oW {α : Type} (f : α -> α) (l : List α) {k : Nat} (h : k < l.length) : (cG f l k).set k (f l[k]) = cG f l (k + 1) := by
 unfold cG; have hm : min k l.length = k := by omega
 rw [List.set_append_right _ _ (by simp; omega)]; simp only [List.length_map, List.length_take, hm, Nat.sub_self]; rw [List.drop_eq_getElem_cons h, List.set_cons_zero, List.take_succ_eq_append_getElem h, List.map_append, List.append_assoc]; rfl
end Go.Proofs.YtcamcgfbljhbhaaGreatDoor
