/-
  Part 12 of the texts that the proof leans on.
-/
import Derived.Test.YtcamcgfbljhbhaaGreatDoorMan2
import Derived.Test.YtcamcgfbljhbhaaGreatDoorMan10
import Derived.Maps.RangeWalk
import Derived.Sort.KeysCollected
import Derived.Test.YtcamcgfbljhbhaaGreatDoorMan0
import Derived.Test.YtcamcgfbljhbhaaGreatDoorMan5
import Derived.Test.YtcamcgfbljhbhaaGreatDoorMan4
import Derived.Test.YtcamcgfbljhbhaaGreatDoorMan1
import Derived.Test.YtcamcgfbljhbhaaGreatDoorMan3
import Derived.Test.YtcamcgfbljhbhaaGreatDoorMan6
set_option linter.unusedVariables false
set_option linter.unusedSimpArgs false
set_option maxRecDepth 10000
set_option maxHeartbeats 20000000

namespace Go.Proofs.YtcamcgfbljhbhaaGreatDoor
open Go.RowKit
theorem aF.split {α : Type} {size : Nat} {e : TypeId} {O : jy α} {R : nS α} (hO : O.Good R size) {w : World} {g cap : Nat} {l : List α} {F : List Nat} (h : aF size e O w (.slice (some ⟨g, 0, none⟩) l.length cap) l F) (hN : F.Nodup) {k : Nat} (hk : k < l.length) :
  ∃ cs Fk, O w cs l[k] Fk /\ Fk.Nodup /\ (∀ b, b ∈ Fk -> b ∈ F /\ b ≠ g) /\ g ∈ F /\ (∀ i u, cs[i]? = some u -> w.cell? ⟨g, k * size + i, none⟩ = some u) /\ (∀ i, w.frozen? ⟨g, i, none⟩ = false) /\
   ∀ (W : World) (i : Nat) (u : Value) (m' : α) (G Fn : List Nat), i < size -> aw Fk w W -> O W (cs.set i u) m' G -> G.Nodup -> (∀ b, b ∈ G -> b ∈ Fk ∨ b ∈ Fn) -> (∀ b, b ∈ Fn -> b ∉ F) ->
    ∃ F', aF size e O (W.setCell ⟨g, k * size + i, none⟩ u) (.slice (some ⟨g, 0, none⟩) l.length cap) (l.set k m') F' /\ F'.Nodup /\ ∀ b, b ∈ F' -> b ∈ F ∨ b ∈ Fn := by
 rcases h with ⟨h0, _, _⟩ | ⟨g', cap', cur, Fs, h1, h2, h3, h4, h5, h6, h7, rfl⟩
 ·cases h0
 ·simp only [Value.slice.injEq, Option.some.injEq, Addr.mk.injEq, and_true, true_and] at h1
  obtain ⟨rfl, rfl⟩ := h1; rw [List.nodup_cons] at hN; have Do : k < Fs.length := by omega
  have BP : Fs.getD k [] = Fs[k] := by rw [List.getD_eq_getElem?_getD, List.getElem?_eq_getElem Do]; rfl
  have hfn := e9.1 hN.2; have Qv : (Fs.getD k []).Nodup := by rw [BP]; exact hfn.1 _ (List.getElem_mem Do)
  refine ⟨_, _, h7 k hk, Qv, fun b hb => ⟨List.mem_cons_of_mem _ (dh Do hb), fun e => hN.1 (by rw [<- e]; exact dh Do hb)⟩, by simp, fun i u hu => ?_, fun i => frozen_of_row w g i cur e h2, ?_⟩
  ·rw [cell_of_row w g _ cur e (0, 0) h2]
   rw [List.getElem?_take] at hu
   split at hu
   ·rw [List.getElem?_drop] at hu
    simpa using hu
   ·cases hu
  intro W i u m' G Fn hi hT g1 g2 g3 Nu; have Og : ∀ b, b ∈ Fn -> b ∉ Fs.flatten := fun b hb hb2 => Nu b hb (List.mem_cons_of_mem _ hb2)
  obtain ⟨n1, n2⟩ := zu Do hN.2 g2 g3 Og
  have ut : g ∉ (Fs.set k G).flatten := by
   intro hg; rcases n2 g hg with hg | hg
   ·exact hN.1 hg
   ·exact Nu g hg (by simp)
  have hgW : W.heap[g]? = some (.cells cur e (0, 0)) := (hT.block g (Array.getElem?_eq_some_iff.1 h2).1 (fun hm => hN.1 (dh Do hm))).trans h2; have hs := heap_setCell_same W g (k * size + i) cur e u hgW; refine ⟨g :: (Fs.set k G).flatten, .inr ⟨g, cap, cur.setIfInBounds (k * size + i) u, Fs.set k G, by simp, hs, by simpa using h3, h4, by simpa using h5, by simp [h6], ?_, rfl⟩, List.nodup_cons.2 ⟨ut, n1⟩, ?_⟩
  ·intro j hj
   have hj' : j < l.length := by simpa using hj
   have m6 : ∀ b, b ∈ (Fs.set k G).getD j [] -> (W.setCell ⟨g, k * size + i, none⟩ u).heap[b]? = W.heap[b]? := by
    intro b hb; have Vk : b ∈ (Fs.set k G).flatten := dh (by simp; omega) hb; exact heap_setCell_other W ⟨g, k * size + i, none⟩ b u (fun hh => ut (by have : b = g := hh; rw [<- this]; exact Vk))
   have hlen : cur.toList.length = cap * size := by simpa using h5
   by_cases hjk : j = k
   ·subst hjk
    have e1 : ((cur.setIfInBounds (j * size + i) u).toList.drop (j * size)).take size = ((cur.toList.drop (j * size)).take size).set i u := by
     rw [Array.toList_setIfInBounds]; apply List.ext_getElem?; intro x; rw [List.getElem?_take, List.getElem?_drop, List.getElem?_set, List.getElem?_set, List.getElem?_take, List.getElem?_drop]
     by_cases hx : x < size
     ·rw [if_pos hx, if_pos hx]
      by_cases Qw : i = x
      ·subst Qw
       have hmul : (j + 1) * size <= cap * size := Nat.mul_le_mul_right _ (by omega); rw [Nat.succ_mul] at hmul; rw [if_pos rfl, if_pos rfl, if_pos (by omega), if_pos (by simp; omega)]
      ·rw [if_neg (by omega), if_neg Qw]
     ·rw [if_neg hx, if_neg (by omega), if_neg hx]
    have e2 : (Fs.set j G).getD j [] = G := by rw [List.getD_eq_getElem?_getD, List.getElem?_set_self (by omega)]; rfl
    rw [List.getElem_set_self, e1]; rw [e2] at m6 ⊢; exact hO.frame g1 m6
   ·have e1 : ((cur.setIfInBounds (k * size + i) u).toList.drop (j * size)).take size = (cur.toList.drop (j * size)).take size := by
     rw [Array.toList_setIfInBounds]; apply List.ext_getElem?; intro x; rw [List.getElem?_take, List.getElem?_drop, List.getElem?_set, List.getElem?_take, List.getElem?_drop]
     by_cases hx : x < size
     ·rw [if_pos hx, if_pos hx]
      have : k * size + i ≠ j * size + x := by
       intro hh; rcases Nat.lt_or_gt_of_ne hjk with hlt | hlt
       ·have hmul : (j + 1) * size <= k * size := Nat.mul_le_mul_right _ hlt
        rw [Nat.succ_mul] at hmul; omega
       ·have hmul : (k + 1) * size <= j * size := Nat.mul_le_mul_right _ hlt
        rw [Nat.succ_mul] at hmul; omega
      rw [if_neg this]
     ·rw [if_neg hx, if_neg hx]
    have e2 : (Fs.set k G).getD j [] = Fs.getD j [] := by rw [List.getD_eq_getElem?_getD, List.getD_eq_getElem?_getD, List.getElem?_set_ne (Ne.symm hjk)]
    rw [List.getElem_set_ne (Ne.symm hjk), e1]; rw [e2] at m6 ⊢; have Wc : j < Fs.length := by omega
    have hgj : Fs.getD j [] = Fs[j] := by rw [List.getD_eq_getElem?_getD, List.getElem?_eq_getElem Wc]; rfl
    have hW : O W ((cur.toList.drop (j * size)).take size) l[j] (Fs.getD j []) := hO.frame (h7 j hj') (fun b hb => hT.block b (hO.lt (h7 j hj') b hb) (fun hm => by
     rw [hgj] at hb; rw [BP] at hm; have hp := List.pairwise_iff_getElem.1 hfn.2; rcases Nat.lt_or_gt_of_ne hjk with hlt | hlt
     ·exact hp j k Wc Do hlt b hb hm
     ·exact hp k j Do Wc hlt b hm hb))
    exact hO.frame hW m6
  ·intro b hb
   rcases List.mem_cons.1 hb with rfl | hb
   ·exact .inl (by simp)
   ·rcases n2 b hb with h | h
    ·exact .inl (List.mem_cons_of_mem _ h)
    ·exact .inr h
theorem Hb {W : World} {g c0 : Nat} {a1 a2 : Option Addr} {c1 c2 : Nat} {m : az} {F0 F1 F2 : List Nat} {p : Nat} {f : aI -> aI} (hp : p < m.aa.length) (h0 : aF 3 73 fX W (.slice (some ⟨g, 0, none⟩) m.aa.length c0) (m.aa.set p (f m.aa[p])) F0) (h1 : aF 2 68 cN W (.slice a1 m.ae.length c1) m.ae F1) (h2 : aF 2 68 cN W (.slice a2 m.ag.length c2) m.ag F2)
  (h3 : (Lit.int .i64 m.ah).wf = true) : ba W (cj (some ⟨g, 0, none⟩) c0 a1 c1 a2 c2 m) { m with aa := jQ m.aa p f } (F0 ++ F1 ++ F2 ++ []) :=
 ⟨_, F0, _, F1, _, F2, rfl, by rw [sR hp]; exact h0, h1, h2, h3, rfl⟩
end Go.Proofs.YtcamcgfbljhbhaaGreatDoor

namespace Go.Proofs.YtcamcgfbljhbhaaGreatDoor
open Go.RowKit Go.Maps Go.Shelf Go.Lib Go.Sort
def j4 (e : aB) : List Value := [.string e.ax, .int .i64 e.bi]
def xw (a b : ByteArray) : Int := if strLt a b then -1 else if strLt b a then 1 else 0
def yX (a b : aB) : Int := xw a.ax b.ax
theorem FK (a b : aB) : ltOf yX a b = strLt a.ax b.ax := by
 unfold ltOf yX xw
 by_cases h : strLt a.ax b.ax = true
 ·simp [h]
 ·simp only [h]
  by_cases h2 : strLt b.ax a.ax = true
  ·simp [h2]
  ·simp [h2]
@[reducible] def Wd : Inhabited aB := ⟨⟨ByteArray.empty, 0⟩⟩
theorem We : SWO (ltOf yX) where
 irrefl x := by rw [FK]; exact bj _
 trans x y z h1 h2 := by rw [FK] at *; exact gD h1 h2
 ntrans x y z h1 h2 := by
  rw [FK] at *
  by_cases Nt : x.ax = y.ax
  ·rw [Nt]; exact h2
  ·have h3 := kD h1 Nt
   by_cases YF : y.ax = z.ax
   ·rw [<- YF]; exact h1
   ·exact iy (gD (kD h2 YF) h3)
theorem xx (a b : ByteArray) (w : World) :
  Calls Tryz.prog 133 #[.string a, .string b] w fun e w' => e = .returned (.int .i64 (xw a b)) /\ w' = w := by
 by_cases h1 : strLt a b = true
 ·have hv : xw a b = -1 := by unfold xw; rw [if_pos h1]
  rw [hv]; obtain ⟨p1, p2, p3⟩ := ix h1; clear hv h1; go_enter Tryz.func133, Tryz.ntmps133
  go_wp2
  go_ret; exact ⟨rfl, rfl⟩
 ·have QF : strLt a b = false := Bool.eq_false_iff.2 h1
  by_cases h2 : strLt b a = true
  ·have hv : xw a b = 1 := by unfold xw; rw [if_neg h1, if_pos h2]
   rw [hv]; obtain ⟨p1, p2, p3⟩ := ix h2; clear hv h1 h2 QF; go_enter Tryz.func133, Tryz.ntmps133
   go_wp2
   go_ret; exact ⟨rfl, rfl⟩
  ·have Uq : strLt b a = false := Bool.eq_false_iff.2 h2
   have hv : xw a b = 0 := by unfold xw; rw [if_neg h1, if_neg h2]
   rw [hv]; have p1 : Op.bytesLess a.toList b.toList = false := QF; have p2 : Op.bytesLess b.toList a.toList = false := Uq
   have hab : a.toList = b.toList := by
    by_cases h : a.toList = b.toList
    ·exact h
    ·have := sP p1 h; rw [p2] at this; cases this
   have p3 : (a.toList == b.toList) = true := by rw [hab]; simp
   have p4 : (b.toList == a.toList) = true := by rw [hab]; simp
   clear hab hv h1 h2 QF Uq; go_enter Tryz.func133, Tryz.ntmps133
   go_wp2
   go_ret; exact ⟨rfl, rfl⟩
theorem JG (x y : aB) (w : World) : Calls Tryz.prog 132 #[.agg (j4 x).toArray, .agg (j4 y).toArray] w fun e w' => e = .returned (.int .i64 (yX x y)) /\ ∃ q os', w' = grow (w.drewN q) os' := by
 have hcon := fun W' => xx x.ax y.ax W'
 have hv : yX x y = xw x.ax y.ax := rfl; rw [hv]; clear hv; generalize xw x.ax y.ax = r at hcon ⊢; unfold j4; go_enter Tryz.func132, Tryz.ntmps132; go_wp2_with (go_at_call 133; refine (hcon _).mono ?_; rintro e w' ⟨rfl, rfl⟩); go_ret; exact ⟨rfl, 0, _, by rw [alloc_eq_grow, alloc_eq_grow, grow_grow]; rfl⟩
theorem OT (w : World) : (isAgg 68).run Tryz.prog w = .ok true w := by kernel_rfl
theorem Mc (w : World) : (Go.sizeOf 68).run Tryz.prog w = .ok 2 w := by kernel_rfl
section
variable [Inhabited aB]
theorem JH (blk off size : Nat) (w : World) : CmpLays Tryz.prog 132 #[] j4 2 yX blk off size w :=
 fun _ _ _ _ x y => JG x y _
theorem Hc (blk cap : Nat) (d : Array aB) (w : World) (hH : HoldsK j4 2 w blk 0 d) (hblk : blk < w.heap.size) (hsz : d.size < 4611686018427387904) :
  Calls Tryz.prog 131 #[.slice (some ⟨blk, 0, none⟩) d.size cap, .func (.func 132) #[] #[]] w fun e w' => e = .returned (.tuple #[]) /\ ∃ d' n os, PermIn 0 d.size d d' /\ SortedIn (ltOf yX) 0 d.size d' /\ w' = sortWorldK j4 2 w blk 0 n d' os := by
 have eg : ∀ args w, (callFunc 132 args).run Tryz.prog w = .ok (.enter 132 args) w := enters_of Tryz.func132 (by kernel_rfl) rfl; exact AnyQ.slices_SortFunc FI 2 OT Mc j4 (fun _ => rfl) (fun x v hv => by simp [j4] at hv; rcases hv with rfl | rfl <;> rfl) yX We 132 #[] blk 0 cap d w eg (JH blk 0 d.size w) hH hblk hsz
end
end Go.Proofs.YtcamcgfbljhbhaaGreatDoor

namespace Go.Proofs.YtcamcgfbljhbhaaGreatDoor
open Go.RowKit Go.Maps
theorem xy (a : Option Addr) (n c : Nat) (l : List aB) (e : aB) (w : World) (hx : l.length = n) (hn : n <= 1048576) (hl : bw 2 cy w.heap.size w a c l) (zE : kr l) (IV : e.ax.size <= 9223372036854775807) (DW : (Lit.int .i64 e.bi).wf = true) :
  Calls Tryz.prog 72 #[.slice a n c, .agg #[.string e.ax, .int .i64 e.bi]] w fun r w' => ∃ (a' : Option Addr) (c' : Nat) (F : List Nat), r = .returned (.slice a' (dV l e).length c') /\ aF 2 68 cN w' (.slice a' (dV l e).length c') (dV l e) F /\ (∀ b, b ∈ F -> w.heap.size <= b) /\ Below w.heap.size w w' := by
 obtain ⟨iE, mV, fJ, fK, fL⟩ := info_parts Tryz.gG; have HX := Hm hx; have G4 := Hm hl.2.2; have Wf : Hid (∀ W : World, cy w.heap.size W [.string e.ax, .int .i64 e.bi] e) := fun W => ⟨rfl, IV, DW, trivial⟩
 have HWL := Hm (uY (e := e) zE); clear hx hl zE IV DW; go_enter Tryz.func72, Tryz.ntmps72; go_wp2_with fail
 go_loopw [5, 6, 7] (fun v pv i wr => ∃ (k : Nat) (o : List aB) (p : Bool), k <= n /\ pv = .bool p /\ i = .int .i64 k /\ o.length <= 2 * k /\ o ++ jb e p (l.drop k) = dV l e /\ bS 2 68 cy w.heap.size wr (w.heap.size + 1) v o /\ Below w.heap.size w wr /\ Bw wr w.heap.size 68 [.string e.ax, .int .i64 e.bi]) (fun _ _ i _ => n - (intOf i).toNat)
 case atStart =>
  refine ⟨0, [], false, Nat.zero_le _, rfl, rfl, by simp, by simpa using HWL.out, ⟨[], rfl, (fun _ h => by cases h), (fun _ h => by simp at h), ?_⟩, Below.alloc (Below.alloc rB rN _) (by simp) _, Bw.alloc (Bw.new _ _ _) _⟩; have h := kY (w.alloc (.cells #[.string e.ax, .int .i64 e.bi] 68)) (w.heap.size + 1) 68 2 (by simp)
  simpa using h
 case round =>
  obtain ⟨k, o, p, hk, rfl, rfl, abq, hE, hrow, bF, tA⟩ := hrel; have HE := Hm hE; have dM := Hm tA; have eI := bF.size; have B9 := tA.lt; have eG : w.heap.size + 1 <= wr.heap.size := B9; have nR := tA.cell 0 _ rfl; have c1' := tA.cell 1 _ rfl; have cO := Hm hrow; clear hE tA hrow
  by_cases tB : k < n
  ·have gH : k < l.length := by rw [HX.out]; exact tB
   obtain ⟨b1, o1, rfl, hB, cs, iw, hcell, Sa⟩ := (G4.out.below au bF) k gH; have HD : Hid (l.drop k = l[k] :: l.drop (k + 1)) := List.drop_eq_getElem_cons gH; have Sb := Hm Sa; obtain ⟨rfl, hsz, qJ, _⟩ := Sa; have jF : Hid (cy w.heap.size wr [.string l[k].ax, .int .i64 l[k].bi] l[k]) := Sb.out; have k0 := hcell 0 _ rfl; have k1 := hcell 1 _ rfl; rw [Nat.add_zero] at k0; have qF : Hid (b1 < w.heap.size) := hB; have eH : b1 < wr.heap.size := by omega
   clear hcell iw Sb; obtain ⟨x, hx⟩ : ∃ x, l[k] = x := ⟨_, rfl⟩
   rw [hx] at jF HD k0 k1; clear hx hsz qJ hB; cases p
   ·by_cases hlt : strLt x.ax e.ax = true
    ·obtain ⟨p1, p2, p3⟩ := ix hlt
     have p4 : (x.ax.toList == e.ax.toList) = false := rI (fun h => by rw [h, bj] at hlt; cases hlt)
     have D9 : Hid (o ++ [x] ++ jb e false (l.drop (k + 1)) = dV l e) := by
      show _ = _; have h := HE.out; rw [HD.out] at h; have hl : strLt x.ax e.ax = true := hlt; have DX : ¬ x.ax = e.ax := (fun h => by rw [h, bj] at hlt; cases hlt)
      simpa [jb, hl, DX] using h
     clear HE HD hlt; have JI : (0 : Int) <= (k : Int) := by omega
     have Hd : (k : Int) < (n : Int) := by omega
     have wk : ∀ W, Below wr.heap.size wr W -> W.cell? ⟨b1, o1 + k * 2, none⟩ = some (.string x.ax) := fun W hb => (hb.cell (p := ⟨b1, o1 + k * 2, none⟩) eH).trans k0
     have xz : ∀ W, Below wr.heap.size wr W -> W.cell? ⟨w.heap.size, 0, none⟩ = some (.string e.ax) := fun W hb => (dM.out.under hb).cell 0 _ rfl
     go_wp2_with fail; refine kz wr (fun hZ => ?_); refine uq 0 ?_; refine uq 1 ?_; refine uq 2 ?_; refine uq 3 ?_; refine uq 4 ?_; refine uq 5 ?_; refine uq 6 ?_; refine uq 7 ?_; refine uq 8 ?_; refine uq 9 ?_; refine uq 10 ?_; refine uq 11 ?_; refine dC ?_; obtain ⟨wd, hwd⟩ : ∃ W9, W9 = wr.drew := ⟨_, rfl⟩
     rw [<- hwd] at hZ ⊢; have cT := Hm (bS.keep au cO.out hZ eI); have eM := af bF hZ; have cF := Hm (dM.out.under hZ); have eN := Hm (au.below jF.out (hZ.mono eI)); have hzd := hZ.size; have k8 := (hZ.cell (p := ⟨b1, o1 + k * 2, none⟩) eH).trans k0; have k9 := (hZ.cell (p := ⟨b1, o1 + k * 2 + 1, none⟩) eH).trans k1; have lc := cF.out.cell 0 _ rfl; have lf := cF.out.cell 1 _ rfl; have eO : b1 < wd.heap.size := Nat.lt_of_lt_of_le eH hzd; have eP : w.heap.size <= wd.heap.size := Nat.le_trans eI hzd; have cU : w.heap.size + 1 <= wd.heap.size := Nat.le_trans eG hzd; clear k0 k1 nR c1' eH eI eG bF dM jF cO hwd hZ wk xz hzd; have k0 := k8; have k1 := k9; have nR := lc; have c1' := lf; have eH := eO; have eI := eP; have eG := cU; have bF := eM; have dM := cF; have jF := eN; have cO := cT; clear k8 k9 lc lf eO eP cU eM cF eN cT; have wk : ∀ W, Below wd.heap.size wd W -> W.cell? ⟨b1, o1 + k * 2, none⟩ = some (.string x.ax) := fun W hb => (hb.cell (p := ⟨b1, o1 + k * 2, none⟩) eH).trans k0
     have xz : ∀ W, Below wd.heap.size wd W -> W.cell? ⟨w.heap.size, 0, none⟩ = some (.string e.ax) := fun W hb => (dM.out.under hb).cell 0 _ rfl
     go_wp2_with fail; refine kz wd (fun hZ => ?_); refine uq 0 ?_; refine uq 1 ?_; refine uq 2 ?_; refine uq 3 ?_; refine uq 4 ?_; refine uq 5 ?_; refine uq 6 ?_; refine uq 7 ?_; refine dC ?_; obtain ⟨we, hwd⟩ : ∃ W9, W9 = wd.drew := ⟨_, rfl⟩
     rw [<- hwd] at hZ ⊢; have cT := Hm (bS.keep au cO.out hZ eI); have eM := af bF hZ; have cF := Hm (dM.out.under hZ); have eN := Hm (au.below jF.out (hZ.mono eI)); have hzd := hZ.size; have k8 := (hZ.cell (p := ⟨b1, o1 + k * 2, none⟩) eH).trans k0; have k9 := (hZ.cell (p := ⟨b1, o1 + k * 2 + 1, none⟩) eH).trans k1; have lc := cF.out.cell 0 _ rfl; have lf := cF.out.cell 1 _ rfl; have eO : b1 < we.heap.size := Nat.lt_of_lt_of_le eH hzd; have eP : w.heap.size <= we.heap.size := Nat.le_trans eI hzd; have cU : w.heap.size + 1 <= we.heap.size := Nat.le_trans eG hzd; clear k0 k1 nR c1' eH eI eG bF dM jF cO hwd hZ wk xz hzd; have k0 := k8; have k1 := k9; have nR := lc; have c1' := lf; have eH := eO; have eI := eP; have eG := cU; have bF := eM; have dM := cF; have jF := eN; have cO := cT; clear k8 k9 lc lf eO eP cU eM cF eN cT; obtain ⟨OU, r1, r2, r3, r4⟩ := cO.out; go_wp2_with (at_builtin; refine wpList_append_own_at _ rfl _ _ 25 rfl (w.heap.size + 1) 68 iE (.agg #[.string ⟨#[]⟩, .int .i64 0]) 2 24 Tryz.underlying25 mV fJ fK fL rfl (by decide) _ _ _ rfl (aA r4 (rB.alloc rN _)) ⟨we.heap.size, 0, none⟩ 1 1 [.string x.ax, .int .i64 x.bi] rfl rfl (b8 (Bx.new we _ _)) (by intro u hu; simp at hu; rcases hu with rfl | rfl <;> rfl) (by unfold maxLen; omega) (by omega) (by simp; omega) ?_; intro v5 w5 gK fH pU lh); have kR := aw.after ((Below.refl we.heap.size we).alloc rN _) (dE fH); have iF : ∀ k, k ∈ (Value.ownBlock _).toList -> w.heap.size + 1 <= k := fun k hk => (r4.lt k (by simpa using hk)).1
     have mD : Below w.heap.size we w5 := aw.below kR (fun k hk => by have := iF k hk; omega) eI; have cT := Hm (bS.push au r1 r2 r3 mD rfl (au.below jF.out mD) gK); have eM := bF.trans mD; have cF := Hm (dM.out.turn kR (fun h => by have := iF _ h; omega)); have eN := Hm (au.below jF.out mD); have hzd := kR.size; have k8 := (kR.cell (p := ⟨b1, o1 + k * 2, none⟩) eH (fun h => by have := iF _ h; have := qF.out; simp at *; omega)).trans k0; have k9 := (kR.cell (p := ⟨b1, o1 + k * 2 + 1, none⟩) eH (fun h => by have := iF _ h; have := qF.out; simp at *; omega)).trans k1; have lc := cF.out.cell 0 _ rfl; have lf := cF.out.cell 1 _ rfl; have eO : b1 < w5.heap.size := Nat.lt_of_lt_of_le eH hzd; have eP : w.heap.size <= w5.heap.size := Nat.le_trans eI hzd; have cU : w.heap.size + 1 <= w5.heap.size := Nat.le_trans eG hzd; clear k0 k1 nR c1' eH eI eG bF dM jF cO hzd r1 r2 r3 r4 kR iF mD gK fH pU lh; have k0 := k8; have k1 := k9; have nR := lc; have c1' := lf; have eH := eO; have eI := eP; have eG := cU; have bF := eM; have dM := cF; have jF := eN; have cO := cT; clear k8 k9 lc lf eO eP cU eM cF eN cT
     go_roundw
     case rel => exact ⟨k + 1, o ++ [x], false, by omega, rfl, by go_num, by simp; omega, D9.out, cO.out, bF, dM.out⟩
     case measure => simp [intOf]; omega
    ·by_cases heq : x.ax = e.ax
     ·clear hlt
      have p1 : Op.bytesLess x.ax.toList e.ax.toList = false := by rw [heq]; exact bj _
      have p2 : Op.bytesLess e.ax.toList x.ax.toList = false := by rw [heq]; exact bj _
      have p3 := nT heq; have p4 := nT heq.symm
      have D9 : Hid (o ++ [e] ++ jb e true (l.drop (k + 1)) = dV l e) := by
       show _ = _; have h := HE.out; rw [HD.out] at h; have hl : strLt x.ax e.ax = false := (show strLt x.ax e.ax = false from by rw [heq]; exact bj _)
       have DX : x.ax = e.ax := heq
       simpa [jb, hl, DX, bj] using h
      clear HE HD heq; have JI : (0 : Int) <= (k : Int) := by omega
      have Hd : (k : Int) < (n : Int) := by omega
      have wk : ∀ W, Below wr.heap.size wr W -> W.cell? ⟨b1, o1 + k * 2, none⟩ = some (.string x.ax) := fun W hb => (hb.cell (p := ⟨b1, o1 + k * 2, none⟩) eH).trans k0
      have xz : ∀ W, Below wr.heap.size wr W -> W.cell? ⟨w.heap.size, 0, none⟩ = some (.string e.ax) := fun W hb => (dM.out.under hb).cell 0 _ rfl
      go_wp2_with fail; refine kz wr (fun hZ => ?_); refine uq 0 ?_; refine uq 1 ?_; refine uq 2 ?_; refine uq 3 ?_; refine uq 4 ?_; refine uq 5 ?_; refine uq 6 ?_; refine uq 7 ?_; refine uq 8 ?_; refine uq 9 ?_; refine uq 10 ?_; refine uq 11 ?_; refine dC ?_; obtain ⟨wd, hwd⟩ : ∃ W9, W9 = wr.drew := ⟨_, rfl⟩
      rw [<- hwd] at hZ ⊢; have cT := Hm (bS.keep au cO.out hZ eI); have eM := af bF hZ; have cF := Hm (dM.out.under hZ); have eN := Hm (au.below jF.out (hZ.mono eI)); have hzd := hZ.size; have k8 := (hZ.cell (p := ⟨b1, o1 + k * 2, none⟩) eH).trans k0; have k9 := (hZ.cell (p := ⟨b1, o1 + k * 2 + 1, none⟩) eH).trans k1; have lc := cF.out.cell 0 _ rfl; have lf := cF.out.cell 1 _ rfl; have eO : b1 < wd.heap.size := Nat.lt_of_lt_of_le eH hzd; have eP : w.heap.size <= wd.heap.size := Nat.le_trans eI hzd; have cU : w.heap.size + 1 <= wd.heap.size := Nat.le_trans eG hzd; clear k0 k1 nR c1' eH eI eG bF dM jF cO hwd hZ wk xz hzd; have k0 := k8; have k1 := k9; have nR := lc; have c1' := lf; have eH := eO; have eI := eP; have eG := cU; have bF := eM; have dM := cF; have jF := eN; have cO := cT; clear k8 k9 lc lf eO eP cU eM cF eN cT; obtain ⟨Sc, r1, r2, r3, r4⟩ := cO.out; go_wp2_with (at_builtin; refine wpList_append_own_at _ rfl _ _ 25 rfl (w.heap.size + 1) 68 iE (.agg #[.string ⟨#[]⟩, .int .i64 0]) 2 24 Tryz.underlying25 mV fJ fK fL rfl (by decide) _ _ _ rfl (aA r4 (rB.alloc rN _)) ⟨wd.heap.size, 0, none⟩ 1 1 [.string e.ax, .int .i64 e.bi] rfl rfl (b8 (Bx.new wd _ _)) (by intro u hu; simp at hu; rcases hu with rfl | rfl <;> rfl) (by unfold maxLen; omega) (by omega) (by simp; omega) ?_; intro v3 w3 ek dI hnil3 FM); have mY := aw.after ((Below.refl wd.heap.size wd).alloc rN _) (dE dI); have cm : ∀ k, k ∈ (Value.ownBlock _).toList -> w.heap.size + 1 <= k := fun k hk => (r4.lt k (by simpa using hk)).1
      have rV : Below w.heap.size wd w3 := aw.below mY (fun k hk => by have := cm k hk; omega) eI; have cT := Hm (bS.push au r1 r2 r3 rV rfl (au.below (Wf.out wd) rV) ek); have eM := bF.trans rV; have cF := Hm (dM.out.turn mY (fun h => by have := cm _ h; omega)); have eN := Hm (au.below jF.out rV); have hzd := mY.size; have k8 := (mY.cell (p := ⟨b1, o1 + k * 2, none⟩) eH (fun h => by have := cm _ h; have := qF.out; simp at *; omega)).trans k0; have k9 := (mY.cell (p := ⟨b1, o1 + k * 2 + 1, none⟩) eH (fun h => by have := cm _ h; have := qF.out; simp at *; omega)).trans k1; have lc := cF.out.cell 0 _ rfl; have lf := cF.out.cell 1 _ rfl; have eO : b1 < w3.heap.size := Nat.lt_of_lt_of_le eH hzd; have eP : w.heap.size <= w3.heap.size := Nat.le_trans eI hzd; have cU : w.heap.size + 1 <= w3.heap.size := Nat.le_trans eG hzd; clear k0 k1 nR c1' eH eI eG bF dM jF cO hzd r1 r2 r3 r4 mY cm rV ek dI hnil3 FM; have k0 := k8; have k1 := k9; have nR := lc; have c1' := lf; have eH := eO; have eI := eP; have eG := cU; have bF := eM; have dM := cF; have jF := eN; have cO := cT; clear k8 k9 lc lf eO eP cU eM cF eN cT; have Wh : (o ++ [e]).length <= 2 * k + 1 := by simp; omega
      have wk : ∀ W, Below w3.heap.size w3 W -> W.cell? ⟨b1, o1 + k * 2, none⟩ = some (.string x.ax) := fun W hb => (hb.cell (p := ⟨b1, o1 + k * 2, none⟩) eH).trans k0
      have xz : ∀ W, Below w3.heap.size w3 W -> W.cell? ⟨w.heap.size, 0, none⟩ = some (.string e.ax) := fun W hb => (dM.out.under hb).cell 0 _ rfl
      go_wp2_with fail; refine kz w3 (fun hZ => ?_); refine uq 0 ?_; refine uq 1 ?_; refine uq 2 ?_; refine uq 3 ?_; refine uq 4 ?_; refine uq 5 ?_; refine uq 6 ?_; refine uq 7 ?_; refine dC ?_; obtain ⟨we, hwd⟩ : ∃ W9, W9 = w3.drew := ⟨_, rfl⟩
      rw [<- hwd] at hZ ⊢; have cT := Hm (bS.keep au cO.out hZ eI); have eM := af bF hZ; have cF := Hm (dM.out.under hZ); have eN := Hm (au.below jF.out (hZ.mono eI)); have hzd := hZ.size; have k8 := (hZ.cell (p := ⟨b1, o1 + k * 2, none⟩) eH).trans k0; have k9 := (hZ.cell (p := ⟨b1, o1 + k * 2 + 1, none⟩) eH).trans k1; have lc := cF.out.cell 0 _ rfl; have lf := cF.out.cell 1 _ rfl; have eO : b1 < we.heap.size := Nat.lt_of_lt_of_le eH hzd; have eP : w.heap.size <= we.heap.size := Nat.le_trans eI hzd; have cU : w.heap.size + 1 <= we.heap.size := Nat.le_trans eG hzd; clear k0 k1 nR c1' eH eI eG bF dM jF cO hwd hZ wk xz hzd; have k0 := k8; have k1 := k9; have nR := lc; have c1' := lf; have eH := eO; have eI := eP; have eG := cU; have bF := eM; have dM := cF; have jF := eN; have cO := cT; clear k8 k9 lc lf eO eP cU eM cF eN cT; go_wp2_with fail
      go_roundw
      case rel => exact ⟨k + 1, o ++ [e], true, by omega, rfl, by go_num, by simp; omega, D9.out, cO.out, bF, dM.out⟩
      case measure => simp [intOf]; omega
     ·have Ea := kD (Bool.eq_false_iff.2 hlt) heq
      clear hlt heq; obtain ⟨p1, p2, p3⟩ := ix Ea; have p4 : (x.ax.toList == e.ax.toList) = false := rI (fun h => by rw [h, bj] at Ea; cases Ea)
      have D9 : Hid ((o ++ [e]) ++ [x] ++ jb e true (l.drop (k + 1)) = dV l e) := by
       show _ = _; have h := HE.out; rw [HD.out] at h; have hl : strLt x.ax e.ax = false := iy Ea; have DX : ¬ x.ax = e.ax := (fun h => by rw [h, bj] at Ea; cases Ea)
       simpa [jb, hl, DX] using h
      clear HE HD Ea; have JI : (0 : Int) <= (k : Int) := by omega
      have Hd : (k : Int) < (n : Int) := by omega
      have wk : ∀ W, Below wr.heap.size wr W -> W.cell? ⟨b1, o1 + k * 2, none⟩ = some (.string x.ax) := fun W hb => (hb.cell (p := ⟨b1, o1 + k * 2, none⟩) eH).trans k0
      have xz : ∀ W, Below wr.heap.size wr W -> W.cell? ⟨w.heap.size, 0, none⟩ = some (.string e.ax) := fun W hb => (dM.out.under hb).cell 0 _ rfl
      go_wp2_with fail; refine kz wr (fun hZ => ?_); refine uq 0 ?_; refine uq 1 ?_; refine uq 2 ?_; refine uq 3 ?_; refine uq 4 ?_; refine uq 5 ?_; refine uq 6 ?_; refine uq 7 ?_; refine uq 8 ?_; refine uq 9 ?_; refine uq 10 ?_; refine uq 11 ?_; refine dC ?_; obtain ⟨wd, hwd⟩ : ∃ W9, W9 = wr.drew := ⟨_, rfl⟩
      rw [<- hwd] at hZ ⊢; have cT := Hm (bS.keep au cO.out hZ eI); have eM := af bF hZ; have cF := Hm (dM.out.under hZ); have eN := Hm (au.below jF.out (hZ.mono eI)); have hzd := hZ.size; have k8 := (hZ.cell (p := ⟨b1, o1 + k * 2, none⟩) eH).trans k0; have k9 := (hZ.cell (p := ⟨b1, o1 + k * 2 + 1, none⟩) eH).trans k1; have lc := cF.out.cell 0 _ rfl; have lf := cF.out.cell 1 _ rfl; have eO : b1 < wd.heap.size := Nat.lt_of_lt_of_le eH hzd; have eP : w.heap.size <= wd.heap.size := Nat.le_trans eI hzd; have cU : w.heap.size + 1 <= wd.heap.size := Nat.le_trans eG hzd; clear k0 k1 nR c1' eH eI eG bF dM jF cO hwd hZ wk xz hzd; have k0 := k8; have k1 := k9; have nR := lc; have c1' := lf; have eH := eO; have eI := eP; have eG := cU; have bF := eM; have dM := cF; have jF := eN; have cO := cT; clear k8 k9 lc lf eO eP cU eM cF eN cT; obtain ⟨Sc, r1, r2, r3, r4⟩ := cO.out; go_wp2_with (at_builtin; refine wpList_append_own_at _ rfl _ _ 25 rfl (w.heap.size + 1) 68 iE (.agg #[.string ⟨#[]⟩, .int .i64 0]) 2 24 Tryz.underlying25 mV fJ fK fL rfl (by decide) _ _ _ rfl (aA r4 (rB.alloc rN _)) ⟨wd.heap.size, 0, none⟩ 1 1 [.string e.ax, .int .i64 e.bi] rfl rfl (b8 (Bx.new wd _ _)) (by intro u hu; simp at hu; rcases hu with rfl | rfl <;> rfl) (by unfold maxLen; omega) (by omega) (by simp; omega) ?_; intro v3 w3 ek dI hnil3 FM); have mY := aw.after ((Below.refl wd.heap.size wd).alloc rN _) (dE dI); have cm : ∀ k, k ∈ (Value.ownBlock _).toList -> w.heap.size + 1 <= k := fun k hk => (r4.lt k (by simpa using hk)).1
      have rV : Below w.heap.size wd w3 := aw.below mY (fun k hk => by have := cm k hk; omega) eI; have cT := Hm (bS.push au r1 r2 r3 rV rfl (au.below (Wf.out wd) rV) ek); have eM := bF.trans rV; have cF := Hm (dM.out.turn mY (fun h => by have := cm _ h; omega)); have eN := Hm (au.below jF.out rV); have hzd := mY.size; have k8 := (mY.cell (p := ⟨b1, o1 + k * 2, none⟩) eH (fun h => by have := cm _ h; have := qF.out; simp at *; omega)).trans k0; have k9 := (mY.cell (p := ⟨b1, o1 + k * 2 + 1, none⟩) eH (fun h => by have := cm _ h; have := qF.out; simp at *; omega)).trans k1; have lc := cF.out.cell 0 _ rfl; have lf := cF.out.cell 1 _ rfl; have eO : b1 < w3.heap.size := Nat.lt_of_lt_of_le eH hzd; have eP : w.heap.size <= w3.heap.size := Nat.le_trans eI hzd; have cU : w.heap.size + 1 <= w3.heap.size := Nat.le_trans eG hzd; clear k0 k1 nR c1' eH eI eG bF dM jF cO hzd r1 r2 r3 r4 mY cm rV ek dI hnil3 FM; have k0 := k8; have k1 := k9; have nR := lc; have c1' := lf; have eH := eO; have eI := eP; have eG := cU; have bF := eM; have dM := cF; have jF := eN; have cO := cT; clear k8 k9 lc lf eO eP cU eM cF eN cT; have Wh : (o ++ [e]).length <= 2 * k + 1 := by simp; omega
      have wk : ∀ W, Below w3.heap.size w3 W -> W.cell? ⟨b1, o1 + k * 2, none⟩ = some (.string x.ax) := fun W hb => (hb.cell (p := ⟨b1, o1 + k * 2, none⟩) eH).trans k0
      have xz : ∀ W, Below w3.heap.size w3 W -> W.cell? ⟨w.heap.size, 0, none⟩ = some (.string e.ax) := fun W hb => (dM.out.under hb).cell 0 _ rfl
      go_wp2_with fail; refine kz w3 (fun hZ => ?_); refine uq 0 ?_; refine uq 1 ?_; refine uq 2 ?_; refine uq 3 ?_; refine uq 4 ?_; refine uq 5 ?_; refine uq 6 ?_; refine uq 7 ?_; refine dC ?_; obtain ⟨we, hwd⟩ : ∃ W9, W9 = w3.drew := ⟨_, rfl⟩
      rw [<- hwd] at hZ ⊢; have cT := Hm (bS.keep au cO.out hZ eI); have eM := af bF hZ; have cF := Hm (dM.out.under hZ); have eN := Hm (au.below jF.out (hZ.mono eI)); have hzd := hZ.size; have k8 := (hZ.cell (p := ⟨b1, o1 + k * 2, none⟩) eH).trans k0; have k9 := (hZ.cell (p := ⟨b1, o1 + k * 2 + 1, none⟩) eH).trans k1; have lc := cF.out.cell 0 _ rfl; have lf := cF.out.cell 1 _ rfl; have eO : b1 < we.heap.size := Nat.lt_of_lt_of_le eH hzd; have eP : w.heap.size <= we.heap.size := Nat.le_trans eI hzd; have cU : w.heap.size + 1 <= we.heap.size := Nat.le_trans eG hzd; clear k0 k1 nR c1' eH eI eG bF dM jF cO hwd hZ wk xz hzd; have k0 := k8; have k1 := k9; have nR := lc; have c1' := lf; have eH := eO; have eI := eP; have eG := cU; have bF := eM; have dM := cF; have jF := eN; have cO := cT; clear k8 k9 lc lf eO eP cU eM cF eN cT; obtain ⟨OU, r1, r2, r3, r4⟩ := cO.out; go_wp2_with (at_builtin; refine wpList_append_own_at _ rfl _ _ 25 rfl (w.heap.size + 1) 68 iE (.agg #[.string ⟨#[]⟩, .int .i64 0]) 2 24 Tryz.underlying25 mV fJ fK fL rfl (by decide) _ _ _ rfl (aA r4 (rB.alloc rN _)) ⟨we.heap.size, 0, none⟩ 1 1 [.string x.ax, .int .i64 x.bi] rfl rfl (b8 (Bx.new we _ _)) (by intro u hu; simp at hu; rcases hu with rfl | rfl <;> rfl) (by unfold maxLen; omega) (by omega) (by simp; omega) ?_; intro v5 w5 gK fH pU lh); have kR := aw.after ((Below.refl we.heap.size we).alloc rN _) (dE fH); have iF : ∀ k, k ∈ (Value.ownBlock _).toList -> w.heap.size + 1 <= k := fun k hk => (r4.lt k (by simpa using hk)).1
      have mD : Below w.heap.size we w5 := aw.below kR (fun k hk => by have := iF k hk; omega) eI; have cT := Hm (bS.push au r1 r2 r3 mD rfl (au.below jF.out mD) gK); have eM := bF.trans mD; have cF := Hm (dM.out.turn kR (fun h => by have := iF _ h; omega)); have eN := Hm (au.below jF.out mD); have hzd := kR.size; have k8 := (kR.cell (p := ⟨b1, o1 + k * 2, none⟩) eH (fun h => by have := iF _ h; have := qF.out; simp at *; omega)).trans k0; have k9 := (kR.cell (p := ⟨b1, o1 + k * 2 + 1, none⟩) eH (fun h => by have := iF _ h; have := qF.out; simp at *; omega)).trans k1; have lc := cF.out.cell 0 _ rfl; have lf := cF.out.cell 1 _ rfl; have eO : b1 < w5.heap.size := Nat.lt_of_lt_of_le eH hzd; have eP : w.heap.size <= w5.heap.size := Nat.le_trans eI hzd; have cU : w.heap.size + 1 <= w5.heap.size := Nat.le_trans eG hzd; clear k0 k1 nR c1' eH eI eG bF dM jF cO hzd r1 r2 r3 r4 kR iF mD gK fH pU lh; have k0 := k8; have k1 := k9; have nR := lc; have c1' := lf; have eH := eO; have eI := eP; have eG := cU; have bF := eM; have dM := cF; have jF := eN; have cO := cT; clear k8 k9 lc lf eO eP cU eM cF eN cT
      go_roundw
      case rel => exact ⟨k + 1, (o ++ [e]) ++ [x], true, by omega, rfl, by go_num, by simp; omega, D9.out, cO.out, bF, dM.out⟩
      case measure => simp [intOf]; omega
   ·by_cases hlt : strLt x.ax e.ax = true
    ·obtain ⟨p1, p2, p3⟩ := ix hlt
     have p4 : (x.ax.toList == e.ax.toList) = false := rI (fun h => by rw [h, bj] at hlt; cases hlt)
     have D9 : Hid (o ++ [x] ++ jb e true (l.drop (k + 1)) = dV l e) := by
      show _ = _; have h := HE.out; rw [HD.out] at h; have hl : strLt x.ax e.ax = true := hlt; have DX : ¬ x.ax = e.ax := (fun h => by rw [h, bj] at hlt; cases hlt)
      simpa [jb, hl, DX] using h
     clear HE HD hlt; have JI : (0 : Int) <= (k : Int) := by omega
     have Hd : (k : Int) < (n : Int) := by omega
     have wk : ∀ W, Below wr.heap.size wr W -> W.cell? ⟨b1, o1 + k * 2, none⟩ = some (.string x.ax) := fun W hb => (hb.cell (p := ⟨b1, o1 + k * 2, none⟩) eH).trans k0
     have xz : ∀ W, Below wr.heap.size wr W -> W.cell? ⟨w.heap.size, 0, none⟩ = some (.string e.ax) := fun W hb => (dM.out.under hb).cell 0 _ rfl
     go_wp2_with fail; refine kz wr (fun hZ => ?_); refine uq 0 ?_; refine uq 1 ?_; refine uq 2 ?_; refine um 3 ?_; refine um 4 ?_; refine um 5 ?_; refine um 6 ?_; refine um 7 ?_; refine um 8 ?_; refine um 9 ?_; refine um 10 ?_; refine uq 11 ?_; refine dC ?_; obtain ⟨wd, hwd⟩ : ∃ W9, W9 = wr.drew := ⟨_, rfl⟩
     rw [<- hwd] at hZ ⊢; have cT := Hm (bS.keep au cO.out hZ eI); have eM := af bF hZ; have cF := Hm (dM.out.under hZ); have eN := Hm (au.below jF.out (hZ.mono eI)); have hzd := hZ.size; have k8 := (hZ.cell (p := ⟨b1, o1 + k * 2, none⟩) eH).trans k0; have k9 := (hZ.cell (p := ⟨b1, o1 + k * 2 + 1, none⟩) eH).trans k1; have lc := cF.out.cell 0 _ rfl; have lf := cF.out.cell 1 _ rfl; have eO : b1 < wd.heap.size := Nat.lt_of_lt_of_le eH hzd; have eP : w.heap.size <= wd.heap.size := Nat.le_trans eI hzd; have cU : w.heap.size + 1 <= wd.heap.size := Nat.le_trans eG hzd; clear k0 k1 nR c1' eH eI eG bF dM jF cO hwd hZ wk xz hzd; have k0 := k8; have k1 := k9; have nR := lc; have c1' := lf; have eH := eO; have eI := eP; have eG := cU; have bF := eM; have dM := cF; have jF := eN; have cO := cT; clear k8 k9 lc lf eO eP cU eM cF eN cT; have wk : ∀ W, Below wd.heap.size wd W -> W.cell? ⟨b1, o1 + k * 2, none⟩ = some (.string x.ax) := fun W hb => (hb.cell (p := ⟨b1, o1 + k * 2, none⟩) eH).trans k0
     have xz : ∀ W, Below wd.heap.size wd W -> W.cell? ⟨w.heap.size, 0, none⟩ = some (.string e.ax) := fun W hb => (dM.out.under hb).cell 0 _ rfl
     go_wp2_with fail; refine kz wd (fun hZ => ?_); refine uq 0 ?_; refine uq 1 ?_; refine uq 2 ?_; refine uq 3 ?_; refine uq 4 ?_; refine uq 5 ?_; refine uq 6 ?_; refine uq 7 ?_; refine dC ?_; obtain ⟨we, hwd⟩ : ∃ W9, W9 = wd.drew := ⟨_, rfl⟩
     rw [<- hwd] at hZ ⊢; have cT := Hm (bS.keep au cO.out hZ eI); have eM := af bF hZ; have cF := Hm (dM.out.under hZ); have eN := Hm (au.below jF.out (hZ.mono eI)); have hzd := hZ.size; have k8 := (hZ.cell (p := ⟨b1, o1 + k * 2, none⟩) eH).trans k0; have k9 := (hZ.cell (p := ⟨b1, o1 + k * 2 + 1, none⟩) eH).trans k1; have lc := cF.out.cell 0 _ rfl; have lf := cF.out.cell 1 _ rfl; have eO : b1 < we.heap.size := Nat.lt_of_lt_of_le eH hzd; have eP : w.heap.size <= we.heap.size := Nat.le_trans eI hzd; have cU : w.heap.size + 1 <= we.heap.size := Nat.le_trans eG hzd; clear k0 k1 nR c1' eH eI eG bF dM jF cO hwd hZ wk xz hzd; have k0 := k8; have k1 := k9; have nR := lc; have c1' := lf; have eH := eO; have eI := eP; have eG := cU; have bF := eM; have dM := cF; have jF := eN; have cO := cT; clear k8 k9 lc lf eO eP cU eM cF eN cT; obtain ⟨OU, r1, r2, r3, r4⟩ := cO.out; go_wp2_with (at_builtin; refine wpList_append_own_at _ rfl _ _ 25 rfl (w.heap.size + 1) 68 iE (.agg #[.string ⟨#[]⟩, .int .i64 0]) 2 24 Tryz.underlying25 mV fJ fK fL rfl (by decide) _ _ _ rfl (aA r4 (rB.alloc rN _)) ⟨we.heap.size, 0, none⟩ 1 1 [.string x.ax, .int .i64 x.bi] rfl rfl (b8 (Bx.new we _ _)) (by intro u hu; simp at hu; rcases hu with rfl | rfl <;> rfl) (by unfold maxLen; omega) (by omega) (by simp; omega) ?_; intro v5 w5 gK fH pU lh); have kR := aw.after ((Below.refl we.heap.size we).alloc rN _) (dE fH); have iF : ∀ k, k ∈ (Value.ownBlock _).toList -> w.heap.size + 1 <= k := fun k hk => (r4.lt k (by simpa using hk)).1
     have mD : Below w.heap.size we w5 := aw.below kR (fun k hk => by have := iF k hk; omega) eI; have cT := Hm (bS.push au r1 r2 r3 mD rfl (au.below jF.out mD) gK); have eM := bF.trans mD; have cF := Hm (dM.out.turn kR (fun h => by have := iF _ h; omega)); have eN := Hm (au.below jF.out mD); have hzd := kR.size; have k8 := (kR.cell (p := ⟨b1, o1 + k * 2, none⟩) eH (fun h => by have := iF _ h; have := qF.out; simp at *; omega)).trans k0; have k9 := (kR.cell (p := ⟨b1, o1 + k * 2 + 1, none⟩) eH (fun h => by have := iF _ h; have := qF.out; simp at *; omega)).trans k1; have lc := cF.out.cell 0 _ rfl; have lf := cF.out.cell 1 _ rfl; have eO : b1 < w5.heap.size := Nat.lt_of_lt_of_le eH hzd; have eP : w.heap.size <= w5.heap.size := Nat.le_trans eI hzd; have cU : w.heap.size + 1 <= w5.heap.size := Nat.le_trans eG hzd; clear k0 k1 nR c1' eH eI eG bF dM jF cO hzd r1 r2 r3 r4 kR iF mD gK fH pU lh; have k0 := k8; have k1 := k9; have nR := lc; have c1' := lf; have eH := eO; have eI := eP; have eG := cU; have bF := eM; have dM := cF; have jF := eN; have cO := cT; clear k8 k9 lc lf eO eP cU eM cF eN cT
     go_roundw
     case rel => exact ⟨k + 1, o ++ [x], true, by omega, rfl, by go_num, by simp; omega, D9.out, cO.out, bF, dM.out⟩
     case measure => simp [intOf]; omega
    ·by_cases heq : x.ax = e.ax
     ·clear hlt
      have p1 : Op.bytesLess x.ax.toList e.ax.toList = false := by rw [heq]; exact bj _
      have p2 : Op.bytesLess e.ax.toList x.ax.toList = false := by rw [heq]; exact bj _
      have p3 := nT heq; have p4 := nT heq.symm
      have D9 : Hid (o ++ jb e true (l.drop (k + 1)) = dV l e) := by
       show _ = _; have h := HE.out; rw [HD.out] at h; have hl : strLt x.ax e.ax = false := (show strLt x.ax e.ax = false from by rw [heq]; exact bj _)
       have DX : x.ax = e.ax := heq
       simpa [jb, hl, DX, bj] using h
      clear HE HD heq; have JI : (0 : Int) <= (k : Int) := by omega
      have Hd : (k : Int) < (n : Int) := by omega
      have wk : ∀ W, Below wr.heap.size wr W -> W.cell? ⟨b1, o1 + k * 2, none⟩ = some (.string x.ax) := fun W hb => (hb.cell (p := ⟨b1, o1 + k * 2, none⟩) eH).trans k0
      have xz : ∀ W, Below wr.heap.size wr W -> W.cell? ⟨w.heap.size, 0, none⟩ = some (.string e.ax) := fun W hb => (dM.out.under hb).cell 0 _ rfl
      go_wp2_with fail; refine kz wr (fun hZ => ?_); refine uq 0 ?_; refine uq 1 ?_; refine uq 2 ?_; refine um 3 ?_; refine um 4 ?_; refine um 5 ?_; refine um 6 ?_; refine um 7 ?_; refine um 8 ?_; refine um 9 ?_; refine um 10 ?_; refine uq 11 ?_; refine dC ?_; obtain ⟨wd, hwd⟩ : ∃ W9, W9 = wr.drew := ⟨_, rfl⟩
      rw [<- hwd] at hZ ⊢; have cT := Hm (bS.keep au cO.out hZ eI); have eM := af bF hZ; have cF := Hm (dM.out.under hZ); have eN := Hm (au.below jF.out (hZ.mono eI)); have hzd := hZ.size; have k8 := (hZ.cell (p := ⟨b1, o1 + k * 2, none⟩) eH).trans k0; have k9 := (hZ.cell (p := ⟨b1, o1 + k * 2 + 1, none⟩) eH).trans k1; have lc := cF.out.cell 0 _ rfl; have lf := cF.out.cell 1 _ rfl; have eO : b1 < wd.heap.size := Nat.lt_of_lt_of_le eH hzd; have eP : w.heap.size <= wd.heap.size := Nat.le_trans eI hzd; have cU : w.heap.size + 1 <= wd.heap.size := Nat.le_trans eG hzd; clear k0 k1 nR c1' eH eI eG bF dM jF cO hwd hZ wk xz hzd; have k0 := k8; have k1 := k9; have nR := lc; have c1' := lf; have eH := eO; have eI := eP; have eG := cU; have bF := eM; have dM := cF; have jF := eN; have cO := cT; clear k8 k9 lc lf eO eP cU eM cF eN cT; have wk : ∀ W, Below wd.heap.size wd W -> W.cell? ⟨b1, o1 + k * 2, none⟩ = some (.string x.ax) := fun W hb => (hb.cell (p := ⟨b1, o1 + k * 2, none⟩) eH).trans k0
      have xz : ∀ W, Below wd.heap.size wd W -> W.cell? ⟨w.heap.size, 0, none⟩ = some (.string e.ax) := fun W hb => (dM.out.under hb).cell 0 _ rfl
      go_wp2_with fail; refine kz wd (fun hZ => ?_); refine uq 0 ?_; refine uq 1 ?_; refine uq 2 ?_; refine uq 3 ?_; refine uq 4 ?_; refine uq 5 ?_; refine uq 6 ?_; refine uq 7 ?_; refine dC ?_; obtain ⟨we, hwd⟩ : ∃ W9, W9 = wd.drew := ⟨_, rfl⟩
      rw [<- hwd] at hZ ⊢; have cT := Hm (bS.keep au cO.out hZ eI); have eM := af bF hZ; have cF := Hm (dM.out.under hZ); have eN := Hm (au.below jF.out (hZ.mono eI)); have hzd := hZ.size; have k8 := (hZ.cell (p := ⟨b1, o1 + k * 2, none⟩) eH).trans k0; have k9 := (hZ.cell (p := ⟨b1, o1 + k * 2 + 1, none⟩) eH).trans k1; have lc := cF.out.cell 0 _ rfl; have lf := cF.out.cell 1 _ rfl; have eO : b1 < we.heap.size := Nat.lt_of_lt_of_le eH hzd; have eP : w.heap.size <= we.heap.size := Nat.le_trans eI hzd; have cU : w.heap.size + 1 <= we.heap.size := Nat.le_trans eG hzd; clear k0 k1 nR c1' eH eI eG bF dM jF cO hwd hZ wk xz hzd; have k0 := k8; have k1 := k9; have nR := lc; have c1' := lf; have eH := eO; have eI := eP; have eG := cU; have bF := eM; have dM := cF; have jF := eN; have cO := cT; clear k8 k9 lc lf eO eP cU eM cF eN cT; go_wp2_with fail
      go_roundw
      case rel => exact ⟨k + 1, o, true, by omega, rfl, by go_num, by omega, D9.out, cO.out, bF, dM.out⟩
      case measure => simp [intOf]; omega
     ·have Ea := kD (Bool.eq_false_iff.2 hlt) heq
      clear hlt heq; obtain ⟨p1, p2, p3⟩ := ix Ea; have p4 : (x.ax.toList == e.ax.toList) = false := rI (fun h => by rw [h, bj] at Ea; cases Ea)
      have D9 : Hid (o ++ [x] ++ jb e true (l.drop (k + 1)) = dV l e) := by
       show _ = _; have h := HE.out; rw [HD.out] at h; have hl : strLt x.ax e.ax = false := iy Ea; have DX : ¬ x.ax = e.ax := (fun h => by rw [h, bj] at Ea; cases Ea)
       simpa [jb, hl, DX] using h
      clear HE HD Ea; have JI : (0 : Int) <= (k : Int) := by omega
      have Hd : (k : Int) < (n : Int) := by omega
      have wk : ∀ W, Below wr.heap.size wr W -> W.cell? ⟨b1, o1 + k * 2, none⟩ = some (.string x.ax) := fun W hb => (hb.cell (p := ⟨b1, o1 + k * 2, none⟩) eH).trans k0
      have xz : ∀ W, Below wr.heap.size wr W -> W.cell? ⟨w.heap.size, 0, none⟩ = some (.string e.ax) := fun W hb => (dM.out.under hb).cell 0 _ rfl
      go_wp2_with fail; refine kz wr (fun hZ => ?_); refine uq 0 ?_; refine uq 1 ?_; refine uq 2 ?_; refine um 3 ?_; refine um 4 ?_; refine um 5 ?_; refine um 6 ?_; refine um 7 ?_; refine um 8 ?_; refine um 9 ?_; refine um 10 ?_; refine uq 11 ?_; refine dC ?_; obtain ⟨wd, hwd⟩ : ∃ W9, W9 = wr.drew := ⟨_, rfl⟩
      rw [<- hwd] at hZ ⊢; have cT := Hm (bS.keep au cO.out hZ eI); have eM := af bF hZ; have cF := Hm (dM.out.under hZ); have eN := Hm (au.below jF.out (hZ.mono eI)); have hzd := hZ.size; have k8 := (hZ.cell (p := ⟨b1, o1 + k * 2, none⟩) eH).trans k0; have k9 := (hZ.cell (p := ⟨b1, o1 + k * 2 + 1, none⟩) eH).trans k1; have lc := cF.out.cell 0 _ rfl; have lf := cF.out.cell 1 _ rfl; have eO : b1 < wd.heap.size := Nat.lt_of_lt_of_le eH hzd; have eP : w.heap.size <= wd.heap.size := Nat.le_trans eI hzd; have cU : w.heap.size + 1 <= wd.heap.size := Nat.le_trans eG hzd; clear k0 k1 nR c1' eH eI eG bF dM jF cO hwd hZ wk xz hzd; have k0 := k8; have k1 := k9; have nR := lc; have c1' := lf; have eH := eO; have eI := eP; have eG := cU; have bF := eM; have dM := cF; have jF := eN; have cO := cT; clear k8 k9 lc lf eO eP cU eM cF eN cT; have wk : ∀ W, Below wd.heap.size wd W -> W.cell? ⟨b1, o1 + k * 2, none⟩ = some (.string x.ax) := fun W hb => (hb.cell (p := ⟨b1, o1 + k * 2, none⟩) eH).trans k0
      have xz : ∀ W, Below wd.heap.size wd W -> W.cell? ⟨w.heap.size, 0, none⟩ = some (.string e.ax) := fun W hb => (dM.out.under hb).cell 0 _ rfl
      go_wp2_with fail; refine kz wd (fun hZ => ?_); refine uq 0 ?_; refine uq 1 ?_; refine uq 2 ?_; refine uq 3 ?_; refine uq 4 ?_; refine uq 5 ?_; refine uq 6 ?_; refine uq 7 ?_; refine dC ?_; obtain ⟨we, hwd⟩ : ∃ W9, W9 = wd.drew := ⟨_, rfl⟩
      rw [<- hwd] at hZ ⊢; have cT := Hm (bS.keep au cO.out hZ eI); have eM := af bF hZ; have cF := Hm (dM.out.under hZ); have eN := Hm (au.below jF.out (hZ.mono eI)); have hzd := hZ.size; have k8 := (hZ.cell (p := ⟨b1, o1 + k * 2, none⟩) eH).trans k0; have k9 := (hZ.cell (p := ⟨b1, o1 + k * 2 + 1, none⟩) eH).trans k1; have lc := cF.out.cell 0 _ rfl; have lf := cF.out.cell 1 _ rfl; have eO : b1 < we.heap.size := Nat.lt_of_lt_of_le eH hzd; have eP : w.heap.size <= we.heap.size := Nat.le_trans eI hzd; have cU : w.heap.size + 1 <= we.heap.size := Nat.le_trans eG hzd; clear k0 k1 nR c1' eH eI eG bF dM jF cO hwd hZ wk xz hzd; have k0 := k8; have k1 := k9; have nR := lc; have c1' := lf; have eH := eO; have eI := eP; have eG := cU; have bF := eM; have dM := cF; have jF := eN; have cO := cT; clear k8 k9 lc lf eO eP cU eM cF eN cT; obtain ⟨OU, r1, r2, r3, r4⟩ := cO.out; go_wp2_with (at_builtin; refine wpList_append_own_at _ rfl _ _ 25 rfl (w.heap.size + 1) 68 iE (.agg #[.string ⟨#[]⟩, .int .i64 0]) 2 24 Tryz.underlying25 mV fJ fK fL rfl (by decide) _ _ _ rfl (aA r4 (rB.alloc rN _)) ⟨we.heap.size, 0, none⟩ 1 1 [.string x.ax, .int .i64 x.bi] rfl rfl (b8 (Bx.new we _ _)) (by intro u hu; simp at hu; rcases hu with rfl | rfl <;> rfl) (by unfold maxLen; omega) (by omega) (by simp; omega) ?_; intro v5 w5 gK fH pU lh); have kR := aw.after ((Below.refl we.heap.size we).alloc rN _) (dE fH); have iF : ∀ k, k ∈ (Value.ownBlock _).toList -> w.heap.size + 1 <= k := fun k hk => (r4.lt k (by simpa using hk)).1
      have mD : Below w.heap.size we w5 := aw.below kR (fun k hk => by have := iF k hk; omega) eI; have cT := Hm (bS.push au r1 r2 r3 mD rfl (au.below jF.out mD) gK); have eM := bF.trans mD; have cF := Hm (dM.out.turn kR (fun h => by have := iF _ h; omega)); have eN := Hm (au.below jF.out mD); have hzd := kR.size; have k8 := (kR.cell (p := ⟨b1, o1 + k * 2, none⟩) eH (fun h => by have := iF _ h; have := qF.out; simp at *; omega)).trans k0; have k9 := (kR.cell (p := ⟨b1, o1 + k * 2 + 1, none⟩) eH (fun h => by have := iF _ h; have := qF.out; simp at *; omega)).trans k1; have lc := cF.out.cell 0 _ rfl; have lf := cF.out.cell 1 _ rfl; have eO : b1 < w5.heap.size := Nat.lt_of_lt_of_le eH hzd; have eP : w.heap.size <= w5.heap.size := Nat.le_trans eI hzd; have cU : w.heap.size + 1 <= w5.heap.size := Nat.le_trans eG hzd; clear k0 k1 nR c1' eH eI eG bF dM jF cO hzd r1 r2 r3 r4 kR iF mD gK fH pU lh; have k0 := k8; have k1 := k9; have nR := lc; have c1' := lf; have eH := eO; have eI := eP; have eG := cU; have bF := eM; have dM := cF; have jF := eN; have cO := cT; clear k8 k9 lc lf eO eP cU eM cF eN cT
      go_roundw
      case rel => exact ⟨k + 1, o ++ [x], true, by omega, rfl, by go_num, by simp; omega, D9.out, cO.out, bF, dM.out⟩
      case measure => simp [intOf]; omega
  ·obtain ⟨css, r1, r2, r3, r4⟩ := cO.out
   have qZ : k = n := by omega
   have xA : Hid (l.drop k = []) := by show _ = _; rw [qZ, <- HX.out]; exact List.drop_length
   cases p
   ·have D9 : Hid (o ++ [e] = dV l e) := by show _ = _; have h := HE.out; rw [xA.out] at h; simpa [jb] using h
    clear HE xA; go_wp2_with (at_builtin; refine wpList_append_own_at _ rfl _ _ 25 rfl (w.heap.size + 1) 68 iE (.agg #[.string ⟨#[]⟩, .int .i64 0]) 2 24 Tryz.underlying25 mV fJ fK fL rfl (by decide) _ _ _ rfl (aA r4 (rB.alloc rN _)) ⟨wr.heap.size, 0, none⟩ 1 1 [.string e.ax, .int .i64 e.bi] rfl rfl (b8 (Bx.new wr _ _)) (by intro u hu; simp at hu; rcases hu with rfl | rfl <;> rfl) (by unfold maxLen; omega) (by omega) (by simp; omega) ?_; intro v1 w3 ek dI hnil3 FM); have mY := aw.after ((Below.refl wr.heap.size wr).alloc rN _) (dE dI); have cm : ∀ k, k ∈ (Value.ownBlock _).toList -> w.heap.size + 1 <= k := fun k hk => (r4.lt k (by simpa using hk)).1
    have rV : Below w.heap.size wr w3 := aw.below mY (fun k hk => by have := cm k hk; omega) eI; have hr3 := bS.push au r1 r2 r3 rV rfl (au.below (Wf.out wr) rV) ek; rw [D9.out] at hr3; obtain ⟨Sc, s1, s2, s3, s4⟩ := hr3; obtain ⟨a', c', rfl⟩ := bk s4; have ho := kW rfl s1 s2 s3 s4; go_ret; exact ⟨a', c', _, rfl, ho, (fun b hb => by have := (s4.lt b (by simpa using hb)).1; omega), bF.trans rV⟩
   ·have D9 : Hid (o = dV l e) := by show _ = _; have h := HE.out; rw [xA.out] at h; simpa [jb] using h
    rw [D9.out] at r1 r3 r4; clear HE xA; obtain ⟨a', c', rfl⟩ := bk r4; have ho := kW rfl r1 r2 r3 r4; have HO := Hm ho; have jH : Hid (∀ b, b ∈ (Value.ownBlock (.slice a' (dV l e).length c')).toList -> w.heap.size <= b) := fun b hb => by have := (r4.lt b (by simpa using hb)).1; omega
    clear ho r1 r2 r3 r4; go_wp2_with fail; go_ret; exact ⟨a', c', _, rfl, HO.out, jH.out, bF⟩
def dJ (m n : az) : az := if bc n then n else m
def pV (n : az) : Int := if bc n then 0 else 4
theorem xB (cs : List Value) (b0 b1 b2 : Option Addr) (d0 d1 d2 : Nat) (m n : az) (F : List Nat) (w : World) (hr : bg w.heap.size w cs m) (hw : aZ m <= 1048576) (ho : ba w [.slice b0 n.aa.length d0, .slice b1 n.ae.length d1, .slice b2 n.ag.length d2, .int .i64 n.ah] n F) (hN : F.Nodup) (AJ : aZ n <= 16777216) :
  Calls Tryz.prog 100 #[.agg cs.toArray, .agg #[.slice b0 n.aa.length d0, .slice b1 n.ae.length d1, .slice b2 n.ag.length d2, .int .i64 n.ah]] w fun e w' => ∃ (cs' : List Value) (F' : List Nat), e = .returned (.tuple #[.agg cs'.toArray, .int .i64 (pV n)]) /\ ba w' cs' (dJ m n) F' /\ F'.Nodup /\ (∀ b, b ∈ F' -> b ∈ F ∨ w.heap.size <= b) /\ Below w.heap.size w w' := by
 have hq := hr; obtain ⟨a0, c0, a1, c1, a2, c2, rfl, hI, gf, gT, kX, _⟩ := hq; have hw2 : m.aa.length + aP aJ m.aa + (m.ae.length + aP a7 m.ae) + (m.ag.length + aP a7 m.ag) <= 1048576 := hw; have HW := Hm hw; have HR := Hm hr; clear hr hI gf gT hw; have HO := Hm ho; have HN := Hm hN; clear ho hN; go_enter Tryz.func100, Tryz.ntmps100; go_wp2_with fail; obtain ⟨wq, bI⟩ : ∃ wq, wq = (((w.alloc (.cells #[.slice a0 m.aa.length c0, .slice a1 m.ae.length c1, .slice a2 m.ag.length c2, .int .i64 m.ah] 27)).alloc (.cells #[.slice b0 n.aa.length d0, .slice b1 n.ae.length d1, .slice b2 n.ag.length d2, .int .i64 n.ah] 27)).alloc (.cells #[.slice none 0 0, .slice none 0 0, .slice none 0 0, .int .i64 0] 27)) := ⟨_, rfl⟩
 have cJ : Below w.heap.size w wq := by rw [bI]; exact Below.alloc (Below.alloc (Below.alloc rB (by exact rN) _) (by simp; try omega) _) (by simp; try omega) _
 have dl : Bw wq (w.heap.size) 27 [.slice a0 m.aa.length c0, .slice a1 m.ae.length c1, .slice a2 m.ag.length c2, .int .i64 m.ah] := by rw [bI]; exact Bw.alloc (Bw.alloc (Bw.dX _ _ _ (by simp)) _) _
 have nk : Bw wq (w.heap.size + 1) 27 [.slice b0 n.aa.length d0, .slice b1 n.ae.length d1, .slice b2 n.ag.length d2, .int .i64 n.ah] := by rw [bI]; exact Bw.alloc (Bw.dX _ _ _ (by simp)) _
 have hbr : Bw wq (w.heap.size + 2) 27 [.slice none 0 0, .slice none 0 0, .slice none 0 0, .int .i64 0] := by rw [bI]; exact Bw.dX _ _ _ (by simp)
 rw [<- bI]; clear bI; have sD := cJ.size; refine (tz [.slice b0 n.aa.length d0, .slice b1 n.ae.length d1, .slice b2 n.ag.length d2, .int .i64 n.ah] n wq (aq.mono (aq.below (aj.read HO.out) cJ) cJ.size) AJ).mono ?_; rintro e w1 ⟨rfl, hx1⟩; have hb1 := af cJ hx1; have df := dl.under hx1; have vJ := nk.under hx1; have dB := hbr.under hx1; have sF := vJ.lt; have hl2 := dB.lt; have sI := df.lt; clear dl nk hbr
 by_cases hK : bc n = true
 ·have HV : Hid (dJ m n = n /\ pV n = 0) := by refine ⟨?_, ?_⟩ <;> simp [dJ, pV, hK]
  rw [hK]; clear hK; obtain ⟨y0, y1, y2, y3⟩ := vJ.c4; obtain ⟨oa, od, og, oh⟩ := dB.c4; obtain ⟨oc, mz, nL, ol⟩ := dB.f4
  have hkey : ∀ W', aw [w.heap.size + 2] w1 W' -> ba W' [.slice b0 n.aa.length d0, .slice b1 n.ae.length d1, .slice b2 n.ag.length d2, .int .i64 n.ah] n F /\ Below w.heap.size w W' := fun W' hT => by
   have QN : Below w.heap.size w W' := hb1.trans (hT.below (fun k hk => by simp at hk; omega) hb1.size); exact ⟨aj.frame HO.out (fun b hb => QN.block b (aj.lt HO.out b hb)), QN⟩
  have HKEY := Hm hkey; clear hkey; go_wp2_with fail; obtain ⟨h1, h3⟩ := HKEY.out _ (show aw [w.heap.size + 2] w1 ((((w1.setCell ⟨w.heap.size + 2, 0, none⟩ (.slice b0 n.aa.length d0)).setCell ⟨w.heap.size + 2, 1, none⟩ (.slice b1 n.ae.length d1)).setCell ⟨w.heap.size + 2, 2, none⟩ (.slice b2 n.ag.length d2)).setCell ⟨w.heap.size + 2, 3, none⟩ (.int .i64 n.ah)) from bE _ _ _ _ _ _); exact bodyPost_ret (v := .tuple #[.agg #[.slice b0 n.aa.length d0, .slice b1 n.ae.length d1, .slice b2 n.ag.length d2, .int .i64 n.ah], .int .i64 0]) (by simp [results, Tryz.results100, go_sem, *]) rfl ⟨[.slice b0 n.aa.length d0, .slice b1 n.ae.length d1, .slice b2 n.ag.length d2, .int .i64 n.ah], F, by rw [HV.out.2], by rw [HV.out.1]; exact h1, HN.out, fun b hb => .inl hb, h3⟩
 ·have hK2 : bc n = false := Bool.eq_false_iff.2 hK
  have HV : Hid (dJ m n = m /\ pV n = 4) := by refine ⟨?_, ?_⟩ <;> simp [dJ, pV, hK2]
  rw [hK2]; clear hK hK2; obtain ⟨y0, y1, y2, y3⟩ := df.c4; go_wp2_with fail; refine (cE _ m w1 (aq.mono (aq.below HR.out hb1) hb1.size) HW.out).mono ?_; rintro e w3 ⟨uB, F3, rfl, eU, jx, cm, hx3⟩; have hb3 := af hb1 hx3; have dc := dB.under hx3; have R7 := dc.lt; obtain ⟨q0, p0, q1, p1, q2, p2, G0, G1, G2, rfl, _, _, _, _, rfl⟩ := aC eU
  have hkey : ∀ W', aw [w.heap.size + 2] w3 W' -> ba W' [.slice q0 m.aa.length p0, .slice q1 m.ae.length p1, .slice q2 m.ag.length p2, .int .i64 m.ah] m (G0 ++ G1 ++ G2 ++ []) /\ Below w.heap.size w W' := fun W' hT =>
   ⟨aj.frame eU (fun b hb => hT.block b (aj.lt eU b hb) (fun h => by simp at h; have := cm b hb; omega)), hb3.trans (hT.below (fun k hk => by simp at hk; omega) hb3.size)⟩
  have HKEY := Hm hkey; have jH := Hm cm; have HN3 := Hm jx; clear hkey eU jx cm y0 y1 y2 y3; obtain ⟨oa, od, og, oh⟩ := dc.c4; obtain ⟨oc, mz, nL, ol⟩ := dc.f4; go_wp2_with fail; obtain ⟨h1, h3⟩ := HKEY.out _ (show aw [w.heap.size + 2] w3 ((((w3.setCell ⟨w.heap.size + 2, 0, none⟩ (.slice q0 m.aa.length p0)).setCell ⟨w.heap.size + 2, 1, none⟩ (.slice q1 m.ae.length p1)).setCell ⟨w.heap.size + 2, 2, none⟩ (.slice q2 m.ag.length p2)).setCell ⟨w.heap.size + 2, 3, none⟩ (.int .i64 m.ah)) from bE _ _ _ _ _ _); exact bodyPost_ret (v := .tuple #[.agg #[.slice q0 m.aa.length p0, .slice q1 m.ae.length p1, .slice q2 m.ag.length p2, .int .i64 m.ah], .int .i64 4]) (by simp [results, Tryz.results100, go_sem, *]) rfl ⟨[.slice q0 m.aa.length p0, .slice q1 m.ae.length p1, .slice q2 m.ag.length p2, .int .i64 m.ah], _, by rw [HV.out.2], by rw [HV.out.1]; exact h1, HN3.out, fun b hb => .inr (by have := jH.out b hb; have := hb1.size; omega), h3⟩
end Go.Proofs.YtcamcgfbljhbhaaGreatDoor
