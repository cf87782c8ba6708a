/-
  Part 12 of the texts that the proof leans on.
-/
import Derived.Test.YtomlpobbhioflaaGreatDoorStn4
import Derived.Test.YtomlpobbhioflaaGreatDoorStn10
import Derived.Maps.RangeWalk
import Derived.Sort.KeysCollected
set_option linter.unusedVariables false
set_option linter.unusedSimpArgs false
set_option maxRecDepth 10000

namespace Go.Proofs.YtomlpobbhioflaaGreatDoor
open Go.RowKit
theorem ownS.split {α : Type} {size : Nat} {e : TypeId} {O : ORep α} {R : Rep α} (hO : O.Good R size) {w : World} {g cap : Nat} {l : List α} {F : List Nat} (h : ownS size e O w (.slice (some ⟨g, 0, none⟩) l.length cap) l F) (hN : F.Nodup) {k : Nat} (hk : k < l.length) :
  ∃ cs Fk, O w cs l[k] Fk ∧ Fk.Nodup ∧ (∀ b, b ∈ Fk → b ∈ F ∧ b ≠ g) ∧ g ∈ F ∧ (∀ i u, cs[i]? = some u → w.cell? ⟨g, k * size + i, none⟩ = some u) ∧ (∀ i, w.frozen? ⟨g, i, none⟩ = false) ∧
   ∀ (W : World) (i : Nat) (u : Value) (m' : α) (G Fn : List Nat), i < size → Turn Fk w W → O W (cs.set i u) m' G → G.Nodup → (∀ b, b ∈ G → b ∈ Fk ∨ b ∈ Fn) → (∀ b, b ∈ Fn → b ∉ F) →
    ∃ F', ownS size e O (W.setCell ⟨g, k * size + i, none⟩ u) (.slice (some ⟨g, 0, none⟩) l.length cap) (l.set k m') F' ∧ F'.Nodup ∧ ∀ b, b ∈ F' → b ∈ F ∨ b ∈ Fn := by
 rcases h with ⟨h0, _, _⟩ | ⟨g', cap', cur, Fs, h1, h2, h3, h4, h5, h6, h7, rfl⟩
 ·cases h0
 ·simp only [Value.slice.injEq, Option.some.injEq, Addr.mk.injEq, and_true, true_and] at h1
  obtain ⟨rfl, rfl⟩ := h1
  rw [List.nodup_cons] at hN
  have hkF : k < Fs.length := by omega
  have hgk : Fs.getD k [] = Fs[k] := by rw [List.getD_eq_getElem?_getD, List.getElem?_eq_getElem hkF]; rfl
  have hfn := flatten_nodup_iff.1 hN.2
  have hnk : (Fs.getD k []).Nodup := by rw [hgk]; exact hfn.1 _ (List.getElem_mem hkF)
  refine ⟨_, _, h7 k hk, hnk, fun b hb => ⟨List.mem_cons_of_mem _ (mem_flatten_getD hkF hb), fun e => hN.1 (by rw [← e]; exact mem_flatten_getD hkF hb)⟩, by simp, fun i u hu => ?_, fun i => frozen_of_row w g i cur e h2, ?_⟩
  ·rw [cell_of_row w g _ cur e (0, 0) h2]
   rw [List.getElem?_take] at hu
   split at hu
   ·rw [List.getElem?_drop] at hu
    simpa using hu
   ·cases hu
  intro W i u m' G Fn hi hT g1 g2 g3 hFn
  have hFn' : ∀ b, b ∈ Fn → b ∉ Fs.flatten := fun b hb hb2 => hFn b hb (List.mem_cons_of_mem _ hb2)
  obtain ⟨n1, n2⟩ := set_nodup hkF hN.2 g2 g3 hFn'
  have hgF : g ∉ (Fs.set k G).flatten := by
   intro hg
   rcases n2 g hg with hg | hg
   ·exact hN.1 hg
   ·exact hFn g hg (by simp)
  have hgW : W.heap[g]? = some (.cells cur e (0, 0)) := (hT.block g (Array.getElem?_eq_some_iff.1 h2).1 (fun hm => hN.1 (mem_flatten_getD hkF hm))).trans h2
  have hs := heap_setCell_same W g (k * size + i) cur e u hgW
  refine ⟨g :: (Fs.set k G).flatten, .inr ⟨g, cap, cur.setIfInBounds (k * size + i) u, Fs.set k G, by simp, hs, by simpa using h3, h4, by simpa using h5, by simp [h6], ?_, rfl⟩, List.nodup_cons.2 ⟨hgF, n1⟩, ?_⟩
  ·intro j hj
   have hj' : j < l.length := by simpa using hj
   have hfr : ∀ b, b ∈ (Fs.set k G).getD j [] → (W.setCell ⟨g, k * size + i, none⟩ u).heap[b]? = W.heap[b]? := by
    intro b hb
    have hbf : b ∈ (Fs.set k G).flatten := mem_flatten_getD (by simp; omega) hb
    exact heap_setCell_other W ⟨g, k * size + i, none⟩ b u (fun hh => hgF (by have : b = g := hh; rw [← this]; exact hbf))
   have hlen : cur.toList.length = cap * size := by simpa using h5
   by_cases hjk : j = k
   ·subst hjk
    have e1 : ((cur.setIfInBounds (j * size + i) u).toList.drop (j * size)).take size = ((cur.toList.drop (j * size)).take size).set i u := by
     rw [Array.toList_setIfInBounds]
     apply List.ext_getElem?
     intro x
     rw [List.getElem?_take, List.getElem?_drop, List.getElem?_set, List.getElem?_set, List.getElem?_take, List.getElem?_drop]
     by_cases hx : x < size
     ·rw [if_pos hx, if_pos hx]
      by_cases hxi : i = x
      ·subst hxi
       have hmul : (j + 1) * size ≤ cap * size := Nat.mul_le_mul_right _ (by omega)
       rw [Nat.succ_mul] at hmul
       rw [if_pos rfl, if_pos rfl, if_pos (by omega), if_pos (by simp; omega)]
      ·rw [if_neg (by omega), if_neg hxi]
     ·rw [if_neg hx, if_neg (by omega), if_neg hx]
    have e2 : (Fs.set j G).getD j [] = G := by rw [List.getD_eq_getElem?_getD, List.getElem?_set_self (by omega)]; rfl
    rw [List.getElem_set_self, e1]
    rw [e2] at hfr ⊢
    exact hO.frame g1 hfr
   ·have e1 : ((cur.setIfInBounds (k * size + i) u).toList.drop (j * size)).take size = (cur.toList.drop (j * size)).take size := by
     rw [Array.toList_setIfInBounds]
     apply List.ext_getElem?
     intro x
     rw [List.getElem?_take, List.getElem?_drop, List.getElem?_set, List.getElem?_take, List.getElem?_drop]
     by_cases hx : x < size
     ·rw [if_pos hx, if_pos hx]
      have : k * size + i ≠ j * size + x := by
       intro hh
       rcases Nat.lt_or_gt_of_ne hjk with hlt | hlt
       ·have hmul : (j + 1) * size ≤ k * size := Nat.mul_le_mul_right _ hlt
        rw [Nat.succ_mul] at hmul; omega
       ·have hmul : (k + 1) * size ≤ j * size := Nat.mul_le_mul_right _ hlt
        rw [Nat.succ_mul] at hmul; omega
      rw [if_neg this]
     ·rw [if_neg hx, if_neg hx]
    have e2 : (Fs.set k G).getD j [] = Fs.getD j [] := by rw [List.getD_eq_getElem?_getD, List.getD_eq_getElem?_getD, List.getElem?_set_ne (Ne.symm hjk)]
    rw [List.getElem_set_ne (Ne.symm hjk), e1]
    rw [e2] at hfr ⊢
    have hjF : j < Fs.length := by omega
    have hgj : Fs.getD j [] = Fs[j] := by rw [List.getD_eq_getElem?_getD, List.getElem?_eq_getElem hjF]; rfl
    have hW : O W ((cur.toList.drop (j * size)).take size) l[j] (Fs.getD j []) := hO.frame (h7 j hj') (fun b hb => hT.block b (hO.lt (h7 j hj') b hb) (fun hm => by
     rw [hgj] at hb
     rw [hgk] at hm
     have hp := List.pairwise_iff_getElem.1 hfn.2
     rcases Nat.lt_or_gt_of_ne hjk with hlt | hlt
     ·exact hp j k hjF hkF hlt b hb hm
     ·exact hp k j hkF hjF hlt b hm hb))
    exact hO.frame hW hfr
  ·intro b hb
   rcases List.mem_cons.1 hb with rfl | hb
   ·exact .inl (by simp)
   ·rcases n2 b hb with h | h
    ·exact .inl (List.mem_cons_of_mem _ h)
    ·exact .inr h
theorem oDisk_put {W : World} {g c0 : Nat} {a1 a2 : Option Addr} {c1 c2 : Nat} {m : MDisk} {F0 F1 F2 : List Nat} {p : Nat} {f : MInode → MInode} (hp : p < m.fInodes.length) (h0 : ownS 3 53 oInode W (.slice (some ⟨g, 0, none⟩) m.fInodes.length c0) (m.fInodes.set p (f m.fInodes[p])) F0) (h1 : ownS 2 56 oEntry W (.slice a1 m.fNames.length c1) m.fNames F1) (h2 : ownS 2 56 oEntry W (.slice a2 m.fSafe.length c2) m.fSafe F2)
  (h3 : (Lit.int .i64 m.fNext).wf = true) : oDisk W [.slice (some ⟨g, 0, none⟩) m.fInodes.length c0, .slice a1 m.fNames.length c1, .slice a2 m.fSafe.length c2, .int .i64 m.fNext] { m with fInodes := updI m.fInodes p f } (F0 ++ F1 ++ F2 ++ []) :=
 ⟨_, F0, _, F1, _, F2, rfl, by rw [updI_at hp]; exact h0, h1, h2, h3, rfl⟩
end Go.Proofs.YtomlpobbhioflaaGreatDoor

namespace Go.Proofs.YtomlpobbhioflaaGreatDoor
open Go.RowKit Go.Maps Go.Shelf Go.Lib Go.Sort
def encE (e : MEntry) : List Value := [.string e.fName, .int .i64 e.fId]
def cmpN (a b : ByteArray) : Int := if strLt a b then -1 else if strLt b a then 1 else 0
def cmpE (a b : MEntry) : Int := cmpN a.fName b.fName
theorem ltOfE (a b : MEntry) : ltOf cmpE a b = strLt a.fName b.fName := by
 unfold ltOf cmpE cmpN
 by_cases h : strLt a.fName b.fName = true
 ·simp [h]
 ·simp only [h]
  by_cases h2 : strLt b.fName a.fName = true
  ·simp [h2]
  ·simp [h2]
@[reducible] def inhE : Inhabited MEntry := ⟨⟨ByteArray.empty, 0⟩⟩
theorem swoE : SWO (ltOf cmpE) where
 irrefl x := by rw [ltOfE]; exact strLt_irrefl _
 trans x y z h1 h2 := by rw [ltOfE] at *; exact strLt_trans h1 h2
 ntrans x y z h1 h2 := by
  rw [ltOfE] at *
  by_cases hxy : x.fName = y.fName
  ·rw [hxy]; exact h2
  ·have h3 := strLt_tri h1 hxy
   by_cases hyz : y.fName = z.fName
   ·rw [← hyz]; exact h1
   ·exact strLt_asymm (strLt_trans (strLt_tri h2 hyz) h3)
set_option maxHeartbeats 1000000 in
theorem compareStr_any (a b : ByteArray) (w : World) :
  Calls Tryz.prog 102 #[.string a, .string b] w fun e w' => e = .returned (.int .i64 (cmpN a b)) ∧ w' = w := by
 by_cases h1 : strLt a b = true
 ·have hv : cmpN a b = -1 := by unfold cmpN; rw [if_pos h1]
  rw [hv]
  obtain ⟨p1, p2, p3⟩ := strLt_facts h1
  clear hv h1
  go_enter Tryz.func102, Tryz.ntmps102
  go_wp2
  go_ret
  exact ⟨rfl, rfl⟩
 ·have h1' : strLt a b = false := Bool.eq_false_iff.2 h1
  by_cases h2 : strLt b a = true
  ·have hv : cmpN a b = 1 := by unfold cmpN; rw [if_neg h1, if_pos h2]
   rw [hv]
   obtain ⟨p1, p2, p3⟩ := strLt_facts h2
   clear hv h1 h2 h1'
   go_enter Tryz.func102, Tryz.ntmps102
   go_wp2
   go_ret
   exact ⟨rfl, rfl⟩
  ·have h2' : strLt b a = false := Bool.eq_false_iff.2 h2
   have hv : cmpN a b = 0 := by unfold cmpN; rw [if_neg h1, if_neg h2]
   rw [hv]
   have p1 : Op.bytesLess a.toList b.toList = false := h1'
   have p2 : Op.bytesLess b.toList a.toList = false := h2'
   have hab : a.toList = b.toList := by
    by_cases h : a.toList = b.toList
    ·exact h
    ·have := bl_total p1 h; rw [p2] at this; cases this
   have p3 : (a.toList == b.toList) = true := by rw [hab]; simp
   have p4 : (b.toList == a.toList) = true := by rw [hab]; simp
   clear hab hv h1 h2 h1' h2'
   go_enter Tryz.func102, Tryz.ntmps102
   go_wp2
   go_ret
   exact ⟨rfl, rfl⟩
set_option maxHeartbeats 1000000 in
theorem closureE (x y : MEntry) (w : World) : Calls Tryz.prog 101 #[.agg (encE x).toArray, .agg (encE y).toArray] w fun e w' => e = .returned (.int .i64 (cmpE x y)) ∧ ∃ q os', w' = grow (w.drewN q) os' := by
 have hcon := fun W' => compareStr_any x.fName y.fName W'
 have hv : cmpE x y = cmpN x.fName y.fName := rfl
 rw [hv]
 clear hv
 generalize cmpN x.fName y.fName = r at hcon ⊢
 unfold encE
 go_enter Tryz.func101, Tryz.ntmps101
 go_wp2_with (go_at_call 102; refine (hcon _).mono ?_; rintro e w' ⟨rfl, rfl⟩)
 go_ret
 exact ⟨rfl, 0, _, by rw [alloc_eq_grow, alloc_eq_grow, grow_grow]; rfl⟩
theorem isAggE (w : World) : (isAgg 56).run Tryz.prog w = .ok true w := by kernel_rfl
theorem sizeOfE (w : World) : (Go.sizeOf 56).run Tryz.prog w = .ok 2 w := by kernel_rfl
section
variable [Inhabited MEntry]
theorem cmpLaysE (blk off size : Nat) (w : World) : CmpLays Tryz.prog 101 #[] encE 2 cmpE blk off size w :=
 fun _ _ _ _ x y => closureE x y _
theorem sortE_any (blk cap : Nat) (d : Array MEntry) (w : World) (hH : HoldsK encE 2 w blk 0 d) (hblk : blk < w.heap.size) (hsz : d.size < 4611686018427387904) :
  Calls Tryz.prog 100 #[.slice (some ⟨blk, 0, none⟩) d.size cap, .func (.func 101) #[] #[]] w fun e w' => e = .returned (.tuple #[]) ∧ ∃ d' n os, PermIn 0 d.size d d' ∧ SortedIn (ltOf cmpE) 0 d.size d' ∧ w' = sortWorldK encE 2 w blk 0 n d' os := by
 have eg : ∀ args w, (callFunc 101 args).run Tryz.prog w = .ok (.enter 101 args) w := enters_of Tryz.func101 (by kernel_rfl) rfl
 exact AnyQ.slices_SortFunc sortEnt 2 isAggE sizeOfE encE (fun _ => rfl) (fun x v hv => by simp [encE] at hv; rcases hv with rfl | rfl <;> rfl) cmpE swoE 101 #[] blk 0 cap d w eg (cmpLaysE blk 0 d.size w) hH hblk hsz
end
end Go.Proofs.YtomlpobbhioflaaGreatDoor
