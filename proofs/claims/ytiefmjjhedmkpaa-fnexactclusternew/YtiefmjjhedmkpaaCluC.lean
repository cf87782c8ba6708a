/-
  What the laws ask of a cluster of new replicas.
-/
import Derived.Test.YtiefmjjhedmkpaaCluM
namespace Go.Proofs.Ytiefmjjhedmkpaa
open Go.RowKit Go.Maps
set_option linter.unusedVariables false
set_option linter.unusedSimpArgs false
set_option maxRecDepth 10000

set_option maxHeartbeats 4000000 in
theorem eqCluster_new (a b : Option Addr) (n ca cb : Nat) (l : List MRn) (w : World) (hx : l.length = n) (hra : LeafL 8 rRn w.heap.size w a ca l) (hrb : LeafL 8 rRn w.heap.size w b cb l) :
    Calls Try.prog 7 #[.agg #[.slice a n ca, .slice none 0 0, .slice none 0 0], .agg #[.slice b n cb, .slice none 0 0, .slice none 0 0]] w fun e w' => e = .returned (.bool true) ∧ Below w.heap.size w w' := by
  have HA := Hid.mk hra
  have HB := Hid.mk hrb
  have HX := Hid.mk hx
  clear hra hrb hx
  obtain ⟨wq, hwq⟩ : ∃ wq, wq = (w.alloc (.cells #[.slice a n ca, .slice none 0 0, .slice none 0 0] 26)).alloc (.cells #[.slice b n cb, .slice none 0 0, .slice none 0 0] 26) := ⟨_, rfl⟩
  have hbW : Below w.heap.size w wq := by rw [hwq]; exact ((Below.refl _ _).alloc (Nat.le_refl _) _).alloc (by simp) _
  have hbx : Bx wq w.heap.size [.slice a n ca, .slice none 0 0, .slice none 0 0] := by rw [hwq]; exact (Bx.new _ _ _).alloc _
  have hby : Bx wq (w.heap.size + 1) [.slice b n cb, .slice none 0 0, .slice none 0 0] := by rw [hwq]; have h := Bx.new (w.alloc (.cells #[.slice a n ca, .slice none 0 0, .slice none 0 0] 26)) [.slice b n cb, .slice none 0 0, .slice none 0 0] 26; simpa using h
  have HE := Hid.mk (eqReplicaS_yes a b n ca cb l wq HX.out (LeafL.mono rRn_good (HA.out.below rRn_good hbW) hbW.size) (LeafL.mono rRn_good (HB.out.below rRn_good hbW) hbW.size))
  have y0 := hbx.2 0 _ rfl
  have y1 := hbx.2 1 _ rfl
  have y2 := hbx.2 2 _ rfl
  have z0 := hby.2 0 _ rfl
  have z1 := hby.2 1 _ rfl
  have z2 := hby.2 2 _ rfl
  go_enter Try.func7, Try.ntmps7
  go_wp2_with fail
  rw [← hwq]
  refine HE.out.mono ?_
  rintro e w2 ⟨rfl, hx2⟩
  clear y0 y1 y2 z0 z1 z2
  have hb2 := bthen hbW hx2
  replace hbx := hbx.under hx2
  replace hby := hby.under hx2
  clear HE hwq
  have y0 := hbx.2 0 _ rfl
  have y1 := hbx.2 1 _ rfl
  have y2 := hbx.2 2 _ rfl
  have z0 := hby.2 0 _ rfl
  have z1 := hby.2 1 _ rfl
  have z2 := hby.2 2 _ rfl
  go_wp2_with fail
  refine (eqMsgS_nil _).mono ?_
  rintro e w1 ⟨rfl, hw1⟩
  replace hw1 := hw1.symm
  subst hw1
  go_wp2_with fail
  refine (eqAskedS_nil _).mono ?_
  rintro e w1 ⟨rfl, hw1⟩
  replace hw1 := hw1.symm
  subst hw1
  go_wp2_with fail
  go_ret
  exact ⟨rfl, hb2⟩

set_option maxHeartbeats 4000000 in
theorem markCluster_new (v : Value) (l : List MRn) (F : List Nat) (q : Int) (w : World) (hq : 0 ≤ q) (hq2 : q + sumW cntRn l ≤ 70368744177664) (ho : ownS 8 37 oRn w v l F) (hN : F.Nodup) :
    Calls Try.prog 8 #[.agg #[v, .slice none 0 0, .slice none 0 0], .int .i64 q] w fun e w' => e = .returned (.int .i64 (q + sumW cntRn l)) ∧ ∃ l', ownS 8 37 oRn w' v l' F ∧ l'.length = l.length ∧ hdS hdRn l' q (q + sumW cntRn l) ∧ Turn F w w' := by
  obtain ⟨a, ca, hva, _⟩ := ownS.read oRn_good ho
  obtain ⟨n, hn⟩ : ∃ n, n = l.length := ⟨_, rfl⟩
  rw [← hn] at hva ⊢
  subst hva
  have HN := Hid.mk hn
  clear hn
  have HO := Hid.mk ho
  clear ho
  obtain ⟨wq, hwq⟩ : ∃ wq, wq = w.alloc (.cells #[.slice a n ca, .slice none 0 0, .slice none 0 0] 26) := ⟨_, rfl⟩
  have hbW : Below w.heap.size w wq := by rw [hwq]; exact (Below.refl _ _).alloc (Nat.le_refl _) _
  have hbx : Bx wq w.heap.size [.slice a n ca, .slice none 0 0, .slice none 0 0] := by rw [hwq]; exact Bx.new _ _ _
  have hlt := fun b hb => ownS.lt oRn_good HO.out b hb
  have HLT := Hid.mk hlt
  clear hlt
  have HE := Hid.mk (markReplicaS_any _ l F q wq hq hq2 (ownS.frame oRn_good HO.out (fun b hb => hbW.block b (HLT.out b hb))) hN)
  generalize hs : q + (sumW cntRn l : Int) = q2 at HE hq2 ⊢
  have hq3 : 0 ≤ q2 := by omega
  clear hs
  have y0 := hbx.2 0 _ rfl
  have y1 := hbx.2 1 _ rfl
  have y2 := hbx.2 2 _ rfl
  go_enter Try.func8, Try.ntmps8
  go_wp2_with fail
  rw [← hwq]
  refine HE.out.mono ?_
  rintro e w2 ⟨rfl, l', ho', hl', hh', ht'⟩
  clear y0 y1 y2
  replace hbx := hbx.turn ht' (fun h => by have := HLT.out _ h; omega)
  have hb2 : Turn F w w2 := Turn.after hbW ht'
  have HO' := Hid.mk ho'
  have HH' := Hid.mk hh'
  clear ho' hh' ht'
  clear HE hwq
  have y0 := hbx.2 0 _ rfl
  have y1 := hbx.2 1 _ rfl
  have y2 := hbx.2 2 _ rfl
  go_wp2_with fail
  refine (markMsgS_nil _ _).mono ?_
  rintro e w1 ⟨rfl, hw1⟩
  replace hw1 := hw1.symm
  subst hw1
  go_wp2_with fail
  refine (markAskedS_nil _ _).mono ?_
  rintro e w1 ⟨rfl, hw1⟩
  replace hw1 := hw1.symm
  subst hw1
  go_wp2_with fail
  go_ret
  exact ⟨rfl, l', HO'.out, by rw [HN.out]; exact hl', HH'.out, hb2⟩

set_option maxHeartbeats 4000000 in
theorem heldCluster_new (a : Option Addr) (n ca : Nat) (l : List MRn) (q q' : Int) (w : World) (hx : l.length = n) (hr : LeafL 8 rRn w.heap.size w a ca l) (hh : hdS hdRn l q q') (hq : 0 ≤ q) (hq0 : 0 ≤ q') (hq' : q' ≤ 70368744177664) :
    Calls Try.prog 9 #[.agg #[.slice a n ca, .slice none 0 0, .slice none 0 0], .int .i64 q] w fun e w' => e = .returned (.int .i64 q') ∧ Below w.heap.size w w' := by
  have HA := Hid.mk hr
  have HX := Hid.mk hx
  have HH := Hid.mk hh
  clear hr hx hh
  obtain ⟨wq, hwq⟩ : ∃ wq, wq = w.alloc (.cells #[.slice a n ca, .slice none 0 0, .slice none 0 0] 26) := ⟨_, rfl⟩
  have hbW : Below w.heap.size w wq := by rw [hwq]; exact (Below.refl _ _).alloc (Nat.le_refl _) _
  have hbx : Bx wq w.heap.size [.slice a n ca, .slice none 0 0, .slice none 0 0] := by rw [hwq]; exact Bx.new _ _ _
  have HE := Hid.mk (heldReplicaS_any a n ca l q q' wq HX.out (LeafL.mono rRn_good (HA.out.below rRn_good hbW) hbW.size) HH.out hq hq')
  have y0 := hbx.2 0 _ rfl
  have y1 := hbx.2 1 _ rfl
  have y2 := hbx.2 2 _ rfl
  go_enter Try.func9, Try.ntmps9
  go_wp2_with fail
  rw [← hwq]
  refine HE.out.mono ?_
  rintro e w2 ⟨rfl, hx2⟩
  clear y0 y1 y2
  have hb2 := bthen hbW hx2
  replace hbx := hbx.under hx2
  clear HE hwq
  have y0 := hbx.2 0 _ rfl
  have y1 := hbx.2 1 _ rfl
  have y2 := hbx.2 2 _ rfl
  go_wp2_with fail
  refine (heldMsgS_nil _ _).mono ?_
  rintro e w1 ⟨rfl, hw1⟩
  replace hw1 := hw1.symm
  subst hw1
  go_wp2_with fail
  refine (heldAskedS_nil _ _).mono ?_
  rintro e w1 ⟨rfl, hw1⟩
  replace hw1 := hw1.symm
  subst hw1
  go_wp2_with fail
  go_ret
  exact ⟨rfl, hb2⟩

end Go.Proofs.Ytiefmjjhedmkpaa
