/-
  Part 2 of the texts that the proof leans on.
-/
import Derived.Test.YtcamcgfbljhbhaaGreatDoorMan0
import Derived.Maps.OwnSet
import Derived.Maps.RangeWalk
import Derived.Sort.KeysCollected
import Derived.Test.YtcamcgfbljhbhaaGreatDoorRows
import Derived.Test.YtcamcgfbljhbhaaGreatDoorChecked
import Derived.Maps.AppendAt
set_option linter.unusedVariables false
set_option linter.unusedSimpArgs false
set_option maxRecDepth 10000
set_option maxHeartbeats 20000000

namespace Go.Proofs.YtcamcgfbljhbhaaGreatDoor
open Go.RowKit
theorem Fg {ins : List aI} : ∀ {l : List aB} {seen : List Int} {prev : ByteArray}, ly ins seen prev l = true ↔
  ((∀ e, e ∈ l -> ee ins e.bi = true /\ bH e.ax = true /\ e.bi ∉ seen /\ strLt prev e.ax = true) /\ l.Pairwise (fun x y => strLt x.ax y.ax = true /\ x.bi ≠ y.bi))
 | [], seen, prev => by simp [ly]
 | x :: r, seen, prev => by
  rw [ly, Bool.and_eq_true, Fg (l := r), List.pairwise_cons]; unfold jO; simp only [Bool.and_eq_true, Bool.not_eq_true', List.contains_eq_mem, decide_eq_false_iff_not, List.mem_append, List.mem_singleton, not_or]; constructor
  ·rintro ⟨⟨⟨⟨h1, h2⟩, h3⟩, h4⟩, h5, h6⟩
   refine ⟨?_, fun e he => ⟨(h5 e he).2.2.2, fun hh => (h5 e he).2.2.1.2 hh.symm⟩, h6⟩; intro e he; rcases List.mem_cons.1 he with rfl | he
   ·exact ⟨h1, h4, h2, h3⟩
   ·exact ⟨(h5 e he).1, (h5 e he).2.1, (h5 e he).2.2.1.1, gD h3 (h5 e he).2.2.2⟩
  ·rintro ⟨h1, h2, h3⟩
   have hx := h1 x (by simp); refine ⟨⟨⟨⟨hx.1, hx.2.2.1⟩, hx.2.2.2⟩, hx.2.1⟩, fun e he => ?_, h3⟩; have h4 := h1 e (by simp [he]); exact ⟨h4.1, h4.2.1, ⟨h4.2.2.1, fun hh => (h2 e he).2 hh.symm⟩, (h2 e he).1⟩
def gF (ins : List aI) (l : List aB) : Prop :=
 (∀ e, e ∈ l -> ee ins e.bi = true /\ bH e.ax = true) /\ l.Pairwise (fun x y => strLt x.ax y.ax = true /\ x.bi ≠ y.bi)
theorem GD {ins : List aI} {l : List aB} : ly ins [] ByteArray.empty l = true ↔ gF ins l := by
 rw [Fg]; unfold gF; constructor
 ·rintro ⟨h1, h2⟩
  exact ⟨fun e he => ⟨(h1 e he).1, (h1 e he).2.1⟩, h2⟩
 ·rintro ⟨h1, h2⟩
  exact ⟨fun e he => ⟨(h1 e he).1, (h1 e he).2, by simp, BG (wD (h1 e he).2)⟩, h2⟩
theorem Fh {next : Int} : ∀ {l : List aI} {prev : Int}, nQ next prev l = true ↔
  ((∀ n, n ∈ l -> prev < n.bi /\ n.bi < next /\ 0 <= n.aW /\ n.aW <= n.aG.length) /\ l.Pairwise (fun x y => x.bi < y.bi))
 | [], prev => by simp [nQ]
 | x :: r, prev => by
  rw [nQ, Bool.and_eq_true, Fh (l := r), List.pairwise_cons]; unfold rf; rw [decide_eq_true_iff]; constructor
  ·rintro ⟨h1, h2, h3⟩
   refine ⟨?_, fun n hn => (h2 n hn).1, h3⟩; intro n hn; rcases List.mem_cons.1 hn with rfl | hn
   ·exact h1
   ·have := h2 n hn; omega
  ·rintro ⟨h1, h2, h3⟩
   refine ⟨h1 x (by simp), fun n hn => ?_, h3⟩; have := h1 n (by simp [hn]); have := h2 n hn; omega
structure Fi (m : az) : Prop where
 next : 1 <= m.ah /\ m.ah <= 1000000
 each : ∀ n, n ∈ m.aa -> 0 < n.bi /\ n.bi < m.ah /\ 0 <= n.aW /\ n.aW <= n.aG.length
 px : m.aa.Pairwise (fun x y => x.bi < y.bi)
 size : aP aJ m.aa <= 60000
 few : m.ae.length <= 30
 DF : m.ag.length <= 30
 names : gF m.aa m.ae
 safe : gF m.aa m.ag
 all : ∀ n, n ∈ m.aa -> isNamed m n = true
theorem bM {m : az} : bc m = true ↔ Fi m := by
 unfold bc; simp only [Bool.and_eq_true, decide_eq_true_iff, GD, Fh, List.all_eq_true]; constructor
 ·rintro ⟨⟨⟨⟨⟨⟨⟨h1, h2, h3⟩, h4⟩, h5⟩, h6⟩, h7⟩, h8⟩, h9⟩
  exact ⟨h1, h2, h3, h4, h5, h7, h6, h8, h9⟩
 ·rintro ⟨h1, h2, h3, h4, h5, h7, h6, h8, h9⟩
  exact ⟨⟨⟨⟨⟨⟨⟨h1, h2, h3⟩, h4⟩, h5⟩, h6⟩, h7⟩, h8⟩, h9⟩
theorem iR {α : Type} {f : α -> Nat} {l k : List α} (h : l.Sublist k) : aP f l <= aP f k := by
 induction h with
 | slnil => exact rN
 | cons a _ ih => simp only [aP]; omega
 | cons_cons a _ ih => simp only [aP]; omega
theorem qA {l : List aI} {id : Int} : ee l id = true ↔ ∃ n, n ∈ l /\ n.bi = id := by
 unfold ee; rw [List.any_eq_true]; simp
theorem zq {l : List aB} {id : Int} : named l id = true ↔ id ∈ l.map (·.bi) := by
 constructor
 ·exact uh
 ·intro h
  obtain ⟨e, he, rfl⟩ := List.mem_map.1 h; obtain ⟨k, hk, rfl⟩ := List.mem_iff_getElem.1 he; exact zl hk rfl
theorem fx {d : az} {n : aI} : isNamed d n = true ↔ n.bi ∈ d.ae.map (·.bi) ++ d.ag.map (·.bi) := by
 unfold isNamed; rw [Bool.or_eq_true, zq, zq, List.mem_append]
def aY (m : az) : az := { m with aa := bV m }
theorem qB {m : az} (h : ∀ n, n ∈ m.aa -> isNamed m n = true) : bV m = m.aa := by
 unfold bV; exact List.filter_eq_self.2 h
theorem gF.kept {m : az} {l : List aB} (h : gF m.aa l) (hl : ∀ e, e ∈ l -> e.bi ∈ m.ae.map (·.bi) ++ m.ag.map (·.bi)) : gF (bV m) l := by
 refine ⟨fun e he => ⟨?_, (h.1 e he).2⟩, h.2⟩; obtain ⟨n, hn, hid⟩ := qA.1 (h.1 e he).1; refine qA.2 ⟨n, ?_, hid⟩; unfold bV; refine List.mem_filter.2 ⟨hn, fx.2 ?_⟩; rw [hid]; exact hl e he
theorem vZ {m : az} (h : Fi m) {N S : List aB} (hN : N.length <= 30) (hS : S.length <= 30) (oN : gF m.aa N) (oS : gF m.aa S) :
  Fi (aY { m with ae := N, ag := S }) := by
 have m5 : (bV { m with ae := N, ag := S }).Sublist m.aa := List.filter_sublist; refine ⟨h.next, fun n hn => h.each n (m5.subset hn), h.px.sublist m5, Nat.le_trans (iR m5) h.size, hN, hS, ?_, ?_, ?_⟩
 ·exact gF.kept (m := { m with ae := N, ag := S }) oN (fun e he => List.mem_append_left _ (List.mem_map.2 ⟨e, he, rfl⟩))
 ·exact gF.kept (m := { m with ae := N, ag := S }) oS (fun e he => List.mem_append_right _ (List.mem_map.2 ⟨e, he, rfl⟩))
 ·intro n hn
  exact (List.mem_filter.1 (show n ∈ List.filter (isNamed { m with ae := N, ag := S }) m.aa from hn)).2
def without (l : List aB) (s : ByteArray) : List aB := l.filter fun e => decide (e.ax ≠ s)
def dV (l : List aB) (e : aB) : List aB := l.filter (fun x => strLt x.ax e.ax) ++ e :: l.filter (fun x => strLt e.ax x.ax)
def jb (e : aB) : Bool -> List aB -> List aB
 | put, [] => if put then [] else [e]
 | put, x :: r => (if put = false /\ strLt x.ax e.ax = false then [e] else []) ++ ((if x.ax = e.ax then [] else [x]) ++ jb e (put || !strLt x.ax e.ax) r)
theorem bj (s : ByteArray) : strLt s s = false := qy _
theorem iy {a b : ByteArray} (h : strLt a b = true) : strLt b a = false := sO h
theorem kD {a b : ByteArray} (h1 : strLt a b = false) (h2 : a ≠ b) : strLt b a = true := sP h1 (fun e => h2 (DC.1 (by rw [e]; simp)))
def kr (l : List aB) : Prop := l.Pairwise (fun x y => strLt x.ax y.ax = true)
theorem rK {e : aB} : ∀ {l : List aB}, (∀ x, x ∈ l -> strLt e.ax x.ax = true) -> jb e true l = l
 | [], _ => rfl
 | x :: r, h => by
  have hx := h x (by simp); have hne : x.ax ≠ e.ax := fun hh => by rw [hh, bj] at hx; cases hx
  simp only [jb, if_neg hne, Bool.true_or]; rw [rK (fun y hy => h y (by simp [hy]))]; simp
theorem uY {e : aB} : ∀ {l : List aB}, kr l -> jb e false l = dV l e
 | [], _ => rfl
 | x :: r, h => by
  unfold kr at h; rw [List.pairwise_cons] at h; unfold dV
  by_cases hlt : strLt x.ax e.ax = true
  ·have hne : x.ax ≠ e.ax := fun hh => by rw [hh, bj] at hlt; cases hlt
   have ih := uY (e := e) h.2; unfold dV at ih; simp only [jb, hlt, if_neg hne, Bool.not_true, Bool.or_self, ih, List.filter_cons, iy hlt]; simp
  ·have GF : strLt x.ax e.ax = false := Bool.eq_false_iff.2 hlt
   have hnil : List.filter (fun x => strLt x.ax e.ax) r = [] := by
    rw [List.filter_eq_nil_iff]; intro y hy hye; exact hlt (gD (h.1 y hy) hye)
   by_cases heq : x.ax = e.ax
   ·have hr : ∀ y, y ∈ r -> strLt e.ax y.ax = true := fun y hy => by rw [<- heq]; exact h.1 y hy
    simp only [jb, GF, heq, bj, Bool.not_false, Bool.or_true, List.filter_cons, hnil, rK hr]; simp [List.filter_eq_self.2 hr]
   ·have Jd := kD GF heq
    have hr : ∀ y, y ∈ r -> strLt e.ax y.ax = true := fun y hy => gD Jd (h.1 y hy)
    simp only [jb, GF, if_neg heq, Bool.not_false, Bool.or_true, List.filter_cons, hnil, rK hr, Jd]; simp [List.filter_eq_self.2 hr]
theorem gF.px {ins : List aI} {l : List aB} (h : gF ins l) : kr l := h.2.imp (fun h => h.1)
theorem gF.sub {ins : List aI} {l k : List aB} (h : gF ins l) (hs : k.Sublist l) : gF ins k := ⟨fun e he => h.1 e (hs.subset he), h.2.sublist hs⟩
theorem gF.more {ins Rc : List aI} {l : List aB} (h : gF ins l) (hi : ∀ n, n ∈ ins -> ∃ n', n' ∈ Rc /\ n'.bi = n.bi) : gF Rc l := by
 refine ⟨fun e he => ⟨?_, (h.1 e he).2⟩, h.2⟩; obtain ⟨n, hn, hid⟩ := qA.1 (h.1 e he).1; obtain ⟨n', hn', DG⟩ := hi n hn; exact qA.2 ⟨n', hn', DG.trans hid⟩
theorem gF.dV {ins : List aI} {l : List aB} {e : aB} (h : gF ins l) (he : ee ins e.bi = true) (hn : bH e.ax = true) (Je : ∀ x, x ∈ l -> x.bi = e.bi -> x.ax = e.ax) : gF ins (dV l e) := by
 unfold Go.Proofs.YtcamcgfbljhbhaaGreatDoor.dV; constructor
 ·intro x hx
  rcases List.mem_append.1 hx with hx | hx
  ·exact h.1 x (List.mem_filter.1 hx).1
  ·rcases List.mem_cons.1 hx with rfl | hx
   ·exact ⟨he, hn⟩
   ·exact h.1 x (List.mem_filter.1 hx).1
 ·rw [List.pairwise_append, List.pairwise_cons]
  refine ⟨h.2.sublist List.filter_sublist, ⟨?_, h.2.sublist List.filter_sublist⟩, ?_⟩
  ·intro y hy
   have hy' := List.mem_filter.1 hy; refine ⟨hy'.2, fun hid => ?_⟩; have := Je y hy'.1 hid.symm; rw [this, bj] at hy'; cases hy'.2
  ·intro x hx y hy
   have yM := List.mem_filter.1 hx; rcases List.mem_cons.1 hy with rfl | hy
   ·refine ⟨yM.2, fun hid => ?_⟩
    have := Je x yM.1 hid; rw [this, bj] at yM; cases yM.2
   ·have hy' := List.mem_filter.1 hy
    obtain ⟨i, hi, rfl⟩ := List.mem_iff_getElem.1 yM.1; obtain ⟨j, hj, rfl⟩ := List.mem_iff_getElem.1 hy'.1; have hlt : strLt l[i].ax l[j].ax = true := gD yM.2 hy'.2
    have Bl : i < j := by
     rcases Nat.lt_trichotomy i j with h1 | h1 | h1
     ·exact h1
     ·subst h1; rw [bj] at hlt; cases hlt
     ·have h2 := (List.pairwise_iff_getElem.1 h.2 j i hj hi h1).1
      rw [iy h2] at hlt; cases hlt
    exact List.pairwise_iff_getElem.1 h.2 i j hi hj Bl
theorem sQ {l : List aB} {e : aB} : (dV l e).length <= l.length + 1 := by
 unfold dV; rw [List.length_append, List.length_cons]
 have h1 : ∀ l : List aB, (l.filter (fun x => strLt x.ax e.ax)).length + (l.filter (fun x => strLt e.ax x.ax)).length <= l.length := by
  intro l
  induction l with
  | nil => simp
  | cons x r ih =>
   by_cases h1 : strLt x.ax e.ax = true
   ·have h2 := iy h1
    simp only [List.filter_cons, h1, h2, if_true, List.length_cons]; simp; omega
   ·simp only [List.filter_cons, h1]
    by_cases h2 : strLt e.ax x.ax = true
    ·simp [h2]; omega
    ·simp [h2]; omega
 have := h1 l; omega
end Go.Proofs.YtcamcgfbljhbhaaGreatDoor

namespace Go.Proofs.YtcamcgfbljhbhaaGreatDoor
open Go.RowKit Go.Maps
def kS (s : ByteArray) : Lit := .string s.data.toList
theorem wF {s t : ByteArray} (h : s ≠ t) : kS s ≠ kS t := by
 intro e; simp only [kS, Lit.string.injEq] at e; apply h; cases s; cases t
 simpa using Array.toList_inj.1 e
def Am (D : DataW Unit) (l : List aB) (k : Nat) : Prop :=
 IsMap D /\ ∀ s : ByteArray, (Maps.has D (kS s) = true ↔ ∃ j, ∃ h : j < l.length, j < k /\ l[j].ax = s) /\ (Maps.has D (kS s) = true -> ∃ j, ∃ h : j < l.length, j < k /\ l[j].ax = s /\ D.atKey (kS s) (.lit (.int .i64 0)) = .lit (.int .i64 l[j].bi))
theorem Am.start (l : List aB) : Am (.map []) l 0 :=
 ⟨isMap_empty, fun s => ⟨⟨fun h => by simp [Maps.has] at h, fun ⟨j, _, h, _⟩ => by omega⟩, fun h => by simp [Maps.has] at h⟩⟩
theorem Am.put {D : DataW Unit} {l : List aB} {k : Nat} (h : Am D l k) (hk : k < l.length) : Am (D.put (kS l[k].ax) (.lit (.int .i64 l[k].bi))) l (k + 1) := by
 refine ⟨h.1.put _ _, fun s => ?_⟩
 by_cases hs : s = l[k].ax
 ·subst hs
  have h1 := has_put_same h.1 (k := kS l[k].ax) (by trivial) (.lit (.int .i64 l[k].bi)); exact ⟨⟨fun _ => ⟨k, hk, by omega, rfl⟩, fun _ => h1⟩, fun _ => ⟨k, hk, by omega, rfl, atKey_put_same h.1 (by trivial) _ _⟩⟩
 ·have hne := wF hs
  rw [has_put_other hne, atKey_put_other hne]; obtain ⟨h2, h3⟩ := h.2 s; refine ⟨h2.trans ⟨fun ⟨j, hj, hjk, e⟩ => ⟨j, hj, by omega, e⟩, fun ⟨j, hj, hjk, e⟩ => ⟨j, hj, ?_, e⟩⟩, fun hh => ?_⟩
  ·by_cases ug : j = k
   ·subst ug; exact absurd e.symm hs
   ·omega
  ·obtain ⟨j, hj, hjk, e, ha⟩ := h3 hh
   exact ⟨j, hj, by omega, e, ha⟩
theorem zr {ins : List aI} : ∀ {l : List aB} {seen : List Int} {prev : ByteArray}, ly ins seen prev l = true -> (∀ e, e ∈ l -> strLt prev e.ax = true) /\ l.Pairwise fun x y => strLt x.ax y.ax = true
 | [], _, _, _ => ⟨(fun e he => by cases he), List.Pairwise.nil⟩
 | x :: r, seen, prev, h => by
  rw [ly, Bool.and_eq_true] at h; have h1 := h.1; unfold jO at h1; simp only [Bool.and_eq_true] at h1; obtain ⟨h2, h3⟩ := zr h.2; refine ⟨fun e he => ?_, List.Pairwise.cons h2 h3⟩; rcases List.mem_cons.1 he with rfl | he
  ·exact h1.1.2
  ·exact gD h1.1.2 (h2 e he)
theorem kE {l : List aB} (h : l.Pairwise fun x y => strLt x.ax y.ax = true) {i j : Nat} (hi : i < l.length) (hj : j < l.length) (he : l[i].ax = l[j].ax) : i = j := by
 rcases Nat.lt_trichotomy i j with hlt | rfl | hlt
 ·have := List.pairwise_iff_getElem.1 h i j hi hj hlt
  rw [he] at this; unfold strLt at this; rw [qy] at this; cases this
 ·rfl
 ·have := List.pairwise_iff_getElem.1 h j i hj hi hlt
  rw [he] at this; unfold strLt at this; rw [qy] at this; cases this
def jP (D : DataW Unit) (l : List aB) : Prop :=
 IsMap D /\ (∀ s, Maps.has D (kS s) = true ↔ hasName l s = true) /\ ∀ e, e ∈ l -> D.atKey (kS e.ax) (.lit (.int .i64 0)) = .lit (.int .i64 e.bi)
theorem eh {l : List aB} {s : ByteArray} : hasName l s = true ↔ ∃ e, e ∈ l /\ e.ax = s := by
 unfold hasName; rw [List.any_eq_true]; simp
theorem jP.Vh {D : DataW Unit} {l : List aB} {n : Nat} (hn : l.length = n) (h : Am D l n) (hr : kr l) : jP D l := by
 refine ⟨h.1, fun s => ?_, fun e he => ?_⟩
 ·rw [(h.2 s).1, eh]
  constructor
  ·rintro ⟨j, hj, _, e⟩
   exact ⟨l[j], List.getElem_mem hj, e⟩
  ·rintro ⟨e, he, hs⟩
   obtain ⟨j, hj, rfl⟩ := List.mem_iff_getElem.1 he; exact ⟨j, hj, by omega, hs⟩
 ·obtain ⟨i, hi, rfl⟩ := List.mem_iff_getElem.1 he
  obtain ⟨j, hj, _, e1, e2⟩ := (h.2 l[i].ax).2 ((h.2 _).1.2 ⟨i, hi, by omega, rfl⟩); have := kE hr hj hi e1; subst this; exact e2
theorem jP.del {D : DataW Unit} {l : List aB} (h : jP D l) (s : ByteArray) : jP (D.del (kS s)) (without l s) := by
 refine ⟨h.1.del _, fun t => ?_, fun e he => ?_⟩
 ·rw [eh]
  unfold without
  by_cases ht : t = s
  ·subst ht
   rw [has_del_same]; constructor
   ·intro h; cases h
   ·rintro ⟨e, he, hs⟩
    have := (List.mem_filter.1 he).2; simp [hs] at this
  ·rw [has_del_other (wF ht), h.2.1 t, eh]
   constructor
   ·rintro ⟨e, he, rfl⟩
    exact ⟨e, List.mem_filter.2 ⟨he, by simp [ht]⟩, rfl⟩
   ·rintro ⟨e, he, rfl⟩
    exact ⟨e, (List.mem_filter.1 he).1, rfl⟩
 ·have Qu := List.mem_filter.1 (show e ∈ l.filter _ from he)
  have hne : e.ax ≠ s := by simpa using Qu.2
  rw [atKey_del_other (wF hne)]; exact h.2.2 e Qu.1
theorem gp {l : List aB} {e x : aB} : x ∈ dV l e ↔ x = e ∨ (x ∈ l /\ x.ax ≠ e.ax) := by
 unfold dV; rw [List.mem_append, List.mem_cons, List.mem_filter, List.mem_filter]; constructor
 ·rintro (⟨h1, h2⟩ | rfl | ⟨h1, h2⟩)
  ·exact .inr ⟨h1, fun hh => by rw [hh, bj] at h2; cases h2⟩
  ·exact .inl rfl
  ·exact .inr ⟨h1, fun hh => by rw [hh, bj] at h2; cases h2⟩
 ·rintro (rfl | ⟨h1, h2⟩)
  ·exact .inr (.inl rfl)
  ·by_cases h3 : strLt x.ax e.ax = true
   ·exact .inl ⟨h1, h3⟩
   ·exact .inr (.inr ⟨h1, kD (Bool.eq_false_iff.2 h3) h2⟩)
theorem jP.put {D : DataW Unit} {l : List aB} (h : jP D l) (e : aB) : jP (D.put (kS e.ax) (.lit (.int .i64 e.bi))) (dV l e) := by
 refine ⟨h.1.put _ _, fun t => ?_, fun x hx => ?_⟩
 ·rw [eh]
  by_cases ht : t = e.ax
  ·subst ht
   rw [has_put_same h.1 (by trivial)]; exact ⟨fun _ => ⟨e, gp.2 (.inl rfl), rfl⟩, fun _ => rfl⟩
  ·rw [has_put_other (wF ht), h.2.1 t, eh]
   constructor
   ·rintro ⟨x, hx, rfl⟩
    exact ⟨x, gp.2 (.inr ⟨hx, ht⟩), rfl⟩
   ·rintro ⟨x, hx, rfl⟩
    rcases gp.1 hx with rfl | ⟨h1, _⟩
    ·exact absurd rfl ht
    ·exact ⟨x, h1, rfl⟩
 ·rcases gp.1 hx with rfl | ⟨h1, h2⟩
  ·exact atKey_put_same h.1 (by trivial) _ _
  ·rw [atKey_put_other (wF h2)]
   exact h.2.2 x h1
theorem LB {s t : ByteArray} : (kS s).sameKey (kS t) = decide (s = t) := by
 by_cases h : s = t
 ·subst h
  simp [kS, Lit.sameKey]
 ·have := wF h
  simp only [kS, ne_eq, Lit.string.injEq] at this; simp only [kS, Lit.sameKey]; rw [decide_eq_false h]
  simpa using this
structure Met (l : List aB) (left : Lit -> Bool) (o : List aB) : Prop where
 sub : ∀ e, e ∈ o -> e ∈ l
 once : o.Pairwise (fun x y => x.ax ≠ y.ax)
 rest : ∀ e, e ∈ l -> (left (kS e.ax) = true ↔ ∀ x, x ∈ o -> x.ax ≠ e.ax)
theorem Met.start {D : DataW Unit} {l : List aB} (h : jP D l) : Met l (Maps.has D) [] :=
 ⟨(fun e he => by cases he), List.Pairwise.nil, fun e he => ⟨(fun _ x hx => by cases hx), fun _ => (h.2.1 _).2 (eh.2 ⟨e, he, rfl⟩)⟩⟩
theorem Met.step {l o : List aB} {left : Lit -> Bool} (h : Met l left o) (hr : kr l) {e : aB} (he : e ∈ l) (hl : left (kS e.ax) = true) : Met l (fun z => left z && !z.sameKey (kS e.ax)) (o ++ [e]) := by
 refine ⟨fun x hx => ?_, ?_, fun x hx => ?_⟩
 ·rcases List.mem_append.1 hx with hx | hx
  ·exact h.sub x hx
  ·simp at hx; subst hx; exact he
 ·rw [List.pairwise_append]
  refine ⟨h.once, by simp, fun x hx y hy => ?_⟩; simp at hy; subst hy; exact (h.rest y he).1 hl x hx
 ·rw [LB, Bool.and_eq_true, h.rest x hx]
  constructor
  ·rintro ⟨h1, h2⟩ y hy
   rcases List.mem_append.1 hy with hy | hy
   ·exact h1 y hy
   ·simp at hy; subst hy
    intro hh; simp [hh] at h2
  ·intro h1
   refine ⟨fun y hy => h1 y (by simp [hy]), ?_⟩; have := h1 e (by simp); simp [Ne.symm this]
theorem Met.perm {l o : List aB} {left : Lit -> Bool} (h : Met l left o) (hr : kr l) (hl : ∀ k, left k = false) : o.Perm l := by
 have hall : ∀ e, e ∈ l -> e ∈ o := by
  intro e he; have h1 := h.rest e he; rw [hl] at h1
  by_cases hx : ∃ x, x ∈ o /\ x.ax = e.ax
  ·obtain ⟨x, hx, hn⟩ := hx
   have Jf := h.sub x hx; obtain ⟨i, hi, rfl⟩ := List.mem_iff_getElem.1 Jf; obtain ⟨j, hj, rfl⟩ := List.mem_iff_getElem.1 he; have := kE hr hi hj hn; subst this; exact hx
  ·exfalso
   have := h1.2 (fun x hx2 hn => hx ⟨x, hx2, hn⟩); cases this
 have n1 : o.Nodup := h.once.imp (fun hne he => hne (by rw [he])); have n2 : l.Nodup := hr.imp (fun hlt he => by rw [he, bj] at hlt; cases hlt); exact (List.perm_ext_iff_of_nodup n1 n2).2 (fun e => ⟨h.sub e, hall e⟩)
theorem uZ : ∀ {l k : List aB}, l.Perm k -> kr l -> kr k -> l = k := by
 intro l k hp h1 h2; refine List.Perm.eq_of_pairwise (le := fun (x y : aB) => strLt x.ax y.ax = true) ?_ h1 h2 hp; intro a b _ _ hab jL; have hab : strLt a.ax b.ax = true := hab; have jL : strLt b.ax a.ax = true := jL; rw [iy hab] at jL; cases jL
end Go.Proofs.YtcamcgfbljhbhaaGreatDoor

namespace Go.Proofs.YtcamcgfbljhbhaaGreatDoor
open Go.RowKit
def jQ (l : List aI) (k : Nat) (f : aI -> aI) : List aI := match l[k]? with | some n => l.set k (f n) | none => l
theorem sR {l : List aI} {k : Nat} {f : aI -> aI} (h : k < l.length) : jQ l k f = l.set k (f l[k]) := by unfold jQ; rw [List.getElem?_eq_getElem h]
theorem jD {l : List aI} {k : Nat} {f : aI -> aI} : (jQ l k f).length = l.length := by unfold jQ; split <;> simp
theorem wG {l : List aI} {k : Nat} {f : aI -> aI} {n : aI} (h : n ∈ jQ l k f) : n ∈ l ∨ ∃ x, x ∈ l /\ n = f x := by
 unfold jQ at h
 split at h
 ·next x hx =>
  rcases List.mem_or_eq_of_mem_set h with h | h
  ·exact .inl h
  ·exact .inr ⟨x, List.mem_of_getElem? hx, h⟩
 ·exact .inl h
def fileAt (m : az) (s : ByteArray) : Nat := placeOf m.aa (eK m.ae s)
theorem cW {m : az} {s : ByteArray} (h : aS m s = 0) : bc m = true /\ bH s = true /\ hasName m.ae s = true := by
 unfold aS at h
 by_cases h1 : (bc m && bH s) = true
 ·rw [if_pos h1] at h
  rw [Bool.and_eq_true] at h1
  by_cases h2 : hasName m.ae s = true
  ·exact ⟨h1.1, h1.2, h2⟩
  ·rw [if_neg h2] at h; cases h
 ·rw [if_neg h1] at h; cases h
theorem ui {m : az} {s : ByteArray} (h : aS m s = 2) : bc m = true /\ bH s = true /\ hasName m.ae s = false := by
 unfold aS at h
 by_cases h1 : (bc m && bH s) = true
 ·rw [if_pos h1] at h
  rw [Bool.and_eq_true] at h1
  by_cases h2 : hasName m.ae s = true
  ·rw [if_pos h2] at h; cases h
  ·exact ⟨h1.1, h1.2, Bool.eq_false_iff.2 h2⟩
 ·rw [if_neg h1] at h; cases h
theorem LC {m : az} {s : ByteArray} (h : aS m s = 0) : ∃ hk : fileAt m s < m.aa.length, m.aa[fileAt m s].bi = eK m.ae s := by
 obtain ⟨h1, _, h2⟩ := cW h; obtain ⟨_, _, h3⟩ := mh h1 h2; exact wE h3
theorem Jg {l : List aI} (h : l.Pairwise fun x y => x.bi < y.bi) {i j : Nat} (hi : i < l.length) (hj : j < l.length) (he : l[i].bi = l[j].bi) : i = j := by
 rcases Nat.lt_trichotomy i j with hlt | rfl | hlt
 ·have := List.pairwise_iff_getElem.1 h i j hi hj hlt; omega
 ·rfl
 ·have := List.pairwise_iff_getElem.1 h j i hj hi hlt; omega
theorem qC {m : az} {s : ByteArray} (h : aS m s = 0) {p : Nat} (hp : p < m.aa.length) (he : m.aa[p].bi = eK m.ae s) : p = fileAt m s := by
 obtain ⟨hk, hid⟩ := LC h; exact Jg (bM.1 (cW h).1).px hp hk (he.trans hid.symm)
def jR (n : aI) : aI := { n with aW := n.aG.length }
def dW (m : az) (s : ByteArray) : az := if aS m s = 0 then { m with aa := jQ m.aa (fileAt m s) jR } else m
def cC (m : az) : az := if bc m then aY { m with ag := m.ae } else m
def eL (m : az) : Int := if bc m then 0 else 1
theorem oD {m : az} (h : bc m = true) : bc (aY { m with ag := m.ae }) = true := by
 have hr := bM.1 h; exact bM.2 (vZ (N := m.ae) (S := m.ae) hr hr.few hr.few hr.names hr.names)
def ni (b : List Int) (n : aI) : aI := { n with aG := n.aG ++ b }
def ir (m : az) (s : ByteArray) (b : List Int) : az := { m with aa := jQ m.aa (fileAt m s) (ni b) }
def bh (m : az) (s : ByteArray) (b : List Int) : az := if aS m s = 0 /\ bc (ir m s b) = true then ir m s b else m
def dD (m : az) (s : ByteArray) (b : List Int) : Int := if aS m s = 0 then (if bc (ir m s b) then 0 else 4) else aS m s
theorem BI {m : az} {s : ByteArray} {b : List Int} (h : aS m s = 0) : aY (ir m s b) = ir m s b := by
 have hr := bM.1 (cW h).1; unfold aY; rw [qB]; intro n hn; rcases wG (show n ∈ jQ m.aa (fileAt m s) (ni b) from hn) with hn | ⟨x, hx, rfl⟩
 ·exact hr.all n hn
 ·exact hr.all x hx
def sS (m : az) (s : ByteArray) : az := aY { m with ae := without m.ae s }
def bA (m : az) (s : ByteArray) : az := if aS m s = 0 then sS m s else m
theorem uj {m : az} {s : ByteArray} (h : bc m = true) : bc (sS m s) = true := by
 have hr := bM.1 h; exact bM.2 (vZ (N := without m.ae s) (S := m.ag) hr (Nat.le_trans (List.length_filter_le _ _) hr.few) hr.DF (hr.names.sub List.filter_sublist) hr.safe)
def bC (m : az) (s t : ByteArray) : List aB := dV (without m.ae s) ⟨t, eK m.ae s⟩
def lR (m : az) (s t : ByteArray) : az := aY { m with ae := bC m s t }
def cD (m : az) (s t : ByteArray) : Int := if bH t then aS m s else 1
def bQ (m : az) (s t : ByteArray) : az := if cD m s t = 0 then lR m s t else m
theorem pH {m : az} {s : ByteArray} (h : hasName m.ae s = true) : ⟨s, eK m.ae s⟩ ∈ m.ae := by
 obtain ⟨hk, hn⟩ := kC h; have : eK m.ae s = m.ae[nameAt m.ae s].bi := by unfold eK; rw [List.getElem?_eq_getElem hk]; rfl
 rw [this]
 have e : (⟨s, m.ae[nameAt m.ae s].bi⟩ : aB) = m.ae[nameAt m.ae s] := by
  cases hx : m.ae[nameAt m.ae s] with
  | mk a b => rw [hx] at hn; simp at hn; subst hn; rfl
 rw [e]; exact List.getElem_mem hk
theorem GG {ins : List aI} {l : List aB} (h : gF ins l) {x y : aB} (hx : x ∈ l) (hy : y ∈ l) (he : x.bi = y.bi) : x = y := by
 obtain ⟨i, hi, rfl⟩ := List.mem_iff_getElem.1 hx; obtain ⟨j, hj, rfl⟩ := List.mem_iff_getElem.1 hy; rcases Nat.lt_trichotomy i j with hlt | rfl | hlt
 ·exact absurd he (List.pairwise_iff_getElem.1 h.2 i j hi hj hlt).2
 ·rfl
 ·exact absurd he.symm (List.pairwise_iff_getElem.1 h.2 j i hj hi hlt).2
theorem u5 {l : List aB} (h : kr l) {x y : aB} (hx : x ∈ l) (hy : y ∈ l) (he : x.ax = y.ax) : x = y := by
 obtain ⟨i, hi, rfl⟩ := List.mem_iff_getElem.1 hx; obtain ⟨j, hj, rfl⟩ := List.mem_iff_getElem.1 hy; have := kE h hi hj he; subst this; rfl
theorem wH {l : List aB} {s : ByteArray} (h : hasName l s = true) : (without l s).length < l.length := by
 obtain ⟨e, he, hs⟩ := eh.1 h; unfold without; rcases Nat.lt_or_ge (l.filter fun e => decide (e.ax ≠ s)).length l.length with h1 | h1
 ·exact h1
 ·have h2 := List.length_filter_eq_length_iff.1 (Nat.le_antisymm (List.length_filter_le _ _) h1) e he
  simp [hs] at h2
theorem oF {m : az} {s t : ByteArray} (hr : Fi m) (hn : hasName m.ae s = true) (ht : bH t = true) : gF m.aa (bC m s t) /\ (bC m s t).length <= 30 := by
 have BJ := pH hn; have hw : gF m.aa (without m.ae s) := hr.names.sub List.filter_sublist; refine ⟨gF.dV hw (hr.names.1 _ BJ).1 ht ?_, ?_⟩
 ·intro x hx hid
  have yM := List.mem_filter.1 (show x ∈ m.ae.filter _ from hx); have := GG hr.names yM.1 BJ hid; rw [this] at yM; simp at yM
 ·have h1 := sQ (l := without m.ae s) (e := ⟨t, eK m.ae s⟩)
  have h2 := wH hn; have h3 := hr.few; unfold bC; omega
theorem qD {m : az} {s t : ByteArray} (h : aS m s = 0) (ht : bH t = true) : bc (lR m s t) = true := by
 obtain ⟨h1, _, h2⟩ := cW h; have hr := bM.1 h1; have h3 := oF hr h2 ht; exact bM.2 (vZ (N := bC m s t) (S := m.ag) hr h3.2 hr.DF h3.1 hr.safe)
theorem DI {m : az} (h : bc m = true) : aY m = m := by
 unfold aY; rw [qB (bM.1 h).all]
theorem BK {m : az} {s : ByteArray} (h : aS m s = 0) : lR m s s = m := by
 obtain ⟨h1, hs, h2⟩ := cW h; have hr := bM.1 h1; have h3 := oF hr h2 hs; have BJ := pH h2
 have : bC m s s = m.ae := by
  have n1 : (bC m s s).Nodup := h3.1.px.imp (fun hlt he => by rw [he, bj] at hlt; cases hlt); have n2 : m.ae.Nodup := hr.names.px.imp (fun hlt he => by rw [he, bj] at hlt; cases hlt); refine uZ ((List.perm_ext_iff_of_nodup n1 n2).2 fun e => ?_) h3.1.px hr.names.px; unfold bC; rw [gp]; unfold without; rw [List.mem_filter]; constructor
  ·rintro (rfl | ⟨⟨h4, _⟩, _⟩)
   ·exact BJ
   ·exact h4
  ·intro he
   by_cases hes : e.ax = s
   ·left
    exact u5 hr.names.px he BJ hes
   ·right
    exact ⟨⟨he, by simpa using hes⟩, hes⟩
 unfold lR; rw [this]; exact DI h1
def yN (m : az) : aI := ⟨m.ah, [], 0⟩
def gh (m : az) (s : ByteArray) : az := { m with aa := m.aa ++ [yN m], ae := dV m.ae ⟨s, m.ah⟩, ah := m.ah + 1 }
def cK (m : az) (s : ByteArray) : Int := if aS m s = 2 then (if bc (gh m s) then 0 else 4) else if aS m s = 0 then 3 else 1
def aX (m : az) (s : ByteArray) : az := if aS m s = 2 /\ bc (gh m s) = true then gh m s else m
theorem sU {m : az} {s : ByteArray} (h : aS m s = 2) : ∀ n, n ∈ m.aa -> isNamed { m with ae := dV m.ae ⟨s, m.ah⟩ } n = true := by
 obtain ⟨h1, _, h2⟩ := ui h; have hr := bM.1 h1; intro n hn; have h3 := fx.1 (hr.all n hn); rw [fx]; rw [List.mem_append] at h3 ⊢; rcases h3 with h3 | h3
 ·left
  obtain ⟨e, he, hid⟩ := List.mem_map.1 h3; refine List.mem_map.2 ⟨e, gp.2 (.inr ⟨he, fun hh => ?_⟩), hid⟩; have : hasName m.ae s = true := eh.2 ⟨e, he, hh⟩; rw [h2] at this; cases this
 ·exact .inr h3
theorem DJ {m : az} {s : ByteArray} (h : aS m s = 2) : aY { m with ae := dV m.ae ⟨s, m.ah⟩ } = { m with ae := dV m.ae ⟨s, m.ah⟩ } := by
 unfold aY; rw [qB (sU h)]
theorem BL {m : az} {s : ByteArray} (h : aS m s = 2) : aY (gh m s) = gh m s := by
 unfold aY; rw [qB]; intro n hn; rcases List.mem_append.1 (show n ∈ m.aa ++ [yN m] from hn) with hn | hn
 ·exact sU h n hn
 ·simp at hn
  subst hn; rw [fx]; exact List.mem_append_left _ (List.mem_map.2 ⟨⟨s, m.ah⟩, gp.2 (.inl rfl), rfl⟩)
def eb (k : Int) (n : aI) : aI := { n with aG := n.aG.take (n.aW + min k (n.aG.length - n.aW)).toNat, aW := n.aW + min k (n.aG.length - n.aW) }
def ei (m : az) (k : Int) : az := if bc m = true /\ 0 <= k then { m with ae := m.ag, aa := (bV { m with ae := m.ag }).map (eb k) } else m
theorem BM {k : Int} {n : aI} (h : 0 <= k) (h1 : 0 <= n.aW) (h2 : n.aW <= n.aG.length) : ((eb k n).aG.length : Int) = (eb k n).aW := by
 unfold eb; simp only [List.length_take]; omega
theorem cR (m : az) : aZ m = (m.aa.length + aP aJ m.aa) + (m.ae.length + aP a7 m.ae) + (m.ag.length + aP a7 m.ag) := rfl
theorem pI {α : Type} {f : α -> Nat} : ∀ {l k : List α}, aP f (l ++ k) = aP f l + aP f k
 | [], k => by simp [aP]
 | x :: r, k => by simp only [List.cons_append, aP, pI]; omega
theorem Jh {l : List aI} {k : Nat} {n : aI} (h : k < l.length) : aP aJ (l.set k n) + aJ l[k] = aP aJ l + aJ n := by
 induction l generalizing k with
 | nil => simp at h
 | cons x r ih =>
  cases k with
  | zero => simp [aP]; omega
  | succ k => simp only [List.set_cons_succ, aP, List.getElem_cons_succ]; have := ih (k := k) (by simpa using h); omega
theorem nU {l : List aI} {k : Nat} {f : aI -> aI} {c : Nat} (h : ∀ n, aJ (f n) <= aJ n + c) : aP aJ (jQ l k f) <= aP aJ l + c := by
 by_cases hk : k < l.length
 ·rw [sR hk]
  have := Jh (l := l) (n := f l[k]) hk; have := h l[k]; omega
 ·unfold jQ
  rw [List.getElem?_eq_none (by omega)]; simp
theorem jS (m : az) : aZ (aY m) <= aZ m := by
 have hs : (bV m).Sublist m.aa := List.filter_sublist; have h1 := iR (f := aJ) hs; have h2 := hs.length_le; rw [cR, cR]
 show (bV m).length + aP aJ (bV m) + _ + _ <= _
 show (bV m).length + aP aJ (bV m) + (m.ae.length + aP a7 m.ae) + (m.ag.length + aP a7 m.ag) <= _; omega
theorem DK {l : List aB} {e : aB} : aP a7 (dV l e) <= aP a7 l + aP a7 l + a7 e := by
 unfold dV; rw [pI]; simp only [aP]; have h1 := iR (f := a7) (List.filter_sublist (l := l) (p := fun x => strLt x.ax e.ax)); have h2 := iR (f := a7) (List.filter_sublist (l := l) (p := fun x => strLt e.ax x.ax)); omega
theorem nj {f : aI -> aI} (h : ∀ n, aJ (f n) <= aJ n) : ∀ l : List aI, aP aJ (l.map f) <= aP aJ l
 | [] => rN
 | x :: r => by simp only [List.map_cons, aP]; have := h x; have := nj h r; omega
theorem oG {l : List aB} (h : ∀ e, e ∈ l -> bH e.ax = true) : aP a7 l <= 12 * l.length := by
 induction l with
 | nil => simp [aP]
 | cons x r ih =>
  have h1 := ih (fun e he => h e (by simp [he])); have h2 := h x (by simp); unfold bH at h2; rw [Bool.and_eq_true] at h2; have h3 := (of_decide_eq_true h2.1).2; have h4 : a7 x = x.ax.size := rfl; simp only [aP, List.length_cons]; omega
theorem eB {m : az} (h : bc m = true) : m.aa.length <= 60 /\ aP aJ m.aa <= 60000 /\ m.ae.length <= 30 /\ aP a7 m.ae <= 360 /\ m.ag.length <= 30 /\ aP a7 m.ag <= 360 := by
 have hr := bM.1 h; have h1 := zo (d := m) (lQ h).1 (List.all_eq_true.2 hr.all); have h2 := oG (fun e he => (hr.names.1 e he).2); have h3 := oG (fun e he => (hr.safe.1 e he).2); have h4 := hr.few; have h5 := hr.DF; have h6 := hr.size; omega
theorem Tryz.wI : (Tryz.prog.info? 5).map (fun i => (i.zero, i.size, i.bytes)) = some (some (.int .u8 0), 1, 1) := by kernel_rfl
structure aw (F : List Nat) (w w' : World) : Prop where
 os : w'.os = w.os
 tape : w'.tape = w.tape
 output : w'.output = w.output
 size : w.heap.size <= w'.heap.size
 block : ∀ b, b < w.heap.size -> b ∉ F -> w'.heap[b]? = w.heap[b]?
theorem aw.refl (F : List Nat) (w : World) : aw F w w := ⟨rfl, rfl, rfl, rN, fun _ _ _ => rfl⟩
theorem aw.trans {F : List Nat} {a b c : World} (h : aw F a b) (k : aw F b c) : aw F a c :=
 ⟨k.os.trans h.os, k.tape.trans h.tape, k.output.trans h.output, Nat.le_trans h.size k.size, fun i hi hF => (k.block i (Nat.lt_of_lt_of_le hi h.size) hF).trans (h.block i hi hF)⟩
theorem aw.mono {F G : List Nat} {a b : World} (h : aw F a b) (hF : ∀ k, k ∈ F -> k ∈ G) : aw G a b :=
 ⟨h.os, h.tape, h.output, h.size, fun i hi hG => h.block i hi (fun hk => hG (hF i hk))⟩
theorem aw.bz {F : List Nat} {a b : World} (h : Below a.heap.size a b) : aw F a b := ⟨h.os, h.tape, h.output, h.size, fun i hi _ => h.block i hi⟩
theorem aw.below {F : List Nat} {B : Nat} {a b : World} (h : aw F a b) (hF : ∀ k, k ∈ F -> B <= k) (hB : B <= a.heap.size) : Below B a b :=
 ⟨h.os, h.tape, h.output, h.size, fun i hi => h.block i (Nat.lt_of_lt_of_le hi hB) (fun hk => by have := hF i hk; omega)⟩
theorem aw.setCell {F : List Nat} {a b : World} (h : aw F a b) {p : Addr} (hp : p.block ∈ F) (u : Value) : aw F a (b.setCell p u) := by
 refine h.trans ⟨?_, ?_, ?_, by simp, fun i hi hF => heap_setCell_other b p i u (fun e => hF (e ▸ hp))⟩
 all_goals
  have hb := (Below.refl 0 b).setCell (p := p) (Nat.zero_le _) u
 ·exact hb.os
 ·exact hb.tape
 ·exact hb.output
theorem aw.eZ {F : List Nat} {a b : World} {r : Option Nat} (h : a.grownBy b r) (hr : ∀ k, r = some k -> k ∈ F) : aw F a b :=
 ⟨h.os, h.tape, h.output, h.size, fun i hi hF => h.block i hi (fun e => hF (hr i e.symm))⟩
theorem aw.cell {F : List Nat} {w w' : World} (h : aw F w w') {p : Addr} (hp : p.block < w.heap.size) (hF : p.block ∉ F) : w'.cell? p = w.cell? p := World.cell?_of_block (w := w) (h.block p.block hp hF)
theorem a8 {w w' : World} (h : w' = w) : Below w.heap.size w w' := by subst h; exact rB
theorem af {w w1 w2 : World} (h : Below w.heap.size w w1) (hx : Below w1.heap.size w1 w2) : Below w.heap.size w w2 := h.trans (hx.mono h.size)
theorem aw.after {F : List Nat} {w w1 w2 : World} (h : Below w.heap.size w w1) (hx : aw F w1 w2) : aw F w w2 := (aw.bz h).trans hx
theorem aw.under {F : List Nat} {w w1 w2 : World} (h : Below w.heap.size w w1) (hx : aw F w1 w2) (hF : ∀ k, k ∈ F -> w.heap.size <= k) : Below w.heap.size w w2 := h.trans (hx.below hF h.size)
theorem dE {a b : World} {r : Option Nat} (h : a.grownBy b r) : aw r.toList a b := aw.eZ h (fun k hk => by simp [hk])
def Bx (w : World) (b : Nat) (vs : List Value) : Prop := b < w.heap.size /\ ∀ i u, vs[i]? = some u -> w.cell? ⟨b, i, none⟩ = some u
theorem Bx.new (w : World) (vs : List Value) (t : TypeId) : Bx (w.alloc (.cells vs.toArray t)) w.heap.size vs := by
 refine ⟨by simp, fun i u hu => ?_⟩; rw [cell_of_row (w.alloc (.cells vs.toArray t)) w.heap.size i vs.toArray t (0, 0) (by show (w.heap.push _)[w.heap.size]? = _; rw [Array.getElem?_push_size])]
 simpa using hu
theorem Bx.alloc {w : World} {b : Nat} {vs : List Value} (h : Bx w b vs) (o : Obj) : Bx (w.alloc o) b vs :=
 ⟨by have := h.1; simp; omega, fun i u hu => by
  have hb := (Below.refl w.heap.size w).alloc rN o; exact (hb.cell (p := ⟨b, i, none⟩) h.1).trans (h.2 i u hu)⟩
theorem Bx.drewN {w : World} {b : Nat} {vs : List Value} (h : Bx w b vs) (d : Nat) : Bx (w.drewN d) b vs := h
theorem Bx.drew {w : World} {b : Nat} {vs : List Value} (h : Bx w b vs) : Bx w.drew b vs := h
theorem Bx.below {B : Nat} {w w' : World} {b : Nat} {vs : List Value} (h : Bx w b vs) (hb : Below B w w') (hB : b < B) : Bx w' b vs :=
 ⟨Nat.lt_of_lt_of_le h.1 hb.size, fun i u hu => (hb.cell (p := ⟨b, i, none⟩) hB).trans (h.2 i u hu)⟩
theorem Bx.under {w w' : World} {b : Nat} {vs : List Value} (h : Bx w b vs) (hb : Below w.heap.size w w') : Bx w' b vs := h.below hb h.1
theorem Bx.turn {F : List Nat} {w w' : World} {b : Nat} {vs : List Value} (h : Bx w b vs) (ht : aw F w w') (hF : b ∉ F) : Bx w' b vs :=
 ⟨Nat.lt_of_lt_of_le h.1 ht.size, fun i u hu => (ht.cell (p := ⟨b, i, none⟩) h.1 hF).trans (h.2 i u hu)⟩
def GN (size : Nat) (cur : Array Value) (j : Nat) : List Value := (cur.toList.drop (j * size)).take size
theorem LG {size : Nat} {cur : Array Value} {j i : Nat} (hi : i < size) : (GN size cur j)[i]? = cur[j * size + i]? := by
 unfold GN; rw [List.getElem?_take, if_pos hi, List.getElem?_drop]; simp
theorem LH {size : Nat} {cur : Array Value} {k i : Nat} (hi : i < size) (u : Value) : GN size (cur.setIfInBounds (k * size + i) u) k = (GN size cur k).set i u := by
 unfold GN; rw [Array.toList_setIfInBounds]; apply List.ext_getElem?; intro j; simp only [List.getElem?_take, List.getElem?_drop, List.getElem?_set, List.length_take, List.length_drop]
 by_cases hj : j < size
 ·by_cases Bl : i = j
  ·subst Bl
   by_cases hb : k * size + i < cur.toList.length
   ·have hb' : i < min size (cur.toList.length - k * size) := by omega
    rw [if_pos hj, if_pos rfl, if_pos rfl, if_pos hb, if_pos hb']
   ·have hb' : ¬ i < min size (cur.toList.length - k * size) := by omega
    rw [if_pos hj, if_pos rfl, if_pos rfl, if_neg hb, if_neg hb']
  ·rw [if_pos hj, if_neg (by omega), if_neg Bl, if_pos hj]
 ·rw [if_neg hj, if_neg hj]
  split
  ·split
   ·omega
   ·rfl
  ·rfl
theorem yP {size : Nat} {cur : Array Value} {k i j : Nat} (hi : i < size) (hjk : j ≠ k) (u : Value) : GN size (cur.setIfInBounds (k * size + i) u) j = GN size cur j := by
 unfold GN; rw [Array.toList_setIfInBounds]; apply List.ext_getElem?; intro x; simp only [List.getElem?_take, List.getElem?_drop, List.getElem?_set]
 by_cases hx : x < size
 ·rw [if_pos hx, if_pos hx, if_neg]
  intro h; rcases Nat.lt_or_gt_of_ne hjk with h1 | h1
  ·have := Nat.mul_le_mul_right size h1
   rw [Nat.succ_mul] at this; omega
  ·have := Nat.mul_le_mul_right size h1
   rw [Nat.succ_mul] at this; omega
 ·rw [if_neg hx, if_neg hx]
structure Aq {α : Type} (size : Nat) (e : TypeId) (O : jy α) (w : World) (g cap : Nat) (l : List α) (cur : Array Value) (Fs : List (List Nat)) : Prop where
 heap : w.heap[g]? = some (.cells cur e (0, 0))
 le : l.length <= cap
 max : cap <= maxLen
 fit : cur.size = cap * size
 Vg : Fs.length = l.length
 each : ∀ j, (h : j < l.length) -> O w (GN size cur j) l[j] (Fs.getD j [])
 nodup : (g :: Fs.flatten).Nodup
theorem aF.open {α : Type} {size : Nat} {e : TypeId} {O : jy α} {w : World} {v : Value} {l : List α} {F : List Nat} (h : aF size e O w v l F) (hN : F.Nodup) :
  (v = .slice none 0 0 /\ l = [] /\ F = []) ∨ ∃ g cap cur Fs, v = .slice (some ⟨g, 0, none⟩) l.length cap /\ Aq size e O w g cap l cur Fs /\ F = g :: Fs.flatten := by
 rcases h with h | ⟨g, cap, cur, Fs, h1, h2, h3, h4, h5, h6, h7, rfl⟩
 ·exact .inl h
 ·exact .inr ⟨g, cap, cur, Fs, h1, ⟨h2, h3, h4, h5, h6, h7, hN⟩, rfl⟩
theorem Aq.lt {α : Type} {size : Nat} {e : TypeId} {O : jy α} {w : World} {g cap : Nat} {l : List α} {cur : Array Value} {Fs : List (List Nat)} (h : Aq size e O w g cap l cur Fs) : g < w.heap.size := (Array.getElem?_eq_some_iff.1 h.heap).1
structure vF (size : Nat) (e : TypeId) (g k : Nat) (F : List Nat) (cur : Array Value) (w w' : World) (cs : List Value) : Prop where
 row : ∃ cur' : Array Value, w'.heap[g]? = some (.cells cur' e (0, 0)) /\ cur'.size = cur.size /\ (∀ j, j ≠ k -> GN size cur' j = GN size cur j) /\ GN size cur' k = cs
 turn : aw (g :: F) w w'
theorem vF.start {α : Type} {size : Nat} {e : TypeId} {O : jy α} {w : World} {g cap : Nat} {l : List α} {cur : Array Value} {Fs : List (List Nat)} (h : Aq size e O w g cap l cur Fs) (k : Nat) (F : List Nat) : vF size e g k F cur w w (GN size cur k) :=
 ⟨⟨cur, h.heap, rfl, fun _ _ => rfl, rfl⟩, aw.refl _ _⟩
theorem vF.set {size : Nat} {e : TypeId} {g k : Nat} {F : List Nat} {cur : Array Value} {w w' : World} {cs : List Value} (h : vF size e g k F cur w w' cs) {i : Nat} (hi : i < size) (u : Value) :
  vF size e g k F cur w (w'.setCell ⟨g, k * size + i, none⟩ u) (cs.set i u) := by
 obtain ⟨⟨cur', c1, c2, c3, c4⟩, ht⟩ := h; refine ⟨⟨_, heap_setCell_same w' g _ cur' e u c1, by simpa using c2, fun j hj => ?_, ?_⟩, ht.setCell (by simp) u⟩
 ·rw [yP hi hj]; exact c3 j hj
 ·rw [LH hi, c4]
theorem vF.keep {size : Nat} {e : TypeId} {g k : Nat} {F : List Nat} {cur : Array Value} {w w1 w2 : World} {cs : List Value} (h : vF size e g k F cur w w1 cs) (ht : aw F w1 w2) (hg : g ∉ F) :
  vF size e g k F cur w w2 cs := by
 obtain ⟨⟨cur', c1, c2, c3, c4⟩, Rg⟩ := h; exact ⟨⟨cur', by rw [ht.block g (Array.getElem?_eq_some_iff.1 c1).1 hg]; exact c1, c2, c3, c4⟩, Rg.trans (ht.mono (fun k hk => List.mem_cons_of_mem _ hk))⟩
theorem vF.cellAt {size : Nat} {e : TypeId} {g k : Nat} {F : List Nat} {cur : Array Value} {w w' : World} {cs : List Value} (h : vF size e g k F cur w w' cs) {i : Nat} (hi : i < size) {u : Value} (hu : cs[i]? = some u) :
  w'.cell? ⟨g, k * size + i, none⟩ = some u := by
 obtain ⟨⟨cur', c1, c2, c3, c4⟩, _⟩ := h; rw [cell_of_row w' g _ cur' e (0, 0) c1, <- LG hi, c4, hu]
theorem vF.free {size : Nat} {e : TypeId} {g k : Nat} {F : List Nat} {cur : Array Value} {w w' : World} {cs : List Value} (h : vF size e g k F cur w w' cs) (j : Nat) :
  w'.frozen? ⟨g, j, none⟩ = false := by
 obtain ⟨⟨cur', c1, c2, c3, c4⟩, _⟩ := h; exact frozen_of_row w' g j cur' e c1
theorem kF {size : Nat} : ∀ {css : List (List Value)}, (∀ c, c ∈ css -> c.length = size) -> ∀ {j i : Nat}, i < size -> css.flatten[j * size + i]? = (css[j]?).bind (fun c => c[i]?)
 | [], _, j, i, _ => by simp
 | c :: r, h, 0, i, hi => by
  have hc := h c (by simp); simp only [List.flatten_cons, Nat.zero_mul, Nat.zero_add, List.getElem?_cons_zero, Option.bind_some]; rw [List.getElem?_append_left (by omega)]
 | c :: r, h, j + 1, i, hi => by
  have hc := h c (by simp); have ih := kF (css := r) (fun x hx => h x (by simp [hx])) (j := j) hi; simp only [List.flatten_cons, List.getElem?_cons_succ]; rw [List.getElem?_append_right (by rw [Nat.succ_mul]; omega), <- ih]
  congr 1
  rw [Nat.succ_mul]; omega
def bS {α : Type} (size : Nat) (e : TypeId) (R : nS α) (B : Nat) (w : World) (base : Nat) (v : Value) (l : List α) : Prop :=
 ∃ css : List (List Value), css.length = l.length /\ (∀ c, c ∈ css -> c.length = size) /\ (∀ j, (h : j < l.length) -> (h2 : j < css.length) -> R B w css[j] l[j]) /\ w.ownsRow base e size v l.length css.flatten
theorem bS.start {α : Type} {size : Nat} {e : TypeId} {R : nS α} {B : Nat} {w : World} {base : Nat} : bS size e R B w base (.slice none 0 0) [] :=
 ⟨[], rfl, (fun _ h => by cases h), (fun _ h => by simp at h), by simp, .inl ⟨rfl, rfl⟩⟩
theorem bS.leaf {α : Type} {size : Nat} {e : TypeId} {R : nS α} (hR : R.Good) {B : Nat} {w : World} {base : Nat} {v : Value} {l : List α} (h : bS size e R B w base v l) (hB : B <= w.heap.size) :
  ∃ a c, v = .slice a l.length c /\ bw size R w.heap.size w a c l := by
 obtain ⟨css, h1, h2, h3, h4⟩ := h; rcases h4.2 with ⟨rfl, h0⟩ | ⟨g, cap, cur, rfl, hb, hg, po, hm, hs, ht⟩
 ·have : l = [] := List.eq_nil_of_length_eq_zero h0
  subst this; exact ⟨none, 0, rfl, by simp, by omega, fun j hj => by simp at hj⟩
 ·refine ⟨_, cap, rfl, po, by simpa [maxLen] using hm, fun j hj => ?_⟩
  have vd : j < css.length := by omega
  refine ⟨g, 0, rfl, (Array.getElem?_eq_some_iff.1 hg).1, css[j], h2 _ (List.getElem_mem vd), fun i u hu => ?_, hR.mono (h3 j hj vd) hB⟩
  have hi : i < size := by
   have := (List.getElem?_eq_some_iff.1 hu).1; rw [h2 _ (List.getElem_mem vd)] at this; exact this
  have hf := kF h2 (j := j) hi; rw [List.getElem?_eq_getElem vd, Option.bind_some, hu, <- ht, List.getElem?_take] at hf
  split at hf
  ·rw [Nat.zero_add, cell_of_row w g _ cur e (0, 0) hg]
   simpa using hf
  ·cases hf
theorem bS.push {α : Type} {size : Nat} {e : TypeId} {R : nS α} (hR : R.Good) {B : Nat} {w w' : World} {base : Nat} {v' : Value} {l : List α} {m : α} {cs : List Value} {css : List (List Value)}
  (h1 : css.length = l.length) (h2 : ∀ c, c ∈ css -> c.length = size) (h3 : ∀ j, (h : j < l.length) -> (h2 : j < css.length) -> R B w css[j] l[j]) (hb : Below B w w') (hc : cs.length = size) (hr : R B w' cs m)
  (ho : w'.ownsRow base e size v' (l.length + 1) (css.flatten ++ cs)) : bS size e R B w' base v' (l ++ [m]) := by
 refine ⟨css ++ [cs], by simp [h1], ?_, ?_, by simpa using ho⟩
 ·intro c hcm
  rcases List.mem_append.1 hcm with h | h
  ·exact h2 c h
  ·simp at h; subst h; exact hc
 ·intro j hj vd
  by_cases ur : j < l.length
  ·rw [List.getElem_append_left (by omega), List.getElem_append_left ur]
   exact hR.below (h3 j ur (by omega)) hb
  ·have Oe : j = l.length := by simp at hj; omega
   subst Oe; rw [List.getElem_append_right (by omega), List.getElem_append_right rN]; simp [h1, hr]
theorem b8 {w : World} {b : Nat} {vs : List Value} (h : Bx w b vs) : ∀ j u, vs[j]? = some u -> w.cell? ((⟨b, 0, none⟩ : Addr).add j) = some u := by
 intro j u hu; have h2 := h.2 j u hu
 have e : ((⟨b, 0, none⟩ : Addr).add j) = ⟨b, j, none⟩ := by
  unfold Addr.add
  split
  ·next h0 => subst h0; rfl
  ·simp
 rw [e]; exact h2
theorem bS.lt {α : Type} {size : Nat} {e : TypeId} {R : nS α} {B : Nat} {w : World} {base : Nat} {v : Value} {l : List α} (h : bS size e R B w base v l) : ∀ k, v.ownBlock = some k -> base <= k /\ k < w.heap.size := by
 obtain ⟨css, h1, h2, h3, h4⟩ := h; exact fun k hk => h4.lt k hk
theorem bS.base {α : Type} {size : Nat} {e : TypeId} {R : nS α} {B : Nat} {w : World} {base base' : Nat} {v : Value} {l : List α} (h : bS size e R B w base v l) (hb : base' <= base) : bS size e R B w base' v l := by
 obtain ⟨css, h1, h2, h3, h4⟩ := h; exact ⟨css, h1, h2, h3, ep h4 hb⟩
theorem bS.keep {α : Type} {size : Nat} {e : TypeId} {R : nS α} (hR : R.Good) {B : Nat} {w w' : World} {base : Nat} {v : Value} {l : List α} (h : bS size e R B w base v l) (hb : Below w.heap.size w w') (hB : B <= w.heap.size) : bS size e R B w' base v l := by
 obtain ⟨css, h1, h2, h3, h4⟩ := h; exact ⟨css, h1, h2, fun j hj vd => hR.below (h3 j hj vd) (hb.mono hB), aA h4 hb⟩
theorem e9 : ∀ {Fs : List (List Nat)}, Fs.flatten.Nodup ↔ (∀ F, F ∈ Fs -> F.Nodup) /\ Fs.Pairwise (fun F G => ∀ x, x ∈ F -> x ∉ G)
 | [] => by simp
 | F :: r => by
  rw [List.flatten_cons, List.nodup_append, e9, List.pairwise_cons]; constructor
  ·rintro ⟨h1, ⟨h2, h3⟩, h4⟩
   refine ⟨?_, fun G hG x hx Vj => h4 x hx x (List.mem_flatten.2 ⟨G, hG, Vj⟩) rfl, h3⟩; intro G hG; rcases List.mem_cons.1 hG with rfl | hG
   ·exact h1
   ·exact h2 G hG
  ·rintro ⟨h1, h2, h3⟩
   refine ⟨h1 F (by simp), ⟨fun G hG => h1 G (by simp [hG]), h3⟩, ?_⟩; intro x hx y hy Nt; subst Nt; obtain ⟨G, hG, Vj⟩ := List.mem_flatten.1 hy; exact h2 G hG x hx Vj
theorem zu {Fs : List (List Nat)} {k : Nat} {G Fn : List Nat} (hk : k < Fs.length) (h : Fs.flatten.Nodup) (hG : G.Nodup) (m5 : ∀ b, b ∈ G -> b ∈ Fs.getD k [] ∨ b ∈ Fn) (Rh : ∀ b, b ∈ Fn -> b ∉ Fs.flatten) :
  (Fs.set k G).flatten.Nodup /\ ∀ b, b ∈ (Fs.set k G).flatten -> b ∈ Fs.flatten ∨ b ∈ Fn := by
 have hgd : Fs.getD k [] = Fs[k] := by rw [List.getD_eq_getElem?_getD, List.getElem?_eq_getElem hk]; rfl
 rw [hgd] at m5; rw [e9] at h; have hp := List.pairwise_iff_getElem.1 h.2; refine ⟨e9.2 ⟨?_, ?_⟩, ?_⟩
 ·intro F hF
  obtain ⟨i, hi, rfl⟩ := List.mem_iff_getElem.1 hF; rw [List.getElem_set]
  split
  ·exact hG
  ·exact h.1 _ (List.getElem_mem _)
 ·rw [List.pairwise_iff_getElem]
  intro i j hi hj Bl x hx IU; simp only [List.length_set] at hi hj; rw [List.getElem_set] at hx IU
  split at hx
  ·next hik =>
   subst hik; rw [if_neg (by omega)] at IU; rcases m5 x hx with h1 | h1
   ·exact hp k j hk hj Bl x h1 IU
   ·exact Rh x h1 (List.mem_flatten.2 ⟨_, List.getElem_mem hj, IU⟩)
  ·split at IU
   ·next hjk =>
    subst hjk; rcases m5 x IU with h1 | h1
    ·exact hp i k hi hk Bl x hx h1
    ·exact Rh x h1 (List.mem_flatten.2 ⟨_, List.getElem_mem hi, hx⟩)
   ·exact hp i j hi hj Bl x hx IU
 ·intro b hb
  obtain ⟨F, hF, kB⟩ := List.mem_flatten.1 hb; obtain ⟨i, hi, rfl⟩ := List.mem_iff_getElem.1 hF; rw [List.getElem_set] at kB
  split at kB
  ·rcases m5 b kB with h1 | h1
   ·exact .inl (List.mem_flatten.2 ⟨_, List.getElem_mem hk, h1⟩)
   ·exact .inr h1
  ·exact .inl (List.mem_flatten.2 ⟨_, List.getElem_mem _, kB⟩)
theorem aF.shape {α : Type} {size : Nat} {e : TypeId} {O : jy α} {w : World} {v : Value} {l : List α} {F : List Nat} (h : aF size e O w v l F) (hl : 0 < l.length) :
  ∃ g cap, v = .slice (some ⟨g, 0, none⟩) l.length cap /\ g ∈ F /\ g < w.heap.size := by
 rcases h with ⟨_, rfl, _⟩ | ⟨g, cap, cur, Fs, h1, h2, h3, h4, h5, h6, h7, rfl⟩
 ·simp at hl
 ·exact ⟨g, cap, h1, by simp, (Array.getElem?_eq_some_iff.1 h2).1⟩
theorem aF.LI {α : Type} {size : Nat} {e : TypeId} {O : jy α} {R : nS α} (hO : O.Good R size) {w : World} {g cap : Nat} {l : List α} {F : List Nat} (h : aF size e O w (.slice (some ⟨g, 0, none⟩) l.length cap) l F) (hN : F.Nodup)
  {k i : Nat} (hk : k < l.length) (hi : i < size) (u : Value) (m' : α) (Fn : List Nat) (Nu : ∀ b, b ∈ Fn -> b ∉ F)
  (hm : ∀ cs Fk, O w cs l[k] Fk -> Fk.Nodup -> ∃ G, O w (cs.set i u) m' G /\ G.Nodup /\ ∀ b, b ∈ G -> b ∈ Fk ∨ b ∈ Fn) :
  ∃ F', aF size e O (w.setCell ⟨g, k * size + i, none⟩ u) (.slice (some ⟨g, 0, none⟩) l.length cap) (l.set k m') F' /\ F'.Nodup /\ (∀ b, b ∈ F' -> b ∈ F ∨ b ∈ Fn) /\ g ∈ F := by
 rcases h with ⟨h0, _, _⟩ | ⟨g', cap', cur, Fs, h1, h2, h3, h4, h5, h6, h7, rfl⟩
 ·cases h0
 ·simp only [Value.slice.injEq, Option.some.injEq, Addr.mk.injEq, and_true, true_and] at h1
  obtain ⟨rfl, rfl⟩ := h1; rw [List.nodup_cons] at hN; have Do : k < Fs.length := by omega
  have BP : Fs.getD k [] = Fs[k] := by rw [List.getD_eq_getElem?_getD, List.getElem?_eq_getElem Do]; rfl
  have Qv : (Fs.getD k []).Nodup := by rw [BP]; exact (e9.1 hN.2).1 _ (List.getElem_mem Do)
  obtain ⟨G, g1, g2, g3⟩ := hm _ _ (h7 k hk) Qv; have Og : ∀ b, b ∈ Fn -> b ∉ Fs.flatten := fun b hb hb2 => Nu b hb (List.mem_cons_of_mem _ hb2)
  obtain ⟨n1, n2⟩ := zu Do hN.2 g2 g3 Og
  have ut : g ∉ (Fs.set k G).flatten := by
   intro hg; rcases n2 g hg with hg | hg
   ·exact hN.1 hg
   ·exact Nu g hg (by simp)
  have hs := heap_setCell_same w g (k * size + i) cur e u h2; refine ⟨g :: (Fs.set k G).flatten, .inr ⟨g, cap, cur.setIfInBounds (k * size + i) u, Fs.set k G, by simp, hs, by simpa using h3, h4, by simpa using h5, by simp [h6], ?_, rfl⟩, List.nodup_cons.2 ⟨ut, n1⟩, ?_, by simp⟩
  ·intro j hj
   have hj' : j < l.length := by simpa using hj
   have m6 : ∀ b, b ∈ (Fs.set k G).getD j [] -> (w.setCell ⟨g, k * size + i, none⟩ u).heap[b]? = w.heap[b]? := by
    intro b hb; have Vk : b ∈ (Fs.set k G).flatten := dh (by simp; omega) hb; exact heap_setCell_other w ⟨g, k * size + i, none⟩ b u (fun hh => ut (by have : b = g := hh; rw [<- this]; exact Vk))
   have hlen : cur.toList.length = cap * size := by simpa using h5
   by_cases hjk : j = k
   ·subst hjk
    have e1 : ((cur.setIfInBounds (j * size + i) u).toList.drop (j * size)).take size = ((cur.toList.drop (j * size)).take size).set i u := by
     rw [Array.toList_setIfInBounds]; apply List.ext_getElem?; intro x; rw [List.getElem?_take, List.getElem?_drop, List.getElem?_set, List.getElem?_set, List.getElem?_take, List.getElem?_drop]
     by_cases hx : x < size
     ·rw [if_pos hx, if_pos hx]
      by_cases Qw : i = x
      ·subst Qw
       have hmul : (j + 1) * size <= cap * size := Nat.mul_le_mul_right _ (by omega); rw [Nat.succ_mul] at hmul; rw [if_pos rfl, if_pos rfl, if_pos (by omega), if_pos (by simp; omega)]
      ·rw [if_neg (by omega), if_neg Qw]
     ·rw [if_neg hx, if_neg (by omega), if_neg hx]
    have e2 : (Fs.set j G).getD j [] = G := by rw [List.getD_eq_getElem?_getD, List.getElem?_set_self (by omega)]; rfl
    rw [List.getElem_set_self, e1]; rw [e2] at m6 ⊢; exact hO.frame g1 m6
   ·have e1 : ((cur.setIfInBounds (k * size + i) u).toList.drop (j * size)).take size = (cur.toList.drop (j * size)).take size := by
     rw [Array.toList_setIfInBounds]; apply List.ext_getElem?; intro x; rw [List.getElem?_take, List.getElem?_drop, List.getElem?_set, List.getElem?_take, List.getElem?_drop]
     by_cases hx : x < size
     ·rw [if_pos hx, if_pos hx]
      have : k * size + i ≠ j * size + x := by
       intro hh; rcases Nat.lt_or_gt_of_ne hjk with hlt | hlt
       ·have hmul : (j + 1) * size <= k * size := Nat.mul_le_mul_right _ hlt
        rw [Nat.succ_mul] at hmul; omega
       ·have hmul : (k + 1) * size <= j * size := Nat.mul_le_mul_right _ hlt
        rw [Nat.succ_mul] at hmul; omega
      rw [if_neg this]
     ·rw [if_neg hx, if_neg hx]
    have e2 : (Fs.set k G).getD j [] = Fs.getD j [] := by rw [List.getD_eq_getElem?_getD, List.getD_eq_getElem?_getD, List.getElem?_set_ne (Ne.symm hjk)]
    rw [List.getElem_set_ne (Ne.symm hjk), e1]; rw [e2] at m6 ⊢; exact hO.frame (h7 j hj') m6
  ·intro b hb
   rcases List.mem_cons.1 hb with rfl | hb
   ·exact .inl (by simp)
   ·rcases n2 b hb with h | h
    ·exact .inl (List.mem_cons_of_mem _ h)
    ·exact .inr h
theorem aF.cells {α : Type} {size : Nat} {e : TypeId} {O : jy α} {R : nS α} (hO : O.Good R size) {w : World} {g cap : Nat} {l : List α} {F : List Nat} (h : aF size e O w (.slice (some ⟨g, 0, none⟩) l.length cap) l F) {k : Nat} (hk : k < l.length) :
  ∃ cs Fk, O w cs l[k] Fk /\ (∀ b, b ∈ Fk -> b ∈ F) /\ (F.Nodup -> Fk.Nodup) /\ (∀ i u, cs[i]? = some u -> w.cell? ⟨g, k * size + i, none⟩ = some u) /\ ∀ i, w.frozen? ⟨g, i, none⟩ = false := by
 rcases h with ⟨h0, _, _⟩ | ⟨g', cap', cur, Fs, h1, h2, h3, h4, h5, h6, h7, rfl⟩
 ·cases h0
 ·simp only [Value.slice.injEq, Option.some.injEq, Addr.mk.injEq, and_true, true_and] at h1
  obtain ⟨rfl, rfl⟩ := h1; have Do : k < Fs.length := by omega
  have BP : Fs.getD k [] = Fs[k] := by rw [List.getD_eq_getElem?_getD, List.getElem?_eq_getElem Do]; rfl
  refine ⟨_, _, h7 k hk, fun b hb => List.mem_cons_of_mem _ (dh Do hb), fun hN => ?_, fun i u hu => ?_, fun i => frozen_of_row w g i cur e h2⟩
  ·rw [BP]
   exact (e9.1 (List.nodup_cons.1 hN).2).1 _ (List.getElem_mem Do)
  ·rw [cell_of_row w g _ cur e (0, 0) h2]
   rw [List.getElem?_take] at hu
   split at hu
   ·rw [List.getElem?_drop] at hu
    simpa using hu
   ·cases hu
end Go.Proofs.YtcamcgfbljhbhaaGreatDoor
