/-
  Whether a command comes in time behind what was answered: inTime, the function that is handed to allPairs, allPairs.
-/
import Derived.Test.YtjipinjdfeihjaaUInT
namespace Go.Proofs.Ytjipinjdfeihjaa
open Go.RowKit Go.Maps
set_option linter.unusedVariables false
set_option linter.unusedSimpArgs false
set_option maxRecDepth 10000

theorem tim_bad (l : List MAsked) (a : MAsked) (x : MRec) : (!(a.fBefore.any (badD l a.fC x.fDeps))) = a.fBefore.all (timD l a x) := by
  induction a.fBefore with
  | nil => rfl
  | cons d r ih => rw [List.any_cons, List.all_cons, Bool.not_or, ih, bad_tim, Bool.not_not]

/-- What is laid for all pairs: the map of the commands that were asked for. -/
def AskM (W : World) (b : Nat) (l : List MAsked) : Prop := ∃ D : List (MDot × MCmd), DMap W b D ∧ ∀ d, lookD D d = askP l d
theorem AskM.below {W W' : World} {b : Nat} {l : List MAsked} {B : Nat} (h : AskM W b l) (hb : Below B W W') (hB : b < B) : AskM W' b l := by
  obtain ⟨D, ⟨es, ck, he1, he2⟩, h3⟩ := h
  exact ⟨D, ⟨es, ck, (hb.block b hB).trans he1, he2⟩, h3⟩
theorem AskM.lt {W : World} {b : Nat} {l : List MAsked} (h : AskM W b l) : b < W.heap.size := by
  obtain ⟨D, h, _⟩ := h
  exact h.lt
def CmdW (l : List MAsked) : Prop := ∀ d c, askP l d = some c → (Lit.int .i64 c.fKind).wf = true ∧ c.fKey.size ≤ 9223372036854775807 ∧ c.fVal.size ≤ 9223372036854775807

set_option maxHeartbeats 2000000 in
theorem inT_any (b : Nat) (l : List MAsked) (a : MAsked) (acs : List Value) (deps : List MDot) (ad : Option Addr) (nd cd : Nat) (w : World) (hr : rAsked w.heap.size w acs a) (hnb : a.fBefore.length ≤ 1048576) (hnd : deps.length = nd) (hnn : nd ≤ 1048576) (hd : LeafL 2 rDot w.heap.size w ad cd deps) (hm : AskM w b l) (hcw : CmdW l) :
    Calls Try.prog 40 #[.agg acs.toArray, .slice ad nd cd, .map (some b)] w fun e w' => e = .returned (.bool (!(a.fBefore.any (badD l a.fC deps)))) ∧ Below w.heap.size w w' := by
  obtain ⟨a5, c5, rfl, g0, g1, g2, g3, g4, hbf, _⟩ := hr
  obtain ⟨n5, hn5⟩ : ∃ q, a.fBefore.length = q := ⟨_, rfl⟩
  rw [hn5] at hnb ⊢
  obtain ⟨w1, hw1⟩ : ∃ q, q = ((w.alloc (.cells #[.int .i64 a.fD.fR, .int .i64 a.fD.fN, .int .i64 a.fC.fKind, .string a.fC.fKey, .string a.fC.fVal, .slice a5 n5 c5] 73)).alloc (.cells #[.slice ad nd cd] 46)).alloc (.cells #[.map (some b)] 76) := ⟨_, rfl⟩
  have hb1 : Below w.heap.size w w1 := by rw [hw1]; exact (((Below.refl _ _).alloc (Nat.le_refl _) _).alloc (by simp) _).alloc (by simp; omega) _
  have ha : Bw w1 w.heap.size 73 [.int .i64 a.fD.fR, .int .i64 a.fD.fN, .int .i64 a.fC.fKind, .string a.fC.fKey, .string a.fC.fVal, .slice a5 n5 c5] := by rw [hw1]; exact ((Bw.new _ _ _).alloc _).alloc _
  have hdb : Bw w1 (w.heap.size + 1) 46 [.slice ad nd cd] := by rw [hw1]; exact (Bw.new' _ _ _ (by simp)).alloc _
  have hmb : Bw w1 (w.heap.size + 1 + 1) 76 [.map (some b)] := by rw [hw1]; exact Bw.new' _ _ _ (by simp)
  obtain ⟨D, hdm, hlk⟩ := hm.below hb1 hm.lt
  have hC : InC w1 (w.heap.size + 1 + 1) w.heap.size (w.heap.size + 1) l a a5 n5 c5 deps ad cd := ⟨⟨b, D, hmb, hdm, hlk⟩, ha, by rw [hnd]; exact hdb, (hd.below rDot_good hb1).mono rDot_good hb1.size, ⟨g2, g3, g4⟩, by omega⟩
  have HL := Hid.mk (contF_any _ _ _ l a a5 n5 c5 deps ad cd a.fBefore w1 hC hn5 hnb ((hbf.below rDot_good hb1).mono rDot_good hb1.size) hcw)
  have HB1 := Hid.mk hb1
  clear hC hdm hlk hmb hdb ha hd hm hcw hbf hb1 g0 g1 g2 g3 g4
  go_enter Try.func40, Try.ntmps40
  go_wp2_with fail
  rw [← hw1]
  refine HL.out.mono ?_
  rintro e w2 ⟨rfl, hx2⟩
  have hbF := bthen HB1.out hx2
  go_wp2_with fail
  go_ret
  exact ⟨rfl, hbF⟩

set_option maxHeartbeats 4000000 in
theorem fit_any (bc b : Nat) (l : List MAsked) (a : MAsked) (x : MRec) (acs xcs : List Value) (w : World) (hr : rAsked w.heap.size w acs a) (hq : rRec w.heap.size w xcs x) (hnb : a.fBefore.length ≤ 1048576) (hnd : x.fDeps.length ≤ 1048576) (hm : AskM w b l) (hbc : Bw w bc 76 [.map (some b)]) (hcw : CmdW l) :
    Calls Try.prog 39 #[.agg acs.toArray, .agg xcs.toArray, .pointer (some ⟨bc, 0, none⟩)] w fun e w' => e = .returned (.bool (timX l a x)) ∧ Below w.heap.size w w' := by
  have HRA := Hid.mk hr
  have HRX := Hid.mk hq
  obtain ⟨a5, c5, rfl, _⟩ := hr
  obtain ⟨a6, c6, rfl, _, _, _, _, _, hdl, _⟩ := hq
  obtain ⟨w1, hw1⟩ : ∃ q, q = (w.alloc (.cells #[.int .i64 a.fD.fR, .int .i64 a.fD.fN, .int .i64 a.fC.fKind, .string a.fC.fKey, .string a.fC.fVal, .slice a5 a.fBefore.length c5] 73)).alloc (.cells #[.int .i64 x.fD.fR, .int .i64 x.fD.fN, .int .i64 x.fC.fKind, .string x.fC.fKey, .string x.fC.fVal, .slice a6 x.fDeps.length c6, .bool x.fSure] 48) := ⟨_, rfl⟩
  have hb1 : Below w.heap.size w w1 := by rw [hw1]; exact ((Below.refl _ _).alloc (Nat.le_refl _) _).alloc (by simp) _
  have HT := Hid.mk (inT_any b l a [.int .i64 a.fD.fR, .int .i64 a.fD.fN, .int .i64 a.fC.fKind, .string a.fC.fKey, .string a.fC.fVal, .slice a5 a.fBefore.length c5] x.fDeps a6 x.fDeps.length c6 w1 (rAsked_good.mono (rAsked_good.below HRA.out hb1) hb1.size) hnb rfl hnd ((hdl.below rDot_good hb1).mono rDot_good hb1.size) (hm.below hb1 hm.lt) hcw)
  have HB1 := Hid.mk hb1
  have m0 := hbc.cell 0 _ rfl
  have hml := hbc.lt
  have HV : Hid (timX l a x = (!sameD x.fD a.fD || !(a.fBefore.any (badD l a.fC x.fDeps)))) := by show _ = _; rw [tim_bad]; rfl
  clear hb1 hm hbc hcw hdl HRA HRX
  by_cases hs : sameD x.fD a.fD = true
  · have h1 := (sameD_eq hs).1
    have h2 := (sameD_eq hs).2
    have HV : Hid (timX l a x = !(a.fBefore.any (badD l a.fC x.fDeps))) := by show _ = _; rw [HV.out, hs]; rfl
    rw [h1, h2] at hw1
    rw [h1, h2]
    clear h1 h2 hs
    go_enter Try.func39, Try.ntmps39
    go_wp2_with fail
    rw [← hw1]
    refine HT.out.mono ?_
    rintro e w2 ⟨rfl, hx2⟩
    have hbF := bthen HB1.out hx2
    clear hw1
    go_wp2_with fail
    go_ret
    exact ⟨by rw [HV.out]; rfl, hbF⟩
  · have HV : Hid (timX l a x = true) := by show _ = _; rw [HV.out, Bool.eq_false_iff.2 hs]; rfl
    rcases sameD_ne hs with hq | ⟨hq, hp⟩
    · have hq' : decide (x.fD.fR = a.fD.fR) = false := decide_eq_false hq
      have hr1 : ¬ a.fD.fR = x.fD.fR := fun h => hq h.symm
      have hr1' : decide (a.fD.fR = x.fD.fR) = false := decide_eq_false hr1
      go_enter Try.func39, Try.ntmps39
      go_wp2_with fail
      rw [← hw1]
      go_ret
      exact ⟨by rw [HV.out]; rfl, HB1.out⟩
    · have hq' : decide (x.fD.fN = a.fD.fN) = false := decide_eq_false hp
      have hr1 : ¬ a.fD.fN = x.fD.fN := fun h => hp h.symm
      have hr1' : decide (a.fD.fN = x.fD.fN) = false := decide_eq_false hr1
      rw [hq] at hw1
      rw [hq]
      go_enter Try.func39, Try.ntmps39
      go_wp2_with fail
      rw [← hw1]
      go_ret
      exact ⟨by rw [HV.out]; rfl, HB1.out⟩
end Go.Proofs.Ytjipinjdfeihjaa
