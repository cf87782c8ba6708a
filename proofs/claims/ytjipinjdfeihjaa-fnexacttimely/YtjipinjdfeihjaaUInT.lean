/-
  Whether a dot that was answered ahead lacks: the program's function within, over a list, and inTime.
-/
import Derived.Test.YtjipinjdfeihjaaUCmd
import Derived.Test.YtjipinjdfeihjaaUTim
namespace Go.Proofs.Ytjipinjdfeihjaa
open Go.RowKit Go.Maps
set_option linter.unusedVariables false
set_option linter.unusedSimpArgs false
set_option maxRecDepth 10000

def badD (l : List MAsked) (ac : MCmd) (deps : List MDot) (d : MDot) : Bool := match askP l d with
  | some c => meetP c ac && !hasD deps d
  | none => false
theorem bad_tim (l : List MAsked) (a : MAsked) (x : MRec) (d : MDot) : badD l a.fC x.fDeps d = !timD l a x d := by
  unfold badD timD
  cases askP l d with
  | none => rfl
  | some c =>
    show (meetP c a.fC && !hasD x.fDeps d) = !(!meetP c a.fC || hasD x.fDeps d)
    cases meetP c a.fC <;> cases hasD x.fDeps d <;> rfl

/-- What the function within has captured. -/
structure InC (W : World) (bc ba bd : Nat) (l : List MAsked) (a : MAsked) (a5 : Option Addr) (n5 c5 : Nat) (deps : List MDot) (ad : Option Addr) (cd : Nat) : Prop where
  mb : ∃ (b : Nat) (D : List (MDot × MCmd)), Bw W bc 76 [.map (some b)] ∧ DMap W b D ∧ ∀ d, lookD D d = askP l d
  ab : Bw W ba 73 [.int .i64 a.fD.fR, .int .i64 a.fD.fN, .int .i64 a.fC.fKind, .string a.fC.fKey, .string a.fC.fVal, .slice a5 n5 c5]
  db : Bw W bd 46 [.slice ad deps.length cd]
  dl : LeafL 2 rDot W.heap.size W ad cd deps
  cw : (Lit.int .i64 a.fC.fKind).wf = true ∧ a.fC.fKey.size ≤ 9223372036854775807 ∧ a.fC.fVal.size ≤ 9223372036854775807
  nd : deps.length ≤ 1048576
theorem InC.under {W W' : World} {bc ba bd : Nat} {l : List MAsked} {a : MAsked} {a5 : Option Addr} {n5 c5 : Nat} {deps : List MDot} {ad : Option Addr} {cd : Nat} (h : InC W bc ba bd l a a5 n5 c5 deps ad cd) (hb : Below W.heap.size W W') : InC W' bc ba bd l a a5 n5 c5 deps ad cd := by
  obtain ⟨b, D, h1, h2, h3⟩ := h.mb
  exact ⟨⟨b, D, h1.under hb, h2.under hb, h3⟩, h.ab.under hb, h.db.under hb, (h.dl.below rDot_good hb).mono rDot_good hb.size, h.cw, h.nd⟩

set_option maxHeartbeats 4000000 in
theorem lack_any (bc ba bd : Nat) (l : List MAsked) (a : MAsked) (a5 : Option Addr) (n5 c5 : Nat) (deps : List MDot) (ad : Option Addr) (cd : Nat) (d : MDot) (w : World) (h : InC w bc ba bd l a a5 n5 c5 deps ad cd) (d0 : (Lit.int .i64 d.fR).wf = true) (d1 : (Lit.int .i64 d.fN).wf = true)
    (hcw : ∀ c, askP l d = some c → (Lit.int .i64 c.fKind).wf = true ∧ c.fKey.size ≤ 9223372036854775807 ∧ c.fVal.size ≤ 9223372036854775807) :
    Calls Try.prog 59 #[.agg #[.int .i64 d.fR, .int .i64 d.fN], .pointer (some ⟨bc, 0, none⟩), .pointer (some ⟨ba, 0, none⟩), .pointer (some ⟨bd, 0, none⟩)] w fun e w' => e = .returned (.bool (badD l a.fC deps d)) ∧ Below w.heap.size w w' := by
  obtain ⟨w1, hw1⟩ : ∃ q, q = w.alloc (.cells #[.int .i64 d.fR, .int .i64 d.fN] 43) := ⟨_, rfl⟩
  have hb1 : Below w.heap.size w w1 := by rw [hw1]; exact (Below.refl _ _).alloc (Nat.le_refl _) _
  have hd1 : Bw w1 w.heap.size 43 [.int .i64 d.fR, .int .i64 d.fN] := by rw [hw1]; exact Bw.new _ _ _
  have H0 := Hid.mk h
  have H1 := Hid.mk (h.under hb1)
  obtain ⟨b, D, hm, hdm, hlk⟩ := H1.out.mb
  have hrun := look_run hdm d0 d1
  rw [hlk d] at hrun
  have hrun : (Instr.lookup 76 (.map (some b)) (.agg #[.int .i64 d.fR, .int .i64 d.fN]) true).run Try.prog w1 = .ok (.tuple #[.agg #[.int .i64 ((askP l d).getD noCmd).fKind, .string ((askP l d).getD noCmd).fKey, .string ((askP l d).getD noCmd).fVal], .bool (askP l d).isSome]) w1 := hrun
  have hcM := hm.cell 0 _ rfl
  have y0 := hd1.cell 0 _ rfl
  have y1 := hd1.cell 1 _ rfl
  have hlM := hm.lt
  have HB1 := Hid.mk hb1
  have HD1 := Hid.mk hd1
  have HCW := Hid.mk hcw
  clear hb1 hd1 h hm hdm hlk hcw
  have hV : badD l a.fC deps d = match askP l d with | some c => meetP c a.fC && !hasD deps d | none => false := rfl
  rw [hV]
  clear hV
  cases hoc : askP l d with
  | none =>
    rw [hoc] at hrun
    have hrun : (Instr.lookup 76 (.map (some b)) (.agg #[.int .i64 d.fR, .int .i64 d.fN]) true).run Try.prog w1 = .ok (.tuple #[.agg #[.int .i64 0, .string ⟨#[]⟩, .string ⟨#[]⟩], .bool false]) w1 := hrun
    have hbF := HB1.out.alloc HB1.out.size (.cells #[.int .i64 0, .string ⟨#[]⟩, .string ⟨#[]⟩] 45)
    rw [hw1] at hcM y0 y1 hlM hrun hbF
    go_enter Try.func59, Try.ntmps59
    go_wp2_with fail
    go_ret
    exact ⟨rfl, hbF⟩
  | some c =>
    rw [hoc] at hrun
    have hrun : (Instr.lookup 76 (.map (some b)) (.agg #[.int .i64 d.fR, .int .i64 d.fN]) true).run Try.prog w1 = .ok (.tuple #[.agg #[.int .i64 c.fKind, .string c.fKey, .string c.fVal], .bool true]) w1 := hrun
    have hcw := HCW.out c hoc
    obtain ⟨w2, hw2⟩ : ∃ q, q = w1.alloc (.cells #[.int .i64 c.fKind, .string c.fKey, .string c.fVal] 45) := ⟨_, rfl⟩
    have hx2 : Below w1.heap.size w1 w2 := by rw [hw2]; exact (Below.refl _ _).alloc (Nat.le_refl _) _
    have H2 := Hid.mk (H1.out.under hx2)
    have HB2 : Hid (Below w.heap.size w w2) := bthen HB1.out hx2
    have HD2 := Hid.mk (HD1.out.under hx2)
    have v2 := H0.out.ab.cell 2 _ rfl
    have v3 := H0.out.ab.cell 3 _ rfl
    have v4 := H0.out.ab.cell 4 _ rfl
    have hla := H0.out.ab.lt
    clear hx2 HD1
    rw [hw1] at hw2 hcM y0 y1 hlM hrun
    clear hw1 H1 HB1 H0
    go_enter Try.func59, Try.ntmps59
    go_wp2_with fail
    rw [← hw2]
    clear hw2 hrun hcM hlM v2 v3 v4 hla y0 y1
    refine (implMeet_any [.int .i64 c.fKind, .string c.fKey, .string c.fVal] [.int .i64 a.fC.fKind, .string a.fC.fKey, .string a.fC.fVal] c a.fC w2 ⟨rfl, hcw.1, hcw.2.1, hcw.2.2, trivial⟩ ⟨rfl, H2.out.cw.1, H2.out.cw.2.1, H2.out.cw.2.2, trivial⟩).mono ?_
    rintro e w3 ⟨rfl, hx3⟩
    have HB3 : Hid (Below w.heap.size w w3) := bthen HB2.out hx3
    cases hmb : meetP c a.fC
    · go_wp2_with fail
      go_ret
      exact ⟨by simp [hmb], HB3.out⟩
    · have H3 := Hid.mk (H2.out.under hx3)
      have y0 := (HD2.out.under hx3).cell 0 _ rfl
      have y1 := (HD2.out.under hx3).cell 1 _ rfl
      have z0 := H3.out.db.cell 0 _ rfl
      have hlz := H3.out.db.lt
      have hly := (HD2.out.under hx3).lt
      clear hx3 H2 HB2
      go_wp2_with fail
      refine (contD_any ad _ cd deps [.int .i64 d.fR, .int .i64 d.fN] d w3 rfl H3.out.nd H3.out.dl ⟨rfl, d0, d1, trivial⟩).mono ?_
      rintro e w4 ⟨rfl, hx4⟩
      have HB4 : Hid (Below w.heap.size w w4) := bthen HB3.out hx4
      cases hhd : hasD deps d
      · go_wp2_with fail
        go_ret
        exact ⟨by simp [hmb, hhd], HB4.out⟩
      · go_wp2_with fail
        go_ret
        exact ⟨by simp [hmb, hhd], HB4.out⟩

set_option maxHeartbeats 4000000 in
theorem idxF_any (bc ba bd : Nat) (l : List MAsked) (a : MAsked) (a5 : Option Addr) (n5 c5 : Nat) (deps : List MDot) (ad : Option Addr) (cd : Nat) (bf : List MDot) (w : World) (h : InC w bc ba bd l a a5 n5 c5 deps ad cd) (hx : bf.length = n5) (hn : n5 ≤ 1048576) (hr : LeafL 2 rDot w.heap.size w a5 c5 bf)
    (hcw : ∀ d c, askP l d = some c → (Lit.int .i64 c.fKind).wf = true ∧ c.fKey.size ≤ 9223372036854775807 ∧ c.fVal.size ≤ 9223372036854775807) :
    Calls Try.prog 84 #[.slice a5 n5 c5, .func (.func 59) #[] #[.pointer (some ⟨bc, 0, none⟩), .pointer (some ⟨ba, 0, none⟩), .pointer (some ⟨bd, 0, none⟩)]] w fun e w' => (∃ z : Int, Hid (bf.any (badD l a.fC deps) = decide (0 ≤ z)) ∧ e = .returned (.int .i64 z)) ∧ Below w.heap.size w w' := by
  have HC := Hid.mk h
  have HX := Hid.mk hx
  have HR := Hid.mk hr
  have HW := Hid.mk hcw
  clear h hx hr hcw
  go_enter Try.func84, Try.ntmps84
  go_wp2_with fail
  go_loopw [5, 8] (fun _ i wr => ∃ k : Nat, k ≤ n5 ∧ i = .int .i64 k ∧ Hid (∀ j, (hj : j < bf.length) → j < k → badD l a.fC deps bf[j] = false) ∧ Below w.heap.size w wr) (fun _ i _ => n5 - (intOf i).toNat)
  case atStart => exact ⟨0, Nat.zero_le _, rfl, Hid.mk (fun j _ h => absurd h (Nat.not_lt_zero j)), Below.refl _ _⟩
  case round =>
    obtain ⟨k, hk, rfl, HI, hbk⟩ := hrel
    by_cases hlt : k < n5
    · have hkl : k < bf.length := by rw [HX.out]; exact hlt
      obtain ⟨b1, o1, rfl, hB, cs, hcl, hcell, rfl, g0, g1, _⟩ := HR.out.2.2 k hkl
      have k0 := (hbk.cell (p := ⟨b1, o1 + k * 2 + 0, none⟩) hB).trans (hcell 0 _ rfl)
      have k1 := (hbk.cell (p := ⟨b1, o1 + k * 2 + 1, none⟩) hB).trans (hcell 1 _ rfl)
      rw [Nat.add_zero] at k0
      have HIN : Hid (badD l a.fC deps bf[k] = false → ∀ j, (hj : j < bf.length) → j < k + 1 → badD l a.fC deps bf[j] = false) := fun h j hj hjk => by
        rcases Nat.lt_succ_iff_lt_or_eq.1 hjk with g | g
        · exact HI.out j hj g
        · subst g; exact h
      have HIY : Hid (badD l a.fC deps bf[k] = true → bf.any (badD l a.fC deps) = true) := fun h => List.any_eq_true.2 ⟨bf[k], List.getElem_mem hkl, h⟩
      have hB' : b1 < wr.heap.size := Nat.lt_of_lt_of_le hB hbk.size
      have hk1 : (0 : Int) ≤ (k : Int) := by omega
      have hk2 : (k : Int) < (n5 : Int) := by omega
      clear hcell hcl HI
      generalize bf[k] = d at *
      have HL := Hid.mk (lack_any bc ba bd l a (some ⟨b1, o1, none⟩) n5 c5 deps ad cd d wr ?hin g0 g1 (HW.out d))
      case hin =>
        have hC := HC.out
        obtain ⟨b, D, h1, h2, h3⟩ := hC.mb
        have hT : ∀ {q : Nat}, q < w.heap.size → wr.heap[q]? = w.heap[q]? := fun hq => hbk.block _ hq
        exact ⟨⟨b, D, h1.below hbk h1.lt, by obtain ⟨es, ck, he1, he2⟩ := h2; exact ⟨es, ck, (hbk.block b (Array.getElem?_eq_some_iff.1 he1).1).trans he1, he2⟩, h3⟩, hC.ab.below hbk hC.ab.lt, hC.db.below hbk hC.db.lt, (hC.dl.below rDot_good hbk).mono rDot_good hbk.size, hC.cw, hC.nd⟩
      go_wp2_with fail
      refine HL.out.mono ?_
      rintro e w2 ⟨rfl, hx2⟩
      have hb2 := hbk.trans (hx2.mono hbk.size)
      cases hbd : badD l a.fC deps d
      · have HI := Hid.mk (HIN.out hbd)
        go_wp2_with fail
        go_roundw
        case rel => exact ⟨k + 1, by omega, by go_num, HI, hb2⟩
        case measure => simp [intOf]; omega
      · have HV := Hid.mk (HIY.out hbd)
        go_wp2_with fail
        go_ret
        exact ⟨⟨k, Hid.mk (by rw [HV.out, decide_eq_true (by omega)]), rfl⟩, hb2⟩
    · have HV : Hid (bf.any (badD l a.fC deps) = false) := by
        show _ = _
        rw [List.any_eq_false]
        intro y hy
        obtain ⟨j, hj, rfl⟩ := List.mem_iff_getElem.1 hy
        rw [HI.out j hj (by have := HX.out; omega)]
        decide
      go_wp2_with fail
      go_ret
      exact ⟨⟨-1, Hid.mk (by rw [HV.out]; decide), rfl⟩, hbk⟩

set_option maxHeartbeats 1000000 in
theorem contF_any (bc ba bd : Nat) (l : List MAsked) (a : MAsked) (a5 : Option Addr) (n5 c5 : Nat) (deps : List MDot) (ad : Option Addr) (cd : Nat) (bf : List MDot) (w : World) (h : InC w bc ba bd l a a5 n5 c5 deps ad cd) (hx : bf.length = n5) (hn : n5 ≤ 1048576) (hr : LeafL 2 rDot w.heap.size w a5 c5 bf)
    (hcw : ∀ d c, askP l d = some c → (Lit.int .i64 c.fKind).wf = true ∧ c.fKey.size ≤ 9223372036854775807 ∧ c.fVal.size ≤ 9223372036854775807) :
    Calls Try.prog 58 #[.slice a5 n5 c5, .func (.func 59) #[] #[.pointer (some ⟨bc, 0, none⟩), .pointer (some ⟨ba, 0, none⟩), .pointer (some ⟨bd, 0, none⟩)]] w fun e w' => e = .returned (.bool (bf.any (badD l a.fC deps))) ∧ Below w.heap.size w w' := by
  have HL := Hid.mk (idxF_any bc ba bd l a a5 n5 c5 deps ad cd bf w h hx hn hr hcw)
  clear h hx hn hr hcw
  go_enter Try.func58, Try.ntmps58
  go_wp2_with fail
  refine HL.out.mono ?_
  rintro e w1 ⟨⟨z, HZ, rfl⟩, hx1⟩
  go_wp2_with fail
  go_ret
  exact ⟨by rw [HZ.out]; rfl, hx1⟩
end Go.Proofs.Ytjipinjdfeihjaa
