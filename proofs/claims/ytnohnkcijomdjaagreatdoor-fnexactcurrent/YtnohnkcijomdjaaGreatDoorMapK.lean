/-
  Maps from numbers to counts that a call makes for itself.
-/
import Derived.Test.YtnohnkcijomdjaaGreatDoorDskB
import Derived.Maps.OwnSet
import Derived.Maps.OwnOps
namespace Go.Proofs.YtnohnkcijomdjaaGreatDoor
open Go.RowKit Go.Maps
set_option linter.unusedVariables false
set_option linter.unusedSimpArgs false
set_option maxRecDepth 10000

theorem lawInt : Keyed Tryz.prog 3 := int_keyed Tryz.underlying3
theorem zeroInt (w : World) : (zeroValue 3).run Tryz.prog w = .ok (.int .i64 0) w := by kernel_rfl

/-- The map counts the numbers of a list. -/
def Used (D : DataW Unit) (ids : List Int) : Prop := IsMap D ∧ ∀ id : Int, ∃ c : Int, D.atKey (.int .i64 id) (.lit (.int .i64 0)) = .lit (.int .i64 c) ∧ 0 ≤ c ∧ c ≤ ids.length ∧ (0 < c ↔ id ∈ ids)

theorem Used.start : Used (.map []) [] := ⟨isMap_empty, fun id => ⟨0, rfl, Int.le_refl _, by simp, by simp⟩⟩

theorem Used.look {D : DataW Unit} {ids : List Int} {id c : Int} (h : Used D ids) (hat : D.atKey (.int .i64 id) (.lit (.int .i64 0)) = .lit (.int .i64 c)) : 0 ≤ c ∧ c ≤ ids.length ∧ (0 < c ↔ id ∈ ids) := by
  obtain ⟨c', h1, h2⟩ := h.2 id
  rw [hat] at h1
  simp only [DataW.lit.injEq, Lit.int.injEq, true_and] at h1
  subst h1
  exact h2

theorem Used.put {D : DataW Unit} {ids : List Int} {id c : Int} (h : Used D ids) (hat : D.atKey (.int .i64 id) (.lit (.int .i64 0)) = .lit (.int .i64 c)) :
    Used (D.put (.int .i64 id) (.lit (.int .i64 (c + 1)))) (ids ++ [id]) := by
  have hc := h.look hat
  refine ⟨h.1.put _ _, fun x => ?_⟩
  by_cases hx : x = id
  · subst hx
    refine ⟨c + 1, atKey_put_same h.1 (by trivial) _ _, by omega, by simp; omega, by simp; omega⟩
  · obtain ⟨c', h1, h2, h3, h4⟩ := h.2 x
    refine ⟨c', ?_, h2, by simp; omega, by simp [h4, hx]⟩
    rw [atKey_put_other (by simpa using hx)]
    exact h1

theorem ownsMap_block {w w' : World} {k : TypeId} {R : Value → Option (DataW Unit × List MemPlace)} {b n : Nat} {D : DataW Unit} (h : w.ownsMap Tryz.prog k R b n D) (hb : w'.heap[b]? = w.heap[b]?) : w'.ownsMap Tryz.prog k R b n D := by
  obtain ⟨es, c, h1, h2⟩ := h
  exact ⟨es, c, hb.trans h1, h2⟩
theorem ownsMap_lt {w : World} {k : TypeId} {R : Value → Option (DataW Unit × List MemPlace)} {b n : Nat} {D : DataW Unit} (h : w.ownsMap Tryz.prog k R b n D) : b < w.heap.size := by
  obtain ⟨es, c, h1, h2⟩ := h
  exact (Array.getElem?_eq_some_iff.1 h1).1
theorem ownsMap_below {w w' : World} {k : TypeId} {R : Value → Option (DataW Unit × List MemPlace)} {b n : Nat} {D : DataW Unit} (h : w.ownsMap Tryz.prog k R b n D) (hb : Below w.heap.size w w') : w'.ownsMap Tryz.prog k R b n D :=
  ownsMap_block h (hb.block b (ownsMap_lt h))

theorem keyInt {id : Int} (h : (Lit.int .i64 id).wf = true) : keyOf Tryz.prog 3 (.int .i64 id) = some (.int .i64 id) := keyOf_int_mk Tryz.underlying3 h

theorem okEL_no {ins : List MInode} {l : List MEntry} {k : Nat} (h : k < l.length) (hinv : okE ins [] ByteArray.empty l = okE ins (idsTo l k) (prevName l k) (l.drop k)) (hs : stepE ins (idsTo l k) (prevName l k) l[k] = false) : (decide (l.length ≤ 30) && okE ins [] ByteArray.empty l) = false := by
  rw [hinv, okE_step h, hs]; simp

set_option maxHeartbeats 2000000 in
theorem entriesOk_any (a ai : Option Addr) (n cap capi : Nat) (l : List MEntry) (ins : List MInode) (w : World) (hx : l.length = n) (hl : LeafL 2 rEntry w.heap.size w a cap l) (hi : LeafL 3 rInode w.heap.size w ai capi ins) (hn : n ≤ 16777216) (hni : ins.length ≤ 16777216) (hs : ins.Pairwise fun x y => x.fId < y.fId) :
    Calls Tryz.prog 118 #[.slice a n cap, .slice ai ins.length capi] w fun e w' => e = .returned (.bool (decide (l.length ≤ 30) && okE ins [] ByteArray.empty l)) ∧ Below w.heap.size w w' := by
  have HX := Hid.mk hx
  have HRS := Hid.mk hl.2.2
  have HIN := Hid.mk hi
  have HS := Hid.mk hs
  clear hx hl hi hs
  by_cases h30 : n ≤ 30
  · have H30 : Hid ((decide (l.length ≤ 30)) = true) := decide_eq_true (by rw [HX.out]; exact h30)
    have hmm := @run_makeMap Tryz.prog
    go_enter Tryz.func118, Tryz.ntmps118
    go_wp2_with fail
    go_loopw [6, 17] (fun lv i wr => ∃ (k : Nat) (D : DataW Unit), k ≤ n ∧ i = .int .i64 k ∧ lv = .string (prevName l k) ∧ wr.ownsMap Tryz.prog 3 (plainElem Tryz.prog 3) w.heap.size k D ∧ Used D (idsTo l k) ∧ okE ins [] ByteArray.empty l = okE ins (idsTo l k) (prevName l k) (l.drop k) ∧ Below w.heap.size w wr) (fun _ i _ => n - (intOf i).toNat)
    case atStart => exact ⟨0, .map [], Nat.zero_le _, rfl, rfl, World.ownsMap_made _ _ _ _, Used.start, rfl, (Below.refl _ _).alloc (Nat.le_refl _) _⟩
    case round =>
      obtain ⟨k, D, hk, rfl, rfl, hown, hU, hinv, hbk⟩ := hrel
      have HINV := Hid.mk hinv
      have HU := Hid.mk hU
      clear hinv hU hmm
      by_cases hlt : k < n
      · have hkl : k < l.length := by rw [HX.out]; exact hlt
        obtain ⟨b1, o1, rfl, hB, cs, hcl, hcell, rfl, hsz, hwf, _⟩ := (HRS.out.below rEntry_good hbk) k hkl
        have k0 := hcell 0 _ rfl
        have k1 := hcell 1 _ rfl
        rw [Nat.add_zero] at k0
        clear hcell hcl
        have HNO : Hid (stepE ins (idsTo l k) (prevName l k) l[k] = false → (decide (l.length ≤ 30) && okE ins [] ByteArray.empty l) = false) := okEL_no hkl HINV.out
        have HGO : Hid (stepE ins (idsTo l k) (prevName l k) l[k] = true → okE ins [] ByteArray.empty l = okE ins (idsTo l (k + 1)) (prevName l (k + 1)) (l.drop (k + 1))) := fun h => by rw [HINV.out, okE_step hkl, h, Bool.true_and]
        have HStep : Hid (stepE ins (idsTo l k) (prevName l k) l[k] = (hasId ins l[k].fId && !(idsTo l k).contains l[k].fId && strLt (prevName l k) l[k].fName && nameOk l[k].fName)) := rfl
        have HPN : Hid (prevName l (k + 1) = l[k].fName) := prevName_succ hkl
        have HIDS : Hid (idsTo l (k + 1) = idsTo l k ++ [l[k].fId]) := idsTo_succ hkl
        have hil : (idsTo l k).length ≤ 16777216 := by unfold idsTo; simp; omega
        have HIL := Hid.mk hil
        have hkey := keyInt hwf
        clear HINV hil
        obtain ⟨st, hst⟩ : ∃ st, stepE ins (idsTo l k) (prevName l k) l[k] = st := ⟨_, rfl⟩
        rw [hst] at HNO HGO HStep
        clear hst
        generalize l[k].fName = nm at *
        generalize l[k].fId = id at *
        have hib : -9223372036854775808 ≤ id ∧ id ≤ 9223372036854775807 := by simpa [Lit.wf, IntKind.min, IntKind.max, IntKind.signed, IntKind.bits] using hwf
        obtain ⟨hib1, hib2⟩ := hib
        generalize hpn : prevName l k = pn at *
        clear hpn
        go_wp2_with fail
        obtain ⟨wq, hwq⟩ : ∃ wq, wq = wr.alloc (.cells #[.string nm, .int .i64 id] 90) := ⟨_, rfl⟩
        have hbq : Below wr.heap.size wr wq := by rw [hwq]; exact (Below.refl _ _).alloc (Nat.le_refl _) _
        have hbn : Bx wq wr.heap.size [.string nm, .int .i64 id] := by rw [hwq]; exact Bx.new _ _ _
        rw [← hwq]
        clear hwq
        refine (inodePlace_any ai capi ins id wq (LeafL.mono rInode_good (HIN.out.below rInode_good (bthen hbk hbq)) (bthen hbk hbq).size) hni HS.out).mono ?_
        rintro e w1 ⟨p, rfl, _, hx1⟩
        have hb1 := bthen hbq hx1
        have hbn1 := hbn.under hx1
        have y0 := hbn1.2 0 _ rfl
        have y1 := hbn1.2 1 _ rfl
        have hown1 := ownsMap_below hown hb1
        have hbW := bthen hbk hb1
        obtain ⟨c, hrun, hat, hwc⟩ := hown1.lookup_int lawInt Tryz.underlying192 Tryz.underlying3 (zeroInt _) hkey
        have hc := HU.out.look hat
        obtain ⟨hc0, hc1, hc2⟩ := hc
        have hc3 : c ≤ 16777216 := by have := HIL.out; omega
        have HC := Hid.mk hc2
        have hbnq := hbn1
        have hmz := ownsMap_lt hown
        clear hc2 hc1 hown hbn hbn1
        by_cases hH : hasId ins id = true
        · rw [hH]
          by_cases hCn : 0 < c
          · have HV := Hid.mk (HNO.out (by rw [HStep.out, List.contains_iff_mem.2 (HC.out.1 hCn)]; simp))
            go_wp2_with fail
            go_ret
            exact ⟨by rw [HV.out]; rfl, hbW⟩
          · have hnc : (idsTo l k).contains id = false := by
              rw [Bool.eq_false_iff]
              intro h
              exact hCn (HC.out.2 (List.contains_iff_mem.1 h))
            have HNC := Hid.mk hnc
            clear hnc
            have hcz : c = 0 := by omega
            by_cases hLt : strLt pn nm = true
            · have HLT := Hid.mk hLt
              obtain ⟨hLt2, hLt3, hLt4⟩ := strLt_facts hLt
              clear hLt
              go_wp2_with fail
              refine (implNameOk_any nm w1 hsz).mono ?_
              rintro e w2 ⟨rfl, hx2⟩
              have hb2 := bthen hbW hx2
              by_cases hN : nameOk nm = true
              · have HGo := Hid.mk (HGO.out (by rw [HStep.out, hH, HNC.out, HLT.out, hN]; rfl))
                rw [hN]
                have hbn2 := hbnq.under hx2
                have z0 := hbn2.2 0 _ rfl
                have z1 := hbn2.2 1 _ rfl
                have hown2 := ownsMap_below hown1 hx2
                obtain ⟨c', hrun', hat', hwc'⟩ := hown2.lookup_int lawInt Tryz.underlying192 Tryz.underlying3 (zeroInt _) hkey
                have hcc : c' = c := by
                  rw [hat] at hat'
                  simp only [DataW.lit.injEq, Lit.int.injEq, true_and] at hat'
                  exact hat'.symm
                subst hcc
                have HU' := Hid.mk (HU.out.put hat)
                go_wp2_with (at_mapUpdate; refine wpList_mapUpdate_own _ rfl _ _ _ 192 rfl 3 3 lawInt Tryz.underlying192 _ w.heap.size k _ rfl hown2 (by unfold maxLen; omega) _ _ _ rfl rfl hkey _ [] (plainElem_int Tryz.underlying3 (WalkArith.wf_i64 (by omega))) ?_; intro w3 hown3 hgrow3; have z3 := hgrow3.cell z0 (fun e => by simp at e; omega))
                go_roundw
                case rel => exact ⟨k + 1, _, by omega, by go_num, by rw [HPN.out], hown3, by rw [HIDS.out]; have h := HU'.out; rw [hcz, Int.zero_add] at h; exact h, HGo.out, hb2.grown hgrow3 hb2.size (fun j hj => by cases hj; exact Nat.le_refl _)⟩
                case measure => simp [intOf]; omega
              · have hN2 : nameOk nm = false := Bool.eq_false_iff.2 hN
                have HV := Hid.mk (HNO.out (by rw [HStep.out, hN2]; simp))
                rw [hN2]
                go_wp2_with fail
                go_ret
                exact ⟨by rw [HV.out]; rfl, hb2⟩
            · have HV := Hid.mk (HNO.out (by rw [HStep.out, Bool.eq_false_iff.2 hLt]; simp))
              have hLt2 := strLt_not (Bool.eq_false_iff.2 hLt)
              clear hLt
              rcases hLt2 with hLt2 | hLt2
              · go_wp2_with fail
                go_ret
                exact ⟨by rw [HV.out]; rfl, hbW⟩
              · go_wp2_with fail
                all_goals
                  go_ret
                  exact ⟨by rw [HV.out]; rfl, hbW⟩
        · have hH2 : hasId ins id = false := Bool.eq_false_iff.2 hH
          have HV := Hid.mk (HNO.out (by rw [HStep.out, hH2]; simp))
          rw [hH2]
          go_wp2_with fail
          go_ret
          exact ⟨by rw [HV.out]; rfl, hbW⟩
      · have HV : Hid ((decide (l.length ≤ 30) && okE ins [] ByteArray.empty l) = true) := by
          show _ = true
          rw [H30.out, HINV.out, List.drop_of_length_le (by rw [HX.out]; omega)]
          rfl
        go_wp2_with fail
        go_ret
        exact ⟨by rw [HV.out]; rfl, hbk⟩
  · have HV : Hid ((decide (l.length ≤ 30) && okE ins [] ByteArray.empty l) = false) := by
      show _ = false
      rw [HX.out, decide_eq_false h30]
      rfl
    have h30' : (30 : Int) < (n : Int) := by omega
    go_enter Tryz.func118, Tryz.ntmps118
    go_wp2_with fail
    go_ret
    exact ⟨by rw [HV.out]; rfl, Below.refl _ _⟩

end Go.Proofs.YtnohnkcijomdjaaGreatDoor
