/-
  Part 16 of the texts that the proof leans on.
-/
import Derived.Test.YtnohnkcijomdjaaGreatDoorCur14
import Derived.Maps.OwnSet
import Derived.Maps.OwnOps
import Derived.Test.YtnohnkcijomdjaaGreatDoorCur3
import Derived.Test.YtnohnkcijomdjaaGreatDoorCur1
import Derived.OwnWalk
set_option linter.unusedVariables false
set_option linter.unusedSimpArgs false
set_option maxRecDepth 10000

namespace Go.Proofs.YtnohnkcijomdjaaGreatDoor
open Go.RowKit Go.Maps

theorem lawInt : Keyed Tryz.prog 3 := int_keyed Tryz.underlying3
theorem zeroInt (w : World) : (zeroValue 3).run Tryz.prog w = .ok (.int .i64 0) w := by kernel_rfl

/-- The map counts the numbers of a list. -/
def Used (D : DataW Unit) (ids : List Int) : Prop := IsMap D ∧ ∀ id : Int, ∃ c : Int, D.atKey (.int .i64 id) (.lit (.int .i64 0)) = .lit (.int .i64 c) ∧ 0 ≤ c ∧ c ≤ ids.length ∧ (0 < c ↔ id ∈ ids)

theorem Used.start : Used (.map []) [] := ⟨isMap_empty, fun id => ⟨0, rfl, Int.le_refl _, by simp, by simp⟩⟩

theorem Used.look {D : DataW Unit} {ids : List Int} {id c : Int} (h : Used D ids) (hat : D.atKey (.int .i64 id) (.lit (.int .i64 0)) = .lit (.int .i64 c)) : 0 ≤ c ∧ c ≤ ids.length ∧ (0 < c ↔ id ∈ ids) := by
  obtain ⟨c', h1, h2⟩ := h.2 id
  rw [hat] at h1
  simp only [DataW.lit.injEq, Lit.int.injEq, true_and] at h1
  subst h1
  exact h2

theorem Used.put {D : DataW Unit} {ids : List Int} {id c : Int} (h : Used D ids) (hat : D.atKey (.int .i64 id) (.lit (.int .i64 0)) = .lit (.int .i64 c)) :
    Used (D.put (.int .i64 id) (.lit (.int .i64 (c + 1)))) (ids ++ [id]) := by
  have hc := h.look hat
  refine ⟨h.1.put _ _, fun x => ?_⟩
  by_cases hx : x = id
  · subst hx
    refine ⟨c + 1, atKey_put_same h.1 (by trivial) _ _, by omega, by simp; omega, by simp; omega⟩
  · obtain ⟨c', h1, h2, h3, h4⟩ := h.2 x
    refine ⟨c', ?_, h2, by simp; omega, by simp [h4, hx]⟩
    rw [atKey_put_other (by simpa using hx)]
    exact h1

theorem ownsMap_block {w w' : World} {k : TypeId} {R : Value → Option (DataW Unit × List MemPlace)} {b n : Nat} {D : DataW Unit} (h : w.ownsMap Tryz.prog k R b n D) (hb : w'.heap[b]? = w.heap[b]?) : w'.ownsMap Tryz.prog k R b n D := by
  obtain ⟨es, c, h1, h2⟩ := h
  exact ⟨es, c, hb.trans h1, h2⟩
theorem ownsMap_lt {w : World} {k : TypeId} {R : Value → Option (DataW Unit × List MemPlace)} {b n : Nat} {D : DataW Unit} (h : w.ownsMap Tryz.prog k R b n D) : b < w.heap.size := by
  obtain ⟨es, c, h1, h2⟩ := h
  exact (Array.getElem?_eq_some_iff.1 h1).1
theorem ownsMap_below {w w' : World} {k : TypeId} {R : Value → Option (DataW Unit × List MemPlace)} {b n : Nat} {D : DataW Unit} (h : w.ownsMap Tryz.prog k R b n D) (hb : Below w.heap.size w w') : w'.ownsMap Tryz.prog k R b n D :=
  ownsMap_block h (hb.block b (ownsMap_lt h))

theorem keyInt {id : Int} (h : (Lit.int .i64 id).wf = true) : keyOf Tryz.prog 3 (.int .i64 id) = some (.int .i64 id) := keyOf_int_mk Tryz.underlying3 h

theorem okEL_no {ins : List MInode} {l : List MEntry} {k : Nat} (h : k < l.length) (hinv : okE ins [] ByteArray.empty l = okE ins (idsTo l k) (prevName l k) (l.drop k)) (hs : stepE ins (idsTo l k) (prevName l k) l[k] = false) : (decide (l.length ≤ 30) && okE ins [] ByteArray.empty l) = false := by
  rw [hinv, okE_step h, hs]; simp

set_option maxHeartbeats 2000000 in
theorem entriesOk_any (a ai : Option Addr) (n cap capi : Nat) (l : List MEntry) (ins : List MInode) (w : World) (hx : l.length = n) (hl : LeafL 2 rEntry w.heap.size w a cap l) (hi : LeafL 3 rInode w.heap.size w ai capi ins) (hn : n ≤ 16777216) (hni : ins.length ≤ 16777216) (hs : ins.Pairwise fun x y => x.fId < y.fId) :
    Calls Tryz.prog 118 #[.slice a n cap, .slice ai ins.length capi] w fun e w' => e = .returned (.bool (decide (l.length ≤ 30) && okE ins [] ByteArray.empty l)) ∧ Below w.heap.size w w' := by
  have HX := Hid.mk hx
  have HRS := Hid.mk hl.2.2
  have HIN := Hid.mk hi
  have HS := Hid.mk hs
  clear hx hl hi hs
  by_cases h30 : n ≤ 30
  · have H30 : Hid ((decide (l.length ≤ 30)) = true) := decide_eq_true (by rw [HX.out]; exact h30)
    have hmm := @run_makeMap Tryz.prog
    go_enter Tryz.func118, Tryz.ntmps118
    go_wp2_with fail
    go_loopw [6, 17] (fun lv i wr => ∃ (k : Nat) (D : DataW Unit), k ≤ n ∧ i = .int .i64 k ∧ lv = .string (prevName l k) ∧ wr.ownsMap Tryz.prog 3 (plainElem Tryz.prog 3) w.heap.size k D ∧ Used D (idsTo l k) ∧ okE ins [] ByteArray.empty l = okE ins (idsTo l k) (prevName l k) (l.drop k) ∧ Below w.heap.size w wr) (fun _ i _ => n - (intOf i).toNat)
    case atStart => exact ⟨0, .map [], Nat.zero_le _, rfl, rfl, World.ownsMap_made _ _ _ _, Used.start, rfl, (Below.refl _ _).alloc (Nat.le_refl _) _⟩
    case round =>
      obtain ⟨k, D, hk, rfl, rfl, hown, hU, hinv, hbk⟩ := hrel
      have HINV := Hid.mk hinv
      have HU := Hid.mk hU
      clear hinv hU hmm
      by_cases hlt : k < n
      · have hkl : k < l.length := by rw [HX.out]; exact hlt
        obtain ⟨b1, o1, rfl, hB, cs, hcl, hcell, rfl, hsz, hwf, _⟩ := (HRS.out.below rEntry_good hbk) k hkl
        have k0 := hcell 0 _ rfl
        have k1 := hcell 1 _ rfl
        rw [Nat.add_zero] at k0
        clear hcell hcl
        have HNO : Hid (stepE ins (idsTo l k) (prevName l k) l[k] = false → (decide (l.length ≤ 30) && okE ins [] ByteArray.empty l) = false) := okEL_no hkl HINV.out
        have HGO : Hid (stepE ins (idsTo l k) (prevName l k) l[k] = true → okE ins [] ByteArray.empty l = okE ins (idsTo l (k + 1)) (prevName l (k + 1)) (l.drop (k + 1))) := fun h => by rw [HINV.out, okE_step hkl, h, Bool.true_and]
        have HStep : Hid (stepE ins (idsTo l k) (prevName l k) l[k] = (hasId ins l[k].fId && !(idsTo l k).contains l[k].fId && strLt (prevName l k) l[k].fName && nameOk l[k].fName)) := rfl
        have HPN : Hid (prevName l (k + 1) = l[k].fName) := prevName_succ hkl
        have HIDS : Hid (idsTo l (k + 1) = idsTo l k ++ [l[k].fId]) := idsTo_succ hkl
        have hil : (idsTo l k).length ≤ 16777216 := by unfold idsTo; simp; omega
        have HIL := Hid.mk hil
        have hkey := keyInt hwf
        clear HINV hil
        obtain ⟨st, hst⟩ : ∃ st, stepE ins (idsTo l k) (prevName l k) l[k] = st := ⟨_, rfl⟩
        rw [hst] at HNO HGO HStep
        clear hst
        generalize l[k].fName = nm at *
        generalize l[k].fId = id at *
        have hib : -9223372036854775808 ≤ id ∧ id ≤ 9223372036854775807 := by simpa [Lit.wf, IntKind.min, IntKind.max, IntKind.signed, IntKind.bits] using hwf
        obtain ⟨hib1, hib2⟩ := hib
        generalize hpn : prevName l k = pn at *
        clear hpn
        go_wp2_with fail
        obtain ⟨wq, hwq⟩ : ∃ wq, wq = wr.alloc (.cells #[.string nm, .int .i64 id] 90) := ⟨_, rfl⟩
        have hbq : Below wr.heap.size wr wq := by rw [hwq]; exact (Below.refl _ _).alloc (Nat.le_refl _) _
        have hbn : Bx wq wr.heap.size [.string nm, .int .i64 id] := by rw [hwq]; exact Bx.new _ _ _
        rw [← hwq]
        clear hwq
        refine (inodePlace_any ai capi ins id wq (LeafL.mono rInode_good (HIN.out.below rInode_good (bthen hbk hbq)) (bthen hbk hbq).size) hni HS.out).mono ?_
        rintro e w1 ⟨p, rfl, _, hx1⟩
        have hb1 := bthen hbq hx1
        have hbn1 := hbn.under hx1
        have y0 := hbn1.2 0 _ rfl
        have y1 := hbn1.2 1 _ rfl
        have hown1 := ownsMap_below hown hb1
        have hbW := bthen hbk hb1
        obtain ⟨c, hrun, hat, hwc⟩ := hown1.lookup_int lawInt Tryz.underlying192 Tryz.underlying3 (zeroInt _) hkey
        have hc := HU.out.look hat
        obtain ⟨hc0, hc1, hc2⟩ := hc
        have hc3 : c ≤ 16777216 := by have := HIL.out; omega
        have HC := Hid.mk hc2
        have hbnq := hbn1
        have hmz := ownsMap_lt hown
        clear hc2 hc1 hown hbn hbn1
        by_cases hH : hasId ins id = true
        · rw [hH]
          by_cases hCn : 0 < c
          · have HV := Hid.mk (HNO.out (by rw [HStep.out, List.contains_iff_mem.2 (HC.out.1 hCn)]; simp))
            go_wp2_with fail
            go_ret
            exact ⟨by rw [HV.out]; rfl, hbW⟩
          · have hnc : (idsTo l k).contains id = false := by
              rw [Bool.eq_false_iff]
              intro h
              exact hCn (HC.out.2 (List.contains_iff_mem.1 h))
            have HNC := Hid.mk hnc
            clear hnc
            have hcz : c = 0 := by omega
            by_cases hLt : strLt pn nm = true
            · have HLT := Hid.mk hLt
              obtain ⟨hLt2, hLt3, hLt4⟩ := strLt_facts hLt
              clear hLt
              go_wp2_with fail
              refine (implNameOk_any nm w1 hsz).mono ?_
              rintro e w2 ⟨rfl, hx2⟩
              have hb2 := bthen hbW hx2
              by_cases hN : nameOk nm = true
              · have HGo := Hid.mk (HGO.out (by rw [HStep.out, hH, HNC.out, HLT.out, hN]; rfl))
                rw [hN]
                have hbn2 := hbnq.under hx2
                have z0 := hbn2.2 0 _ rfl
                have z1 := hbn2.2 1 _ rfl
                have hown2 := ownsMap_below hown1 hx2
                obtain ⟨c', hrun', hat', hwc'⟩ := hown2.lookup_int lawInt Tryz.underlying192 Tryz.underlying3 (zeroInt _) hkey
                have hcc : c' = c := by
                  rw [hat] at hat'
                  simp only [DataW.lit.injEq, Lit.int.injEq, true_and] at hat'
                  exact hat'.symm
                subst hcc
                have HU' := Hid.mk (HU.out.put hat)
                go_wp2_with (at_mapUpdate; refine wpList_mapUpdate_own _ rfl _ _ _ 192 rfl 3 3 lawInt Tryz.underlying192 _ w.heap.size k _ rfl hown2 (by unfold maxLen; omega) _ _ _ rfl rfl hkey _ [] (plainElem_int Tryz.underlying3 (WalkArith.wf_i64 (by omega))) ?_; intro w3 hown3 hgrow3; have z3 := hgrow3.cell z0 (fun e => by simp at e; omega))
                go_roundw
                case rel => exact ⟨k + 1, _, by omega, by go_num, by rw [HPN.out], hown3, by rw [HIDS.out]; have h := HU'.out; rw [hcz, Int.zero_add] at h; exact h, HGo.out, hb2.grown hgrow3 hb2.size (fun j hj => by cases hj; exact Nat.le_refl _)⟩
                case measure => simp [intOf]; omega
              · have hN2 : nameOk nm = false := Bool.eq_false_iff.2 hN
                have HV := Hid.mk (HNO.out (by rw [HStep.out, hN2]; simp))
                rw [hN2]
                go_wp2_with fail
                go_ret
                exact ⟨by rw [HV.out]; rfl, hb2⟩
            · have HV := Hid.mk (HNO.out (by rw [HStep.out, Bool.eq_false_iff.2 hLt]; simp))
              have hLt2 := strLt_not (Bool.eq_false_iff.2 hLt)
              clear hLt
              rcases hLt2 with hLt2 | hLt2
              · go_wp2_with fail
                go_ret
                exact ⟨by rw [HV.out]; rfl, hbW⟩
              · go_wp2_with fail
                all_goals
                  go_ret
                  exact ⟨by rw [HV.out]; rfl, hbW⟩
        · have hH2 : hasId ins id = false := Bool.eq_false_iff.2 hH
          have HV := Hid.mk (HNO.out (by rw [HStep.out, hH2]; simp))
          rw [hH2]
          go_wp2_with fail
          go_ret
          exact ⟨by rw [HV.out]; rfl, hbW⟩
      · have HV : Hid ((decide (l.length ≤ 30) && okE ins [] ByteArray.empty l) = true) := by
          show _ = true
          rw [H30.out, HINV.out, List.drop_of_length_le (by rw [HX.out]; omega)]
          rfl
        go_wp2_with fail
        go_ret
        exact ⟨by rw [HV.out]; rfl, hbk⟩
  · have HV : Hid ((decide (l.length ≤ 30) && okE ins [] ByteArray.empty l) = false) := by
      show _ = false
      rw [HX.out, decide_eq_false h30]
      rfl
    have h30' : (30 : Int) < (n : Int) := by omega
    go_enter Tryz.func118, Tryz.ntmps118
    go_wp2_with fail
    go_ret
    exact ⟨by rw [HV.out]; rfl, Below.refl _ _⟩

end Go.Proofs.YtnohnkcijomdjaaGreatDoor

namespace Go.Proofs.YtnohnkcijomdjaaGreatDoor
open Go.RowKit

theorem bl_trans : ∀ {x y z : List UInt8}, Op.bytesLess x y = true → Op.bytesLess y z = true → Op.bytesLess x z = true
  | _, [], _, h, _ => by simp [Op.bytesLess] at h
  | _, _ :: _, [], _, h => by simp [Op.bytesLess] at h
  | [], _ :: _, _ :: _, _, _ => by simp [Op.bytesLess]
  | a :: x, b :: y, c :: z, h1, h2 => by
    simp only [Op.bytesLess, Bool.or_eq_true, Bool.and_eq_true, decide_eq_true_eq, beq_iff_eq] at h1 h2 ⊢
    rcases h1 with h1 | ⟨rfl, h1⟩
    · rcases h2 with h2 | ⟨rfl, h2⟩
      · exact .inl (UInt8.lt_trans h1 h2)
      · exact .inl h1
    · rcases h2 with h2 | ⟨rfl, h2⟩
      · exact .inl h2
      · exact .inr ⟨rfl, bl_trans h1 h2⟩
theorem strLt_trans {a b c : ByteArray} (h1 : strLt a b = true) (h2 : strLt b c = true) : strLt a c = true := bl_trans h1 h2

theorem str_eq {a b : ByteArray} : (a.toList == b.toList) = true ↔ a = b := by
  rw [beq_iff_eq, ByteArray.toList_eq, ByteArray.toList_eq]
  constructor
  · intro h
    cases a; cases b
    simpa using Array.toList_inj.1 h
  · intro h; rw [h]

theorem str_ne {a b : ByteArray} (h : a ≠ b) : (a.toList == b.toList) = false := by
  rw [Bool.eq_false_iff]
  exact fun e => h (str_eq.1 e)
theorem str_same {a b : ByteArray} (h : a = b) : (a.toList == b.toList) = true := str_eq.2 h

def hasName (l : List MEntry) (s : ByteArray) : Bool := l.any fun e => decide (e.fName = s)
def nameAt (l : List MEntry) (s : ByteArray) : Nat := l.findIdx fun e => decide (e.fName = s)
def nameZ (l : List MEntry) (s : ByteArray) : Int := if hasName l s then (nameAt l s : Int) else -1
def idOf (l : List MEntry) (s : ByteArray) : Int := ((l[nameAt l s]?).map (·.fId)).getD 0

theorem hasName_yes {l : List MEntry} {s : ByteArray} {k : Nat} (h : k < l.length) (he : l[k].fName = s) : hasName l s = true := by
  unfold hasName
  rw [List.any_eq_true]
  exact ⟨l[k], List.getElem_mem h, by simp [he]⟩
theorem hasName_no {l : List MEntry} {s : ByteArray} (h : ∀ k, (hk : k < l.length) → l[k].fName ≠ s) : hasName l s = false := by
  unfold hasName
  rw [List.any_eq_false]
  intro e he
  obtain ⟨k, hk, rfl⟩ := List.mem_iff_getElem.1 he
  simp [h k hk]
theorem nameAt_is {l : List MEntry} {s : ByteArray} {k : Nat} (h : k < l.length) (he : l[k].fName = s) (hn : ∀ j, (hj : j < l.length) → j < k → l[j].fName ≠ s) : nameAt l s = k := by
  unfold nameAt
  rw [List.findIdx_eq h]
  exact ⟨decide_eq_true he, fun j hj => by simp [hn j (by omega) hj]⟩
theorem nameZ_at {l : List MEntry} {s : ByteArray} {k : Nat} (h : k < l.length) (he : l[k].fName = s) (hn : ∀ j, (hj : j < l.length) → j < k → l[j].fName ≠ s) : nameZ l s = k := by
  unfold nameZ
  rw [hasName_yes h he, if_pos rfl, nameAt_is h he hn]
theorem nameZ_no {l : List MEntry} {s : ByteArray} (hn : ∀ j, (hj : j < l.length) → l[j].fName ≠ s) : nameZ l s = -1 := by
  unfold nameZ
  rw [hasName_no hn]
  rfl
theorem hasName_at {l : List MEntry} {s : ByteArray} (h : hasName l s = true) : ∃ hk : nameAt l s < l.length, l[nameAt l s].fName = s := by
  unfold hasName at h
  rw [List.any_eq_true] at h
  obtain ⟨e, he, h2⟩ := h
  have hk : nameAt l s < l.length := List.findIdx_lt_length_of_exists ⟨e, he, h2⟩
  exact ⟨hk, of_decide_eq_true (List.findIdx_getElem (w := hk))⟩

/-- The code of a call on a file. -/
def callP (m : MDisk) (s : ByteArray) : Int := if diskOk m && nameOk s then (if hasName m.fNames s then 0 else 2) else 1

def dataOf (m : MDisk) (s : ByteArray) : List Int := ((m.fInodes[placeOf m.fInodes (idOf m.fNames s)]?).map (·.fData)).getD []
def bytesP (m : MDisk) (s : ByteArray) : List Int := if callP m s = 0 then dataOf m s else []

/-- In a disk that is right the file that is named is there. -/
theorem okE_has {ins : List MInode} : ∀ {l : List MEntry} {seen : List Int} {prev : ByteArray}, okE ins seen prev l = true → ∀ e, e ∈ l → hasId ins e.fId = true
  | [], _, _, _, e, he => by cases he
  | x :: r, seen, prev, h, e, he => by
    rw [okE, Bool.and_eq_true] at h
    rcases List.mem_cons.1 he with rfl | he
    · have h1 := h.1
      unfold stepE at h1
      simp only [Bool.and_eq_true] at h1
      exact h1.1.1.1
    · exact okE_has h.2 e he

theorem diskOk_parts {m : MDisk} (h : diskOk m = true) : okI m.fNext 0 m.fInodes = true ∧ okE m.fInodes [] ByteArray.empty m.fNames = true ∧ okE m.fInodes [] ByteArray.empty m.fSafe = true := by
  unfold diskOk at h
  simp only [Bool.and_eq_true] at h
  exact ⟨h.1.1.1.1.1.1.2, h.1.1.1.2, h.1.2⟩

theorem file_there {m : MDisk} {s : ByteArray} (h : diskOk m = true) (hn : hasName m.fNames s = true) : ∃ hk : nameAt m.fNames s < m.fNames.length, idOf m.fNames s = m.fNames[nameAt m.fNames s].fId ∧ hasId m.fInodes (idOf m.fNames s) = true := by
  obtain ⟨hk, he⟩ := hasName_at hn
  have hid : idOf m.fNames s = m.fNames[nameAt m.fNames s].fId := by unfold idOf; rw [List.getElem?_eq_getElem hk]; rfl
  exact ⟨hk, hid, by rw [hid]; exact okE_has (diskOk_parts h).2.1 _ (List.getElem_mem hk)⟩

theorem hasId_at {l : List MInode} {id : Int} (h : hasId l id = true) : ∃ hk : placeOf l id < l.length, l[placeOf l id].fId = id := by
  unfold hasId at h
  rw [List.any_eq_true] at h
  obtain ⟨e, he, h2⟩ := h
  have hk : placeOf l id < l.length := List.findIdx_lt_length_of_exists ⟨e, he, h2⟩
  exact ⟨hk, of_decide_eq_true (List.findIdx_getElem (w := hk))⟩


/-- A list of entries that is right over these inodes. -/
def EntOk (ins : List MInode) (l : List MEntry) : Prop :=
  (∀ e, e ∈ l → hasId ins e.fId = true ∧ nameOk e.fName = true) ∧ l.Pairwise (fun x y => strLt x.fName y.fName = true ∧ x.fId ≠ y.fId)

structure DiskR (m : MDisk) : Prop where
  next : 1 ≤ m.fNext ∧ m.fNext ≤ 1000000
  each : ∀ n, n ∈ m.fInodes → 0 < n.fId ∧ n.fId < m.fNext ∧ 0 ≤ n.fSure ∧ n.fSure ≤ n.fData.length
  rise : m.fInodes.Pairwise (fun x y => x.fId < y.fId)
  size : sumW wInode m.fInodes ≤ 60000
  few : m.fNames.length ≤ 30
  few' : m.fSafe.length ≤ 30
  names : EntOk m.fInodes m.fNames
  safe : EntOk m.fInodes m.fSafe
  all : ∀ n, n ∈ m.fInodes → isNamed m n = true

theorem hasId_iff {l : List MInode} {id : Int} : hasId l id = true ↔ ∃ n, n ∈ l ∧ n.fId = id := by
  unfold hasId
  rw [List.any_eq_true]
  simp

theorem named_iff {l : List MEntry} {id : Int} : named l id = true ↔ id ∈ l.map (·.fId) := by
  constructor
  · exact named_mem
  · intro h
    obtain ⟨e, he, rfl⟩ := List.mem_map.1 h
    obtain ⟨k, hk, rfl⟩ := List.mem_iff_getElem.1 he
    exact named_yes hk rfl

theorem isNamed_iff {d : MDisk} {n : MInode} : isNamed d n = true ↔ n.fId ∈ d.fNames.map (·.fId) ++ d.fSafe.map (·.fId) := by
  unfold isNamed
  rw [Bool.or_eq_true, named_iff, named_iff, List.mem_append]

def withE (l : List MEntry) (e : MEntry) : List MEntry := l.filter (fun x => strLt x.fName e.fName) ++ e :: l.filter (fun x => strLt e.fName x.fName)

theorem strLt_irrefl (s : ByteArray) : strLt s s = false := bl_irrefl _
theorem strLt_asymm {a b : ByteArray} (h : strLt a b = true) : strLt b a = false := bl_asymm h
theorem strLt_tri {a b : ByteArray} (h1 : strLt a b = false) (h2 : a ≠ b) : strLt b a = true := bl_total h1 (fun e => h2 (str_eq.1 (by rw [e]; simp)))

def Rise (l : List MEntry) : Prop := l.Pairwise (fun x y => strLt x.fName y.fName = true)

theorem EntOk.rise {ins : List MInode} {l : List MEntry} (h : EntOk ins l) : Rise l := h.2.imp (fun h => h.1)

theorem EntOk.sub {ins : List MInode} {l k : List MEntry} (h : EntOk ins l) (hs : k.Sublist l) : EntOk ins k := ⟨fun e he => h.1 e (hs.subset he), h.2.sublist hs⟩

theorem EntOk.more {ins ins' : List MInode} {l : List MEntry} (h : EntOk ins l) (hi : ∀ n, n ∈ ins → ∃ n', n' ∈ ins' ∧ n'.fId = n.fId) : EntOk ins' l := by
  refine ⟨fun e he => ⟨?_, (h.1 e he).2⟩, h.2⟩
  obtain ⟨n, hn, hid⟩ := hasId_iff.1 (h.1 e he).1
  obtain ⟨n', hn', hid'⟩ := hi n hn
  exact hasId_iff.2 ⟨n', hn', hid'.trans hid⟩

theorem EntOk.withE {ins : List MInode} {l : List MEntry} {e : MEntry} (h : EntOk ins l) (he : hasId ins e.fId = true) (hn : nameOk e.fName = true) (hfresh : ∀ x, x ∈ l → x.fId = e.fId → x.fName = e.fName) : EntOk ins (withE l e) := by
  unfold Go.Proofs.YtnohnkcijomdjaaGreatDoor.withE
  constructor
  · intro x hx
    rcases List.mem_append.1 hx with hx | hx
    · exact h.1 x (List.mem_filter.1 hx).1
    · rcases List.mem_cons.1 hx with rfl | hx
      · exact ⟨he, hn⟩
      · exact h.1 x (List.mem_filter.1 hx).1
  · rw [List.pairwise_append, List.pairwise_cons]
    refine ⟨h.2.sublist List.filter_sublist, ⟨?_, h.2.sublist List.filter_sublist⟩, ?_⟩
    · intro y hy
      have hy' := List.mem_filter.1 hy
      refine ⟨hy'.2, fun hid => ?_⟩
      have := hfresh y hy'.1 hid.symm
      rw [this, strLt_irrefl] at hy'
      cases hy'.2
    · intro x hx y hy
      have hx' := List.mem_filter.1 hx
      rcases List.mem_cons.1 hy with rfl | hy
      · refine ⟨hx'.2, fun hid => ?_⟩
        have := hfresh x hx'.1 hid
        rw [this, strLt_irrefl] at hx'
        cases hx'.2
      · have hy' := List.mem_filter.1 hy
        obtain ⟨i, hi, rfl⟩ := List.mem_iff_getElem.1 hx'.1
        obtain ⟨j, hj, rfl⟩ := List.mem_iff_getElem.1 hy'.1
        have hlt : strLt l[i].fName l[j].fName = true := strLt_trans hx'.2 hy'.2
        have hij : i < j := by
          rcases Nat.lt_trichotomy i j with h1 | h1 | h1
          · exact h1
          · subst h1; rw [strLt_irrefl] at hlt; cases hlt
          · have h2 := (List.pairwise_iff_getElem.1 h.2 j i hj hi h1).1
            rw [strLt_asymm h2] at hlt; cases hlt
        exact List.pairwise_iff_getElem.1 h.2 i j hi hj hij

end Go.Proofs.YtnohnkcijomdjaaGreatDoor

namespace Go.Proofs.YtnohnkcijomdjaaGreatDoor
open Go.RowKit Go.Maps

theorem filter_snoc_yes {α : Type} {p : α → Bool} {l : List α} {k : Nat} (h : k < l.length) (hp : p l[k] = true) : (l.take (k + 1)).filter p = (l.take k).filter p ++ [l[k]] := by
  rw [List.take_succ_eq_append_getElem h, List.filter_append]
  simp [hp]
theorem filter_snoc_no {α : Type} {p : α → Bool} {l : List α} {k : Nat} (h : k < l.length) (hp : p l[k] = false) : (l.take (k + 1)).filter p = (l.take k).filter p := by
  rw [List.take_succ_eq_append_getElem h, List.filter_append]
  simp [hp]

theorem idsTo_all {l : List MEntry} : idsTo l l.length = l.map (·.fId) := by unfold idsTo; rw [List.take_length]
theorem idsTo_len {l : List MEntry} {k : Nat} : (idsTo l k).length ≤ l.length := by unfold idsTo; simp; omega

set_option maxHeartbeats 4000000 in
theorem namedInodes_rowB (a0 a1 a2 : Option Addr) (c0 c1 c2 : Nat) (m : MDisk) (w : World) (B : Nat) (hBB : B ≤ w.heap.size) (hI : LeafL 3 rInode B w a0 c0 m.fInodes) (hNm : LeafL 2 rEntry w.heap.size w a1 c1 m.fNames) (hSf : LeafL 2 rEntry w.heap.size w a2 c2 m.fSafe) (hw : wDisk m ≤ 16777216) :
    Calls Tryz.prog 119 #[.agg #[.slice a0 m.fInodes.length c0, .slice a1 m.fNames.length c1, .slice a2 m.fSafe.length c2, .int .i64 m.fNext]] w fun e w' => ∃ (a : Option Addr) (c : Nat), e = .returned (.slice a (keepI m).length c) ∧ RowR 3 92 rInode B w' w.heap.size (.slice a (keepI m).length c) (keepI m) ∧ LeafL 3 rInode w'.heap.size w' a c (keepI m) ∧ Below w.heap.size w w' := by
  obtain ⟨i0, hi, hz0, hz1, hz2⟩ := info_parts Tryz.infoOfInode
  have hw2 : m.fInodes.length + sumW wInode m.fInodes + (m.fNames.length + sumW wEntry m.fNames) + (m.fSafe.length + sumW wEntry m.fSafe) ≤ 16777216 := hw
  have HI := Hid.mk hI.2.2
  have HN := Hid.mk hNm.2.2
  have HS := Hid.mk hSf.2.2
  clear hI hNm hSf hw
  have hmm := @run_makeMap Tryz.prog
  go_enter Tryz.func119, Tryz.ntmps119
  go_wp2_with fail
  go_loopw [15] (fun i wr => ∃ (k : Nat) (D : DataW Unit), k ≤ m.fNames.length ∧ i = .int .i64 k ∧ wr.ownsMap Tryz.prog 3 (plainElem Tryz.prog 3) (w.heap.size + 1) (k) D ∧ Used D (idsTo m.fNames k) ∧ Below w.heap.size w wr ∧ Bx wr w.heap.size [.slice a0 m.fInodes.length c0, .slice a1 m.fNames.length c1, .slice a2 m.fSafe.length c2, .int .i64 m.fNext]) (fun i _ => m.fNames.length - (intOf i).toNat)
  case atStart => exact ⟨0, .map [], Nat.zero_le _, rfl, by simpa using World.ownsMap_made (H := Unit) (w.alloc _) _ _ _, Used.start, ((Below.refl _ _).alloc (Nat.le_refl _) _).alloc (by simp) _, (Bx.new _ _ _).alloc _⟩
  case round =>
    obtain ⟨k, D, hk, rfl, hown, hU, hbk, hbx⟩ := hrel
    have HU := Hid.mk hU
    clear hU
    have xb0 := hbx.2 0 _ rfl
    have xb1 := hbx.2 1 _ rfl
    have xb2 := hbx.2 2 _ rfl
    have xb3 := hbx.2 3 _ rfl
    by_cases hlt : k < m.fNames.length
    · obtain ⟨b1, o1, rfl, hB, cs, hcl, hcell, rfl, hsz, hwf, _⟩ := (HN.out.below rEntry_good hbk) k hlt
      have k0 := hcell 0 _ rfl
      have k1 := hcell 1 _ rfl
      rw [Nat.add_zero] at k0
      clear hcell hcl
      have HIDS : Hid (idsTo m.fNames (k + 1) = idsTo m.fNames k ++ [m.fNames[k].fId]) := by show _ = _; rw [idsTo_succ hlt]
      have hkey := keyInt hwf
      generalize m.fNames[k].fName = nm at *
      generalize m.fNames[k].fId = id at *
      have hmz := ownsMap_lt hown
      have hown0 := ownsMap_below hown ((Below.refl _ _).alloc (Nat.le_refl _) (.cells #[.string nm, .int .i64 id] 90))
      obtain ⟨c, hrun, hat, hwc⟩ := hown0.lookup_int lawInt Tryz.underlying192 Tryz.underlying3 (zeroInt _) hkey
      have hc := HU.out.look hat
      have hc3 : 0 ≤ c ∧ c ≤ 16777216 := by
        have h1 := idsTo_len (l := m.fNames) (k := k)
        have h2 := hc.2.1
        omega
      obtain ⟨hc4, hc5⟩ := hc3
      have HU' := Hid.mk (HU.out.put hat)
      clear hc
      go_wp2_with (at_mapUpdate; refine wpList_mapUpdate_own _ rfl _ _ _ 192 rfl 3 3 lawInt Tryz.underlying192 _ (w.heap.size + 1) (k) _ rfl hown0 (by unfold maxLen; omega) _ _ _ rfl rfl hkey _ [] (plainElem_int Tryz.underlying3 (WalkArith.wf_i64 (by omega))) ?_; intro w3 hown3 hgrow3)
      have hT : Turn [w.heap.size + 1] wr w3 := Turn.after ((Below.refl _ _).alloc (Nat.le_refl _) _) (Turn.ofGrown hgrow3 (fun k hk => by cases hk; simp))
      go_roundw
      case rel => exact ⟨k + 1, _, by omega, by go_num, hown3, by rw [HIDS.out]; exact HU'.out, Turn.under hbk hT (fun k hk => by simp at hk; omega), hbx.turn hT (by simp)⟩
      case measure => simp [intOf]; omega
    · have hkn : k = m.fNames.length := by omega
      subst hkn
      go_wp2_with fail
      go_loopw [28] (fun i wr => ∃ (k : Nat) (D : DataW Unit), k ≤ m.fSafe.length ∧ i = .int .i64 k ∧ wr.ownsMap Tryz.prog 3 (plainElem Tryz.prog 3) (w.heap.size + 1) (m.fNames.length + k) D ∧ Used D (idsTo m.fNames m.fNames.length ++ idsTo m.fSafe k) ∧ Below w.heap.size w wr ∧ Bx wr w.heap.size [.slice a0 m.fInodes.length c0, .slice a1 m.fNames.length c1, .slice a2 m.fSafe.length c2, .int .i64 m.fNext]) (fun i _ => m.fSafe.length - (intOf i).toNat)
      case atStart => exact ⟨0, D, Nat.zero_le _, rfl, hown, by have h := HU.out; simpa [idsTo] using h, hbk, hbx⟩
      case round =>
        obtain ⟨k, D, hk, rfl, hown, hU, hbk, hbx⟩ := hrel
        have HU := Hid.mk hU
        clear hU
        have xb0 := hbx.2 0 _ rfl
        have xb1 := hbx.2 1 _ rfl
        have xb2 := hbx.2 2 _ rfl
        have xb3 := hbx.2 3 _ rfl
        by_cases hlt : k < m.fSafe.length
        · obtain ⟨b1, o1, rfl, hB, cs, hcl, hcell, rfl, hsz, hwf, _⟩ := (HS.out.below rEntry_good hbk) k hlt
          have k0 := hcell 0 _ rfl
          have k1 := hcell 1 _ rfl
          rw [Nat.add_zero] at k0
          clear hcell hcl
          have HIDS : Hid (idsTo m.fNames m.fNames.length ++ idsTo m.fSafe (k + 1) = idsTo m.fNames m.fNames.length ++ idsTo m.fSafe k ++ [m.fSafe[k].fId]) := by show _ = _; rw [idsTo_succ hlt]; simp
          have hkey := keyInt hwf
          generalize m.fSafe[k].fName = nm at *
          generalize m.fSafe[k].fId = id at *
          have hmz := ownsMap_lt hown
          have hown0 := ownsMap_below hown ((Below.refl _ _).alloc (Nat.le_refl _) (.cells #[.string nm, .int .i64 id] 90))
          obtain ⟨c, hrun, hat, hwc⟩ := hown0.lookup_int lawInt Tryz.underlying192 Tryz.underlying3 (zeroInt _) hkey
          have hc := HU.out.look hat
          have hc3 : 0 ≤ c ∧ c ≤ 16777216 := by
            have h1 := idsTo_len (l := m.fSafe) (k := k)
            have h2 := hc.2.1
            have h3 := idsTo_len (l := m.fNames) (k := m.fNames.length)
            simp only [List.length_append, Int.natCast_add] at h2
            omega
          obtain ⟨hc4, hc5⟩ := hc3
          have HU' := Hid.mk (HU.out.put hat)
          clear hc
          go_wp2_with (at_mapUpdate; refine wpList_mapUpdate_own _ rfl _ _ _ 192 rfl 3 3 lawInt Tryz.underlying192 _ (w.heap.size + 1) (m.fNames.length + k) _ rfl hown0 (by unfold maxLen; omega) _ _ _ rfl rfl hkey _ [] (plainElem_int Tryz.underlying3 (WalkArith.wf_i64 (by omega))) ?_; intro w3 hown3 hgrow3)
          have hT : Turn [w.heap.size + 1] wr w3 := Turn.after ((Below.refl _ _).alloc (Nat.le_refl _) _) (Turn.ofGrown hgrow3 (fun k hk => by cases hk; simp))
          go_roundw
          case rel => exact ⟨k + 1, _, by omega, by go_num, hown3, by rw [HIDS.out]; exact HU'.out, Turn.under hbk hT (fun k hk => by simp at hk; omega), hbx.turn hT (by simp)⟩
          case measure => simp [intOf]; omega
        · have hkn : k = m.fSafe.length := by omega
          subst hkn
          go_wp2_with fail
          go_loopw [8, 41] (fun v i wr => ∃ k : Nat, k ≤ m.fInodes.length ∧ i = .int .i64 k ∧ wr.ownsMap Tryz.prog 3 (plainElem Tryz.prog 3) (w.heap.size + 1) (m.fNames.length + m.fSafe.length) D ∧ RowR 3 92 rInode B wr (w.heap.size + 2) v ((m.fInodes.take k).filter (isNamed m)) ∧ Below w.heap.size w wr) (fun _ i _ => m.fInodes.length - (intOf i).toNat)
          case atStart => exact ⟨0, Nat.zero_le _, rfl, hown, by rw [List.take_zero]; exact RowR.start, hbk⟩
          case round =>
            obtain ⟨k, hk, rfl, hown', hrow, hbk'⟩ := hrel
            have HRow := Hid.mk hrow
            clear hrow hown hbk hbx xb0 xb1 xb2 xb3
            by_cases hlt : k < m.fInodes.length
            · obtain ⟨b1, o1, rfl, hB, cs, hcl, hcell, hrI⟩ := (HI.out.below rInode_good (hbk'.mono hBB)) k hlt
              have HYes := Hid.mk (fun h => filter_snoc_yes (p := isNamed m) hlt h)
              have HNo := Hid.mk (fun h => filter_snoc_no (p := isNamed m) hlt h)
              have HNI : Hid (isNamed m m.fInodes[k] = true ↔ m.fInodes[k].fId ∈ m.fNames.map (·.fId) ++ m.fSafe.map (·.fId)) := isNamed_iff
              have hfl : ((m.fInodes.take k).filter (isNamed m)).length ≤ 16777216 := Nat.le_trans (List.length_filter_le _ _) (by simp; omega)
              generalize m.fInodes[k] = n at *
              have hrI2 := hrI
              obtain ⟨ad, cd, rfl, hid, hda, hsu, _⟩ := hrI
              have k0 := hcell 0 _ rfl
              have k1 := hcell 1 _ rfl
              have k2 := hcell 2 _ rfl
              rw [Nat.add_zero] at k0
              have hkey := keyInt hid
              have hmz := ownsMap_lt hown'
              have hown0 := ownsMap_below hown' ((Below.refl _ _).alloc (Nat.le_refl _) (.cells #[.int .i64 n.fId, .slice ad n.fData.length cd, .int .i64 n.fSure] 92))
              obtain ⟨c, hrun, hat, hwc⟩ := hown0.lookup_int lawInt Tryz.underlying192 Tryz.underlying3 (zeroInt _) hkey
              have hc := HU.out.look hat
              rw [idsTo_all, idsTo_all] at hc
              have HC := Hid.mk hc.2.2
              clear hc hcell hcl
              by_cases hcp : 0 < c
              · have HF := Hid.mk (HYes.out (HNI.out.2 (HC.out.1 hcp)))
                clear HYes HNo HNI HC
                generalize (m.fInodes.take k).filter (isNamed m) = fl at *
                obtain ⟨css, r1, r2, r3, r4⟩ := HRow.out
                have hbs := hbk'.size
                go_wp2_with (at_builtin; refine wpList_append_own_at _ rfl _ _ 36 rfl (w.heap.size + 2) 92 i0 (.agg #[.int .i64 0, .slice none 0 0, .int .i64 0]) 3 40 Tryz.underlying36 hi hz0 hz1 hz2 rfl (by decide) _ _ _ rfl (own_below r4 (((Below.refl _ _).alloc (Nat.le_refl _) _).alloc (by simp) _)) ⟨wr.heap.size + 1, 0, none⟩ 1 1 [.int .i64 n.fId, .slice ad n.fData.length cd, .int .i64 n.fSure] rfl rfl (bx_news (by simpa using Bx.new (wr.alloc _) _ _)) (by intro u hu; simp at hu; rcases hu with rfl | rfl | rfl <;> rfl) (by unfold maxLen; omega) (by omega) (by simp; omega) ?_; intro v' w3 hown3 hgrow3 hnil hloc)
                have hT := Turn.after (((Below.refl wr.heap.size wr).alloc (Nat.le_refl _) _).alloc (by simp) _) (turnOwn hgrow3)
                have hge : ∀ k, k ∈ (Value.ownBlock _).toList → w.heap.size + 2 ≤ k := fun k hk => (r4.lt k (by simpa using hk)).1
                have hBl : Below w.heap.size wr w3 := Turn.below hT (fun k hk => by have := hge k hk; omega) hbs
                go_roundw
                case rel => exact ⟨k + 1, by omega, by go_num, ownsMap_block hown' (hT.block _ hmz (fun hm => by have := hge _ hm; omega)), by rw [HF.out]; exact RowR.push rInode_good r1 r2 r3 (hBl.mono hBB) rfl (rInode_good.below hrI2 (hBl.mono hBB)) hown3, hbk'.trans hBl⟩
                case measure => simp [intOf]; omega
              · have HF := Hid.mk (HNo.out (Bool.eq_false_iff.2 (fun h => hcp (HC.out.2 (HNI.out.1 h)))))
                clear HYes HNo HNI HC
                have hbs := hbk'.size
                have hbq := (Below.refl wr.heap.size wr).alloc (Nat.le_refl _) (.cells #[.int .i64 n.fId, .slice ad n.fData.length cd, .int .i64 n.fSure] 92)
                go_wp2_with fail
                go_roundw
                case rel => exact ⟨k + 1, by omega, by go_num, hown0, by rw [HF.out]; exact RowR.keep rInode_good HRow.out hbq (Nat.le_trans hBB hbs), bthen hbk' hbq⟩
                case measure => simp [intOf]; omega
            · have hkn : k = m.fInodes.length := by omega
              subst hkn
              have hrow := HRow.out
              rw [List.take_length] at hrow
              obtain ⟨ar, cr, hv, hlf⟩ := hrow.leaf rInode_good (Nat.le_trans hBB hbk'.size)
              subst hv
              go_wp2_with fail
              go_ret
              exact ⟨ar, cr, rfl, RowR.base hrow (by omega), hlf, hbk'⟩

theorem namedInodes_row (cs : List Value) (m : MDisk) (w : World) (hr : rDisk w.heap.size w cs m) (hw : wDisk m ≤ 16777216) :
    Calls Tryz.prog 119 #[.agg cs.toArray] w fun e w' => ∃ (a : Option Addr) (c : Nat), e = .returned (.slice a (keepI m).length c) ∧ RowR 3 92 rInode w.heap.size w' w.heap.size (.slice a (keepI m).length c) (keepI m) ∧ LeafL 3 rInode w'.heap.size w' a c (keepI m) ∧ Below w.heap.size w w' := by
  obtain ⟨a0, c0, a1, c1, a2, c2, rfl, hI, hNm, hSf, hnx, _⟩ := hr
  exact namedInodes_rowB a0 a1 a2 c0 c1 c2 m w w.heap.size (Nat.le_refl _) hI hNm hSf hw

theorem namedInodes_any (cs : List Value) (m : MDisk) (w : World) (hr : rDisk w.heap.size w cs m) (hw : wDisk m ≤ 16777216) :
    Calls Tryz.prog 119 #[.agg cs.toArray] w fun e w' => ∃ (a : Option Addr) (c : Nat), e = .returned (.slice a (keepI m).length c) ∧ LeafL 3 rInode w'.heap.size w' a c (keepI m) ∧ Below w.heap.size w w' :=
  (namedInodes_row cs m w hr hw).mono fun e w' ⟨a, c, h1, _, h2, h3⟩ => ⟨a, c, h1, h2, h3⟩

end Go.Proofs.YtnohnkcijomdjaaGreatDoor
