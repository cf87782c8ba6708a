/-
  Part 15 of the texts that the proof leans on.
-/
import Derived.Test.YtnohnkcijomdjaaGreatDoorCur9
import Derived.Test.YtnohnkcijomdjaaGreatDoorCur10
import Derived.Shelf.Strings.FieldsAny
import Derived.Test.YtnohnkcijomdjaaGreatDoorCur13
import Derived.Test.YtnohnkcijomdjaaGreatDoorCur0
import Derived.Test.YtnohnkcijomdjaaGreatDoorCur7
import Derived.Test.YtnohnkcijomdjaaGreatDoorCur1
import Derived.Test.YtnohnkcijomdjaaGreatDoorChecked
import Derived.Test.YtnohnkcijomdjaaGreatDoorCur3
set_option linter.unusedVariables false
set_option linter.unusedSimpArgs false
set_option maxRecDepth 10000

namespace Go.Proofs.YtnohnkcijomdjaaGreatDoor
open Go.RowKit Go.Maps Go.Shelf

theorem sumL_app : ∀ (a b : List (List UInt8)), sumL (a ++ b) = sumL a + sumL b
  | [], b => by simp [sumL, sumW]
  | x :: a, b => by have := sumL_app a b; simp only [sumL, List.cons_append, sumW] at this ⊢; omega
theorem sumL_one (x : List UInt8) : sumL [x] = x.length := by simp [sumL, sumW]
theorem cur_sum (cur : List UInt8) : sumL (if cur = [] then [] else [cur]) = cur.length := by
  by_cases h : cur = []
  · rw [if_pos h, h]; rfl
  · rw [if_neg h, sumL_one]
theorem cur_ne {cur x : List UInt8} (h : x ∈ (if cur = [] then [] else [cur])) : x ≠ [] := by
  by_cases hc : cur = []
  · rw [if_pos hc] at h; cases h
  · rw [if_neg hc] at h; simp at h; rw [h]; exact hc
theorem fieldsGo_sum : ∀ (f : Nat) (cur l : List UInt8), sumL (Lib.fieldsGoD f cur l) ≤ cur.length + l.length ∧ ∀ x, x ∈ Lib.fieldsGoD f cur l → x ≠ []
  | 0, cur, l => by
    unfold Lib.fieldsGoD
    rw [cur_sum]
    exact ⟨by omega, fun x hx => cur_ne hx⟩
  | f + 1, cur, l => by
    unfold Lib.fieldsGoD
    split
    · rw [cur_sum]; exact ⟨by omega, fun x hx => cur_ne hx⟩
    · split
      · obtain ⟨h1, h2⟩ := fieldsGo_sum f [] (l.drop (Lib.decodeL l).2)
        rw [sumL_app, cur_sum]
        rw [List.length_drop] at h1
        refine ⟨by simp only [List.length_nil] at h1; omega, fun x hx => ?_⟩
        rcases List.mem_append.1 hx with hx | hx
        · exact cur_ne hx
        · exact h2 x hx
      · obtain ⟨h1, h2⟩ := fieldsGo_sum f (cur ++ l.take (Lib.decodeL l).2) (l.drop (Lib.decodeL l).2)
        rw [List.length_drop, List.length_append, List.length_take] at h1
        exact ⟨by omega, h2⟩
theorem fields_sum (l : List UInt8) : sumL (Lib.fieldsD l) ≤ l.length := by
  have := (fieldsGo_sum (l.length + 1) [] l).1
  rw [List.length_nil, Nat.zero_add] at this
  exact this
theorem sumL_mem : ∀ {L : List (List UInt8)} {x : List UInt8}, x ∈ L → x.length ≤ sumL L
  | y :: L, x, h => by
    simp only [sumL, sumW]
    rcases List.mem_cons.1 h with rfl | h
    · omega
    · have := sumL_mem h; simp only [sumL] at this; omega
theorem sumL_count : ∀ {L : List (List UInt8)}, (∀ x, x ∈ L → x ≠ []) → L.length ≤ sumL L
  | [], _ => by simp
  | y :: L, h => by
    have h1 := sumL_count (L := L) (fun x hx => h x (by simp [hx]))
    have h2 : 0 < y.length := List.length_pos_iff.2 (h y (by simp))
    simp only [sumL, sumW, List.length_cons] at h1 ⊢
    omega
theorem fields_count (l : List UInt8) : (Lib.fieldsD l).length ≤ l.length :=
  Nat.le_trans (sumL_count (fieldsGo_sum (l.length + 1) [] l).2) (fields_sum l)
theorem fields_len {l x : List UInt8} (h : x ∈ Lib.fieldsD l) : x.length ≤ l.length := Nat.le_trans (sumL_mem h) (fields_sum l)

theorem sumL_head : ∀ l : List (List UInt8), sumL l = (l.headD []).length + sumL l.tail
  | [] => rfl
  | x :: l => rfl
theorem digs_head (l : List (List UInt8)) : (digsP l).1.length ≤ (l.headD []).length := by
  cases l with
  | nil => simp [digsP]
  | cons x l => simp only [digsP]; cases digW x <;> simp
theorem key_head (l : List (List UInt8)) : (keyP l).1.length ≤ (l.headD []).length :=
  Nat.le_trans (unk_len _ _ (Nat.le_refl _)) (digs_head l)
theorem name_head (l : List (List UInt8)) : (nameP l).1.length ≤ (l.headD []).length := by
  cases l with
  | nil => simp [nameP]
  | cons x l => simp only [nameP]; cases digW x <;> simp
theorem row_weight (l : List (List UInt8)) (h : (nameP l).1 = tabW) : 1 + wMeta (rowM l.tail) + sumL l.tail.tail.tail.tail.tail ≤ sumL l := by
  have h0 := name_head l
  rw [h] at h0
  have h3 := key_head l.tail.tail.tail
  have h4 := key_head l.tail.tail.tail.tail
  have e0 := sumL_head l
  have e1 := sumL_head l.tail
  have e2 := sumL_head l.tail.tail
  have e3 := sumL_head l.tail.tail.tail
  have e4 := sumL_head l.tail.tail.tail.tail
  have ht : tabW.length = 3 := rfl
  simp only [wMeta, rowM, strB_size]
  omega
theorem tabs_weight : ∀ (f : Nat) (l : List (List UInt8)) (b : Bool) (ts : List MMeta), (rdTabs f l b ts).2 = false → (rdTabs f l b ts).1.length + sumW wMeta (rdTabs f l b ts).1 ≤ ts.length + sumW wMeta ts + sumL l
  | 0, l, b, ts, h => by cases h
  | f + 1, l, b, ts, h => by
    unfold rdTabs at h ⊢
    cases b
    · simp only [cond_false] at h ⊢
      by_cases he : (nameP l).1 = endW
      · rw [decide_eq_true he] at h ⊢
        simp only [cond_true]
        omega
      · rw [decide_eq_false he] at h ⊢
        simp only [cond_false] at h ⊢
        have ih := tabs_weight f _ _ _ h
        have hb : rowB l.tail (tabB l false) = false := by
          cases hq : rowB l.tail (tabB l false)
          · rfl
          · rw [hq] at h
            cases f <;> cases h
        have hn : (nameP l).1 = tabW := by
          unfold rowB at hb
          simp only [Bool.or_eq_false_iff] at hb
          have h1 := hb.1.1.1.1
          unfold tabB at h1
          simp only [Bool.or_eq_false_iff, Bool.not_eq_false'] at h1
          exact of_decide_eq_true h1.2
        have hw := row_weight l hn
        rw [List.length_append, sumW_snoc] at ih
        simp only [List.length_cons, List.length_nil] at ih
        omega
    · cases h
theorem man_weight (l : List (List UInt8)) (h : (rdMan l).2 = false) : wManifest (rdMan l).1 ≤ sumL l := by
  have h1 := tabs_weight _ _ _ _ h
  have e0 := sumL_head l
  have e1 := sumL_head l.tail
  have e2 := sumL_head l.tail.tail
  have e3 := sumL_head l.tail.tail.tail
  show (rdTabs (l.length + 2) l.tail.tail.tail.tail (headB l) []).1.length + sumW wMeta (rdTabs (l.length + 2) l.tail.tail.tail.tail (headB l) []).1 ≤ _
  simp only [List.length_nil, sumW] at h1
  omega

/-! A right manifest's text is plain. -/
theorem hex_lt {s : ByteArray} {b : UInt8} (h : b ∈ hexT s) : b.toNat < 128 := by
  unfold hexT at h
  rw [List.mem_flatMap] at h
  obtain ⟨c, _, hc⟩ := h
  have h0 : ∀ i : Fin 16, (hexD i.val).toNat < 128 := by decide
  have hlt := c.toNat_lt
  unfold hexB at hc
  simp only [List.mem_cons, List.not_mem_nil, or_false] at hc
  rcases hc with rfl | rfl
  · exact h0 ⟨c.toNat / 16, by omega⟩
  · exact h0 ⟨c.toNat % 16, by omega⟩
theorem dec_lt {n : Int} {b : UInt8} (h : b ∈ decD n) : b.toNat < 128 := by have := decD_digs h; omega
theorem text_plain (m : MManifest) : ∀ b ∈ manTextL m, b.toNat < 128 := by
  have hc : ∀ (k : List UInt8), (∀ x, x ∈ k → x.toNat < 128) → ∀ b, b ∈ k → b.toNat < 128 := fun k h => h
  intro b hb
  simp only [manTextL, headT, linesT, lineT, List.mem_append, List.mem_flatMap] at hb
  have h1 : ∀ x, x ∈ nextW → x.toNat < 128 := by decide
  have h2 : ∀ x, x ∈ logW → x.toNat < 128 := by decide
  have h3 : ∀ x, x ∈ tabW → x.toNat < 128 := by decide
  have h4 : ∀ x, x ∈ endW → x.toNat < 128 := by decide
  have h5 : ∀ x : UInt8, x ∈ [(10 : UInt8)] → x.toNat < 128 := by decide
  have h6 : ∀ x : UInt8, x ∈ [(32 : UInt8)] → x.toNat < 128 := by decide
  rcases hb with ((((((h | h) | h) | h) | h) | ⟨t, _, h⟩) | h) | h
  · exact h1 b h
  · exact dec_lt h
  · exact h2 b h
  · exact dec_lt h
  · exact h5 b h
  · rcases h with ((((((((h | h) | h) | h) | h) | h) | h) | h) | h) | h
    · exact h3 b h
    · exact h6 b h
    · exact dec_lt h
    · exact h6 b h
    · exact dec_lt h
    · exact h6 b h
    · exact hex_lt h
    · exact h6 b h
    · exact hex_lt h
    · exact h5 b h
  · exact h4 b h
  · exact h5 b h
theorem read_right {m : MManifest} {s : ByteArray} (h : manOkP m = true) (hs : manTextP m = s) : rdMan (Lib.fieldsD s.data.toList) = (m, false) := by
  have e : s.data.toList = manTextL m := by rw [← hs, manTextP_yes h, strB_data]
  rw [e, Lib.fieldsD_ascii _ (text_plain m)]
  exact read_text h
/-- What the program answers, of what it has read. -/
theorem parse_bad {s : ByteArray} (h : (rdMan (Lib.fieldsD s.data.toList)).2 = true) : parseP s = (⟨0, 0, []⟩, false) := by
  refine parse_no fun m hm he => ?_
  rw [read_right hm he] at h
  cases h
theorem parse_other {s : ByteArray} (h : manTextP (rdMan (Lib.fieldsD s.data.toList)).1 ≠ s) : parseP s = (⟨0, 0, []⟩, false) := by
  refine parse_no fun m hm he => h ?_
  rw [read_right hm he]
  exact he
theorem parse_same {s : ByteArray} (hb : (rdMan (Lib.fieldsD s.data.toList)).2 = false) (h : manTextP (rdMan (Lib.fieldsD s.data.toList)).1 = s) : parseP s = ((rdMan (Lib.fieldsD s.data.toList)).1, true) := by
  by_cases hm : manOkP (rdMan (Lib.fieldsD s.data.toList)).1 = true
  · have := parse_yes hm
    rwa [h] at this
  · have h0 := manTextP_no (Bool.eq_false_iff.2 hm)
    rw [h] at h0
    subst h0
    cases hb

/-- What the library reads of its own: its tables and two errors, as they are laid. -/
structure PrsT (w : World) : Prop where
  sp : Lib.TabIs Tryz.prog w "strings.asciiSpace" .u8 Lib.asciiSpaceTab
  spl : layFields_ren.g 0 < w.heap.size
  wh : Lib.WhiteTab (layFields_ren.g 6) w
  er : Ers w
  pw : Pow w
theorem PrsT.below {w w' : World} (h : PrsT w) (hb : Below w.heap.size w w') : PrsT w' :=
  ⟨var?_below hb (by kernel_rfl) h.spl h.sp, Nat.lt_of_lt_of_le h.spl hb.size, WhiteTab_below h.wh hb, h.er.below hb, h.pw.below hb⟩
theorem PrsT.size {w : World} (h : PrsT w) : 0 < w.heap.size := Nat.lt_of_le_of_lt (Nat.zero_le _) h.spl

theorem fields_any (s : ByteArray) (w : World) (hs : s.size ≤ 1048576) (hT : PrsT w) :
    Calls Tryz.prog 21 #[.string s] w fun e w' => ∃ A, e = .returned (.slice (some ⟨A, 0, none⟩) (Lib.fieldsD s.data.toList).length (Lib.fieldsD s.data.toList).length) ∧ A < w'.heap.size ∧ Below w.heap.size w w' ∧
      ∀ (j : Nat) (x : List UInt8), (Lib.fieldsD s.data.toList)[j]? = some x → w'.cell? ⟨A, j, none⟩ = some (.string (strB x)) := by
  refine (Any.strings_Fields_any layFields (by kernel_rfl) (by kernel_rfl) (by kernel_rfl) s w (by omega) hT.sp hT.wh).mono ?_
  rintro e w1 ⟨A, rfl, hA, ho, hb⟩
  have hlt : A < w1.heap.size := by
    rcases ho.2 with ⟨hn, _⟩ | ⟨g, cap, cur, he, _, hg, _⟩
    · cases hn
    · injection he with he _ _; injection he with he; injection he with he; subst he; exact (Array.getElem?_eq_some_iff.1 hg).1
  refine ⟨A, rfl, hlt, hb, fun j x hx => ?_⟩
  have := ho.cells (g := A) rfl j (.string (strB x)) (by rw [List.getElem?_map, hx]; rfl)
  have e2 : ((⟨A, 0, none⟩ : Addr).add j) = ⟨A, j, none⟩ := (by simp [Addr.add]; exact fun h => h.symm)
  rwa [e2] at this

theorem rd_start {w : World} {A R : Nat} {l : List (List UInt8)} {n : Nat} (hl : ∀ x, x ∈ l → x.length ≤ n) (hn : n ≤ 1048576) (hb : Bw w A 54 [.slice (some ⟨R, 0, none⟩) l.length l.length, .bool false]) (hR : R < A)
    (hc : ∀ (j : Nat) (x : List UInt8), l[j]? = some x → w.cell? ⟨R, j, none⟩ = some (.string (strB x))) : WdR w A l false := by
  have hA := hb.lt
  refine ⟨_, _, hb, Nat.le_refl _, fun j x hx => ⟨Nat.le_trans (hl x (List.mem_of_getElem? hx)) hn, R, 0, rfl, hR, by omega, ?_⟩⟩
  rw [Nat.zero_add]
  exact hc j x hx

set_option maxHeartbeats 4000000 in
theorem implParseMan_c (s : ByteArray) (w : World) (hs : s.size ≤ 1048576) (hT : PrsT w) :
    Calls Tryz.prog 6 #[.string s] w fun e w' => ∃ (cs : List Value) (F : List Nat), e = .returned (.tuple #[.agg cs.toArray, .bool (parseP s).2]) ∧ oManifest w' cs (parseP s).1 F ∧ F.Nodup ∧ (∀ b, b ∈ F → w.heap.size ≤ b) ∧ Below w.heap.size w w' := by
  have HT := Hid.mk hT
  have HS := Hid.mk hs
  have hsl : s.data.toList.length ≤ 1048576 := by rw [size_list]; exact hs
  have HFL : Hid (∀ x, x ∈ Lib.fieldsD s.data.toList → x.length ≤ s.data.toList.length) := fun x hx => fields_len hx
  have HFC : Hid ((Lib.fieldsD s.data.toList).length ≤ 1048576) := Nat.le_trans (fields_count _) hsl
  have HFS : Hid (sumL (Lib.fieldsD s.data.toList) ≤ 1048576) := Nat.le_trans (fields_sum _) hsl
  have HSL := Hid.mk hsl
  have HPB : Hid ((rdMan (Lib.fieldsD s.data.toList)).2 = true → parseP s = (⟨0, 0, []⟩, false)) := fun h => parse_bad h
  have HPO : Hid (manTextP (rdMan (Lib.fieldsD s.data.toList)).1 ≠ s → parseP s = (⟨0, 0, []⟩, false)) := fun h => parse_other h
  have HPS : Hid ((rdMan (Lib.fieldsD s.data.toList)).2 = false → manTextP (rdMan (Lib.fieldsD s.data.toList)).1 = s → parseP s = ((rdMan (Lib.fieldsD s.data.toList)).1, true)) := fun h1 h2 => parse_same h1 h2
  have HMW : Hid ((rdMan (Lib.fieldsD s.data.toList)).2 = false → wManifest (rdMan (Lib.fieldsD s.data.toList)).1 ≤ sumL (Lib.fieldsD s.data.toList)) := fun h => man_weight _ h
  have hF := Hid.mk (fun W hW => fields_any s W hs hW)
  have hx1 : (Lit.int .i64 (rdMan (Lib.fieldsD s.data.toList)).1.fNext).wf = true := numbP_wf _
  have hx2 : (Lit.int .i64 (rdMan (Lib.fieldsD s.data.toList)).1.fLog).wf = true := numbP_wf _
  have HX := Hid.mk (And.intro hx1 hx2)
  have HMA := Hid.mk (fun A W h1 h2 h3 h4 h5 => manifest_any A (Lib.fieldsD s.data.toList) W h1 h2 h3 h4 h5 HFC.out)
  generalize Lib.fieldsD s.data.toList = l at *
  obtain ⟨m, hm⟩ : ∃ m, m = (rdMan l).1 := ⟨_, rfl⟩
  obtain ⟨bad, hbad⟩ : ∃ m, m = (rdMan l).2 := ⟨_, rfl⟩
  obtain ⟨PM, hPM⟩ : ∃ m, m = parseP s := ⟨_, rfl⟩
  rw [← hm, ← hbad] at HMA HPS HMW
  rw [← hm] at HPO HX
  rw [← hbad] at HPB
  rw [← hPM] at HPB HPO HPS ⊢
  clear hm hbad hPM hT hx1 hx2 hs hsl
  obtain ⟨w1, hw1⟩ : ∃ q, q = w.alloc (.cells #[.int .i64 0, .int .i64 0, .slice none 0 0] 24) := ⟨_, rfl⟩
  have hb1 : Below w.heap.size w w1 := by rw [hw1]; exact (Below.refl _ _).alloc (Nat.le_refl _) _
  have hr1 : Bw w1 w.heap.size 24 [.int .i64 0, .int .i64 0, .slice none 0 0] := by rw [hw1]; exact Bw.new _ _ _
  have HB1 := Hid.mk hb1
  have HR1 := Hid.mk hr1
  go_enter Tryz.func6, Tryz.ntmps6
  go_wp2_with (rw [← hw1])
  clear hw1 hb1 hr1
  refine (hF.out w1 (HT.out.below HB1.out)).mono ?_
  rintro e w2 ⟨R, rfl, hR2, hb2, hc2⟩
  have HR2 : Hid (Bw w2 w.heap.size 24 [.int .i64 0, .int .i64 0, .slice none 0 0]) := HR1.out.under hb2
  have HB2 : Hid (Below w.heap.size w w2) := bthen HB1.out hb2
  have HC2 := Hid.mk hc2
  have HRl := Hid.mk hR2
  clear hc2 hb2 HR1 HB1 hR2
  obtain ⟨w3, hw3⟩ : ∃ q, q = w2.alloc (.cells #[.slice (some ⟨R, 0, none⟩) l.length l.length, .bool false] 54) := ⟨_, rfl⟩
  obtain ⟨A, hA⟩ : ∃ q, q = w2.heap.size := ⟨_, rfl⟩
  have hbx : Bw w3 A 54 [.slice (some ⟨R, 0, none⟩) l.length l.length, .bool false] := by rw [hw3]; exact Bw.new' _ _ _ hA
  have hx3 : Below w2.heap.size w2 w3 := by rw [hw3]; exact (Below.refl _ _).alloc (Nat.le_refl _) _
  have hA3 : A < w3.heap.size := hbx.lt
  have hwA : w.heap.size ≤ A := by rw [hA]; exact HB2.out.size
  have hwr : w.heap.size < A := by rw [hA]; exact HR2.out.lt
  have HRd : Hid (WdR w3 A l false) := rd_start HFL.out HSL.out hbx (by have := HRl.out; omega) (fun j x hx => (hx3.cell (p := ⟨R, j, none⟩) HRl.out).trans (HC2.out j x hx))
  have HB3 : Hid (Below w.heap.size w w3) := bthen HB2.out hx3
  have HR3 : Hid (Bw w3 w.heap.size 24 [.int .i64 0, .int .i64 0, .slice none 0 0]) := HR2.out.under hx3
  have HA := Hid.mk (And.intro hwA (And.intro hwr hA3))
  clear hbx hx3 hA3 hwA hwr
  go_wp2_with (rw [← hw3, ← hA])
  clear hw3 hA HC2 HRl HB2 HR2 HFL
  refine (HMA.out A w3 HRd.out (HT.out.below HB3.out).er HA.out.2.2 (Nat.lt_of_lt_of_le HT.out.er.1.2 HA.out.1) (Nat.lt_of_lt_of_le HT.out.er.2.2 HA.out.1)).mono ?_
  rintro e w4 ⟨a, c, rfl, ⟨l', hrd⟩, ht4, F, ho4, hN4, hF4⟩
  obtain ⟨p', c', hb4, _, _⟩ := hrd
  obtain ⟨w5, hw5⟩ : ∃ q, q = w4.alloc (.cells #[.int .i64 m.fNext, .int .i64 m.fLog, .slice a m.fTables.length c] 24) := ⟨_, rfl⟩
  obtain ⟨M, hM⟩ : ∃ q, q = w4.heap.size := ⟨_, rfl⟩
  have hx5 : Below w4.heap.size w4 w5 := by rw [hw5]; exact (Below.refl _ _).alloc (Nat.le_refl _) _
  have hbm : Bw w5 M 24 [.int .i64 m.fNext, .int .i64 m.fLog, .slice a m.fTables.length c] := by rw [hw5]; exact Bw.new' _ _ _ hM
  have hb5 := hb4.under hx5
  have hr5 : Bw w5 w.heap.size 24 [.int .i64 0, .int .i64 0, .slice none 0 0] := (HR3.out.turn ht4 (by have := HA.out.2.1; simp; omega)).under hx5
  have ho5 := ownS.frame (w' := w5) oMeta_good ho4 (fun q hq => hx5.block q (ownS.lt oMeta_good ho4 q hq))
  have HB4 : Hid (Below w.heap.size w w4) := HB3.out.trans (ht4.below (fun k hk => by simp at hk; rw [hk]; exact HA.out.1) HB3.out.size)
  have hB5 : Below w.heap.size w w5 := bthen (HB3.out.trans (ht4.below (fun k hk => by simp at hk; rw [hk]; exact HA.out.1) HB3.out.size)) hx5
  have hF5 : ∀ q, q ∈ F → w.heap.size < q := fun q hq => by have h1 := hF4 q hq; have h2 := HA.out.2; omega
  have HM5 := Hid.mk hbm
  have HO5 := Hid.mk (And.intro ho5 (And.intro hN4 hF5))
  have HR5 := Hid.mk hr5
  have HB5 := Hid.mk hB5
  have b1 := hb4.cell 1 _ rfl
  have hlA := hb4.lt
  have hr4 : Bw w4 w.heap.size 24 [.int .i64 0, .int .i64 0, .slice none 0 0] := HR3.out.turn ht4 (by have := HA.out.2.1; simp; omega)
  have HW5 := Hid.mk hw5
  have HMq := Hid.mk hM
  clear hw5 hM hr5
  clear hb4 hx5 ho5 ho4 hN4 hF4 hF5 ht4 HRd HB3 HR3 HMA hB5 hbm hb5
  cases bad
  · have HRM : Hid (rManifest w5.heap.size w5 [.int .i64 m.fNext, .int .i64 m.fLog, .slice a m.fTables.length c] m) := ⟨a, c, rfl, HX.out.1, HX.out.2, ownS.leaf oMeta_good HO5.out.1, trivial⟩
    have HWM : Hid (wManifest m ≤ 1048576) := Nat.le_trans (HMW.out (by first | rfl | trivial)) HFS.out
    clear hr4
    go_wp2_with fail
    rw [← HW5.out]
    rw [← HMq.out]
    clear HW5 HMq b1 hlA
    refine (implManText_c _ m w5 HRM.out HWM.out (HT.out.below HB5.out).pw).mono ?_
    rintro e w6 ⟨rfl, hx6⟩
    have hm6 := HM5.out.under hx6
    have hr6 := HR5.out.under hx6
    have HB6 : Hid (Below w.heap.size w w6) := bthen HB5.out hx6
    have ho6 := ownS.frame (w' := w6) oMeta_good HO5.out.1 (fun q hq => hx6.block q (ownS.lt oMeta_good HO5.out.1 q hq))
    have HO6 := Hid.mk (And.intro ho6 HO5.out.2)
    have m0 := hm6.cell 0 _ rfl
    have m1 := hm6.cell 1 _ rfl
    have m2 := hm6.cell 2 _ rfl
    have r0 := hr6.cell 0 _ rfl
    have r1 := hr6.cell 1 _ rfl
    have r2 := hr6.cell 2 _ rfl
    have f0 := hr6.free 0
    have f1 := hr6.free 1
    have f2 := hr6.free 2
    have hlr := hr6.lt
    have HR6 := Hid.mk hr6
    clear hx6 hm6 hr6 ho6 HO5 HB5 HM5 HR5 HRM
    by_cases ht : manTextP m = s
    · have HPE := Hid.mk (HPS.out (by first | rfl | trivial) ht)
      have hkk := k_same ht
      generalize manTextP m = tx at hkk ⊢
      clear ht
      go_wp2_with fail
      have hT7 := turn3 w6 w.heap.size (.int .i64 m.fNext) (.int .i64 m.fLog) (.slice a m.fTables.length c)
      refine bodyPost_ret (v := .tuple #[.agg #[.int .i64 m.fNext, .int .i64 m.fLog, .slice a m.fTables.length c], .bool true]) (by simp [results, Tryz.results6, go_sem, *]) rfl ?_
      rw [HPE.out]
      exact ⟨[.int .i64 m.fNext, .int .i64 m.fLog, .slice a m.fTables.length c], F, rfl, ⟨_, F, rfl, HX.out.1, HX.out.2, ownS.frame oMeta_good HO6.out.1 (fun q hq => hT7.block q (ownS.lt oMeta_good HO6.out.1 q hq) (by have := HO6.out.2.2 q hq; simp; omega)), by simp⟩, HO6.out.2.1, fun b hb => Nat.le_of_lt (HO6.out.2.2 b hb), HB6.out.trans (hT7.below (fun k hk => by simp at hk; omega) HB6.out.size)⟩
    · have HPE := Hid.mk (HPO.out ht)
      have hkk := k_ne ht
      generalize manTextP m = tx at hkk ⊢
      clear ht
      go_wp2_with fail
      have hT7 := turn3 w6 w.heap.size (.int .i64 0) (.int .i64 0) (.slice none 0 0)
      refine bodyPost_ret (v := .tuple #[.agg #[.int .i64 0, .int .i64 0, .slice none 0 0], .bool false]) (by simp [results, Tryz.results6, go_sem, *]) rfl ?_
      rw [HPE.out]
      exact ⟨[.int .i64 0, .int .i64 0, .slice none 0 0], [], rfl, ⟨_, [], rfl, rfl, rfl, .inl ⟨rfl, rfl, rfl⟩, by simp⟩, by simp, (fun b hb => by cases hb), HB6.out.trans (hT7.below (fun k hk => by simp at hk; omega) HB6.out.size)⟩
  · have HPE := Hid.mk (HPB.out (by first | rfl | trivial))
    have r0 := hr4.cell 0 _ rfl
    have r1 := hr4.cell 1 _ rfl
    have r2 := hr4.cell 2 _ rfl
    have f0 := hr4.free 0
    have f1 := hr4.free 1
    have f2 := hr4.free 2
    have hlr := hr4.lt
    clear hr4
    go_wp2_with fail
    have hT7 := turn3 w4 w.heap.size (.int .i64 0) (.int .i64 0) (.slice none 0 0)
    refine bodyPost_ret (v := .tuple #[.agg #[.int .i64 0, .int .i64 0, .slice none 0 0], .bool false]) (by simp [results, Tryz.results6, go_sem, *]) rfl ?_
    rw [HPE.out]
    exact ⟨[.int .i64 0, .int .i64 0, .slice none 0 0], [], rfl, ⟨_, [], rfl, rfl, rfl, .inl ⟨rfl, rfl, rfl⟩, by simp⟩, by simp, (fun b hb => by cases hb), (HB4.out.trans (hT7.below (fun k hk => by simp at hk; omega) HB4.out.size)).alloc (Nat.le_trans HB4.out.size hT7.size) _⟩

end Go.Proofs.YtnohnkcijomdjaaGreatDoor

namespace Go.Proofs.YtnohnkcijomdjaaGreatDoor
open Go.RowKit

/-- A byte that a name may bear. -/
def nameByte (c : Int) : Bool := decide (97 ≤ c ∧ c ≤ 122 ∨ 48 ≤ c ∧ c ≤ 57 ∨ c = 45 ∨ c = 46)
def nameOk (s : ByteArray) : Bool := decide (1 ≤ s.size ∧ s.size ≤ 12) && (byteInts s).all nameByte

theorem nameOk_long {s : ByteArray} (h : ¬ (1 ≤ s.size ∧ s.size ≤ 12)) : nameOk s = false := by
  unfold nameOk
  rw [decide_eq_false h]
  rfl
theorem nameOk_bad {s : ByteArray} {k : Nat} (hk : k < (byteInts s).length) (h : nameByte (byteInts s)[k] = false) : nameOk s = false := by
  unfold nameOk
  rw [Bool.and_eq_false_iff]
  right
  rw [List.all_eq_false]
  exact ⟨_, List.getElem_mem hk, by simp [h]⟩
theorem nameOk_good {s : ByteArray} (h : 1 ≤ s.size ∧ s.size ≤ 12) (ha : ∀ k, (hk : k < (byteInts s).length) → nameByte (byteInts s)[k] = true) : nameOk s = true := by
  unfold nameOk
  rw [decide_eq_true h, Bool.true_and, List.all_eq_true]
  intro x hx
  obtain ⟨k, hk, rfl⟩ := List.mem_iff_getElem.1 hx
  exact ha k hk

/-- Is an id among the entries? -/
def named (l : List MEntry) (id : Int) : Bool := l.any fun e => decide (e.fId = id)

theorem named_yes {l : List MEntry} {id : Int} {k : Nat} (h : k < l.length) (he : l[k].fId = id) : named l id = true := by
  unfold named
  rw [List.any_eq_true]
  exact ⟨l[k], List.getElem_mem h, by simp [he]⟩

theorem named_no {l : List MEntry} {id : Int} (h : ∀ k, (hk : k < l.length) → l[k].fId ≠ id) : named l id = false := by
  unfold named
  rw [List.any_eq_false]
  intro e he
  obtain ⟨k, hk, rfl⟩ := List.mem_iff_getElem.1 he
  simp [h k hk]

/-- Where an inode stands; its list's length, where it doesn't. -/
def placeOf (l : List MInode) (id : Int) : Nat := l.findIdx fun n => decide (n.fId = id)

def hasId (l : List MInode) (id : Int) : Bool := l.any fun n => decide (n.fId = id)

def placeZ (l : List MInode) (id : Int) : Int := if hasId l id then (placeOf l id : Int) else -1

theorem hasId_yes {l : List MInode} {id : Int} {k : Nat} (h : k < l.length) (he : l[k].fId = id) : hasId l id = true := by
  unfold hasId
  rw [List.any_eq_true]
  exact ⟨l[k], List.getElem_mem h, by simp [he]⟩

theorem hasId_no {l : List MInode} {id : Int} (h : ∀ k, (hk : k < l.length) → l[k].fId ≠ id) : hasId l id = false := by
  unfold hasId
  rw [List.any_eq_false]
  intro e he
  obtain ⟨k, hk, rfl⟩ := List.mem_iff_getElem.1 he
  simp [h k hk]

theorem placeZ_at {l : List MInode} {id : Int} {k : Nat} (h : k < l.length) (he : l[k].fId = id) (hn : ∀ j, (hj : j < l.length) → j < k → l[j].fId ≠ id) : placeZ l id = k := by
  unfold placeZ
  rw [hasId_yes h he, if_pos rfl]
  have : placeOf l id = k := by
    unfold placeOf
    rw [List.findIdx_eq h]
    exact ⟨decide_eq_true he, fun j hj => by simp [hn j (by omega) hj]⟩
  rw [this]

theorem placeZ_no {l : List MInode} {id : Int} (hn : ∀ j, (hj : j < l.length) → l[j].fId ≠ id) : placeZ l id = -1 := by
  unfold placeZ
  rw [hasId_no hn]
  rfl

theorem placeZ_neg {l : List MInode} {id : Int} : placeZ l id < 0 ↔ hasId l id = false := by
  unfold placeZ
  cases hasId l id
  · simp
  · simp

def strLt (a b : ByteArray) : Bool := Op.bytesLess a.toList b.toList

def stepI (next prev : Int) (n : MInode) : Bool := decide (prev < n.fId ∧ n.fId < next ∧ 0 ≤ n.fSure ∧ n.fSure ≤ n.fData.length)
def okI (next : Int) : Int → List MInode → Bool
  | _, [] => true
  | prev, n :: r => stepI next prev n && okI next n.fId r

def stepE (l : List MInode) (seen : List Int) (prev : ByteArray) (e : MEntry) : Bool := hasId l e.fId && !seen.contains e.fId && strLt prev e.fName && nameOk e.fName
def okE (l : List MInode) : List Int → ByteArray → List MEntry → Bool
  | _, _, [] => true
  | seen, prev, e :: r => stepE l seen prev e && okE l (seen ++ [e.fId]) e.fName r

def isNamed (d : MDisk) (n : MInode) : Bool := named d.fNames n.fId || named d.fSafe n.fId

/-- A disk that is as the document has it. -/
def diskOk (d : MDisk) : Bool :=
  decide (1 ≤ d.fNext ∧ d.fNext ≤ 1000000) && okI d.fNext 0 d.fInodes && decide (sumW wInode d.fInodes ≤ 60000) &&
    decide (d.fNames.length ≤ 30) && okE d.fInodes [] ByteArray.empty d.fNames && decide (d.fSafe.length ≤ 30) && okE d.fInodes [] ByteArray.empty d.fSafe && d.fInodes.all (isNamed d)

/-- The inodes that a list names. -/
def keepI (d : MDisk) : List MInode := d.fInodes.filter (isNamed d)

/-- What stands ahead of place k. -/
def prevId (l : List MInode) (k : Nat) : Int := match k with | 0 => 0 | k + 1 => (l[k]?.map (·.fId)).getD 0
def prevName (l : List MEntry) (k : Nat) : ByteArray := match k with | 0 => ByteArray.empty | k + 1 => (l[k]?.map (·.fName)).getD ByteArray.empty
def idsTo (l : List MEntry) (k : Nat) : List Int := (l.take k).map (·.fId)

theorem prevId_succ {l : List MInode} {k : Nat} (h : k < l.length) : prevId l (k + 1) = l[k].fId := by simp [prevId, h]
theorem prevName_succ {l : List MEntry} {k : Nat} (h : k < l.length) : prevName l (k + 1) = l[k].fName := by simp [prevName, h]
theorem idsTo_succ {l : List MEntry} {k : Nat} (h : k < l.length) : idsTo l (k + 1) = idsTo l k ++ [l[k].fId] := by
  unfold idsTo
  rw [List.take_succ_eq_append_getElem h, List.map_append]
  rfl

theorem okI_step {next : Int} {l : List MInode} {k : Nat} (h : k < l.length) : okI next (prevId l k) (l.drop k) = (stepI next (prevId l k) l[k] && okI next (prevId l (k + 1)) (l.drop (k + 1))) := by
  rw [List.drop_eq_getElem_cons h, okI, prevId_succ h]
theorem okE_step {ins : List MInode} {l : List MEntry} {k : Nat} (h : k < l.length) : okE ins (idsTo l k) (prevName l k) (l.drop k) = (stepE ins (idsTo l k) (prevName l k) l[k] && okE ins (idsTo l (k + 1)) (prevName l (k + 1)) (l.drop (k + 1))) := by
  rw [List.drop_eq_getElem_cons h, okE, prevName_succ h, idsTo_succ h]

/-- No more of pairwise different ones than there are places for them. -/
theorem nodup_fit {l m : List Int} (h : l.Nodup) (hs : ∀ x, x ∈ l → x ∈ m) : l.length ≤ m.length := by
  induction l generalizing m with
  | nil => simp
  | cons x r ih =>
    have hn := List.nodup_cons.1 h
    have hx := hs x (by simp)
    have h1 := ih hn.2 (m := m.erase x) (fun y hy => (List.mem_erase_of_ne (fun (e : y = x) => hn.1 (by rw [← e]; exact hy))).2 (hs y (by simp [hy])))
    have h2 := List.length_erase_of_mem hx
    have h3 : 0 < m.length := List.length_pos_of_mem hx
    simp only [List.length_cons]
    omega

theorem okI_lower {next : Int} {l : List MInode} : ∀ {prev : Int}, okI next prev l = true → ∀ n, n ∈ l → prev < n.fId := by
  induction l with
  | nil => intro prev _ n hn; cases hn
  | cons x r ih =>
    intro prev h n hn
    rw [okI, Bool.and_eq_true] at h
    have hx : prev < x.fId := by have := of_decide_eq_true h.1; omega
    rcases List.mem_cons.1 hn with rfl | hn
    · exact hx
    · have := ih h.2 n hn; omega

theorem okI_nodup {next : Int} {l : List MInode} : ∀ {prev : Int}, okI next prev l = true → (l.map (·.fId)).Nodup := by
  induction l with
  | nil => intro _ _; simp
  | cons x r ih =>
    intro prev h
    rw [okI, Bool.and_eq_true] at h
    rw [List.map_cons, List.nodup_cons]
    refine ⟨fun hm => ?_, ih h.2⟩
    obtain ⟨y, hy, he⟩ := List.mem_map.1 hm
    have := okI_lower h.2 y hy
    omega

theorem named_mem {l : List MEntry} {id : Int} (h : named l id = true) : id ∈ l.map (·.fId) := by
  unfold named at h
  rw [List.any_eq_true] at h
  obtain ⟨e, he, h2⟩ := h
  exact List.mem_map.2 ⟨e, he, of_decide_eq_true h2⟩

/-- At most as many inodes as both lists name. -/
theorem named_fit {d : MDisk} {prev : Int} (h1 : okI d.fNext prev d.fInodes = true) (h2 : d.fInodes.all (isNamed d) = true) : d.fInodes.length ≤ d.fNames.length + d.fSafe.length := by
  have h3 := nodup_fit (okI_nodup h1) (m := d.fNames.map (·.fId) ++ d.fSafe.map (·.fId)) (by
    intro x hx
    obtain ⟨n, hn, rfl⟩ := List.mem_map.1 hx
    have h4 := List.all_eq_true.1 h2 n hn
    unfold isNamed at h4
    rw [Bool.or_eq_true] at h4
    rw [List.mem_append]
    exact h4.imp named_mem named_mem)
  simpa using h3

theorem bl_asymm : ∀ {x y : List UInt8}, Op.bytesLess x y = true → Op.bytesLess y x = false
  | _, [], h => by simp [Op.bytesLess] at h
  | [], _ :: _, _ => by simp [Op.bytesLess]
  | a :: x, b :: y, h => by
    simp only [Op.bytesLess, Bool.or_eq_true, Bool.and_eq_true, decide_eq_true_eq, beq_iff_eq, Bool.or_eq_false_iff, Bool.and_eq_false_iff, decide_eq_false_iff_not, beq_eq_false_iff_ne] at h ⊢
    rcases h with h | ⟨rfl, h⟩
    · exact ⟨fun h2 => absurd (UInt8.lt_trans h h2) (UInt8.lt_irrefl _), .inl (fun e => by subst e; exact UInt8.lt_irrefl _ h)⟩
    · exact ⟨UInt8.lt_irrefl _, .inr (bl_asymm h)⟩
theorem bl_irrefl (x : List UInt8) : Op.bytesLess x x = false := by
  cases h : Op.bytesLess x x with
  | false => rfl
  | true => have := bl_asymm h; rw [h] at this; cases this
theorem bl_total : ∀ {x y : List UInt8}, Op.bytesLess x y = false → x ≠ y → Op.bytesLess y x = true
  | [], [], _, hn => absurd rfl hn
  | _ :: _, [], _, _ => by simp [Op.bytesLess]
  | [], _ :: _, h, _ => by simp [Op.bytesLess] at h
  | a :: x, b :: y, h, hn => by
    simp only [Op.bytesLess, Bool.or_eq_true, Bool.and_eq_true, decide_eq_true_eq, beq_iff_eq, Bool.or_eq_false_iff, Bool.and_eq_false_iff, decide_eq_false_iff_not, beq_eq_false_iff_ne] at h ⊢
    by_cases hab : a = b
    · subst hab
      right
      refine ⟨rfl, bl_total ?_ (fun e => hn (by rw [e]))⟩
      rcases h.2 with h2 | h2
      · exact absurd rfl h2
      · exact h2
    · left
      rcases UInt8.lt_or_lt_of_ne hab with h1 | h1
      · exact absurd h1 h.1
      · exact h1
theorem strLt_facts {a b : ByteArray} (h : strLt a b = true) : Op.bytesLess a.toList b.toList = true ∧ Op.bytesLess b.toList a.toList = false ∧ (b.toList == a.toList) = false := by
  refine ⟨h, bl_asymm h, ?_⟩
  rw [beq_eq_false_iff_ne]
  intro e
  have h2 : Op.bytesLess a.toList b.toList = true := h
  rw [e, bl_irrefl] at h2
  cases h2
theorem strLt_not {a b : ByteArray} (h : strLt a b = false) : Op.bytesLess b.toList a.toList = true ∨ (b.toList == a.toList) = true := by
  by_cases e : a.toList = b.toList
  · right; rw [beq_iff_eq]; exact e.symm
  · left; exact bl_total h e

theorem toList_length' (s : ByteArray) : s.toList.length = s.size := by
  rw [ByteArray.toList_eq]
  simp

theorem empty_lt {s : ByteArray} (h : 1 ≤ s.size) : strLt ByteArray.empty s = true := by
  unfold strLt
  have hl : 1 ≤ s.toList.length := by rw [toList_length']; exact h
  match hs : s.toList, hl with
  | x :: r, _ =>
    rw [show ByteArray.empty.toList = [] from by rw [ByteArray.toList_eq]; rfl]
    rfl

theorem nameOk_pos {s : ByteArray} (h : nameOk s = true) : 1 ≤ s.size := by
  unfold nameOk at h
  rw [Bool.and_eq_true] at h
  exact (of_decide_eq_true h.1).1

theorem in_ids {l : List MEntry} {k j : Nat} {id : Int} (hj : j < l.length) (hjk : j < k) (he : l[j].fId = id) : (idsTo l k).contains id = true := by
  unfold idsTo
  rw [List.contains_iff_mem]
  refine List.mem_map.2 ⟨l[j], ?_, he⟩
  rw [List.mem_iff_getElem]
  exact ⟨j, by simp; omega, by simp⟩

theorem notin_ids {l : List MEntry} {k : Nat} {id : Int} (h : ∀ j, (hj : j < l.length) → j < k → l[j].fId ≠ id) : (idsTo l k).contains id = false := by
  unfold idsTo
  rw [Bool.eq_false_iff]
  intro hc
  rw [List.contains_iff_mem] at hc
  obtain ⟨e, he, hi⟩ := List.mem_map.1 hc
  obtain ⟨j, hj, rfl⟩ := List.mem_iff_getElem.1 he
  simp at hj
  rw [List.getElem_take] at hi
  exact h j (by omega) (by omega) hi


set_option maxHeartbeats 800000 in
theorem implNameOk_any (s : ByteArray) (w : World) (hs : s.size ≤ 9223372036854775807) :
    Calls Tryz.prog 99 #[.string s] w fun e w' => e = .returned (.bool (nameOk s)) ∧ Below w.heap.size w w' := by
  by_cases hr : 1 ≤ s.size ∧ s.size ≤ 12
  · have HR := Hid.mk hr
    obtain ⟨hr1, hr2⟩ := hr
    obtain ⟨w1, cap, hcv, hb1, hz1, hcl⟩ := strBytes s w
    have hg1 : (1 : Int) ≤ (s.size : Int) := by omega
    have hg2 : (s.size : Int) ≤ 12 := by omega
    go_enter Tryz.func99, Tryz.ntmps99
    go_wp2_with fail
    go_loop [16] (fun i => ∃ k : Nat, k ≤ s.size ∧ i = .int .i64 k ∧ ∀ j, (hj : j < (byteInts s).length) → j < k → nameByte (byteInts s)[j] = true) (fun i => s.size - (intOf i).toNat)
    case atStart => exact ⟨0, Nat.zero_le _, rfl, fun j _ hj => by omega⟩
    case round =>
      obtain ⟨k, hk, rfl, hno⟩ := hrel
      have HNo := Hid.mk hno
      clear hno
      by_cases hlt : k < s.size
      · have hcl' : k < (byteInts s).length := by rw [byteInts_length]; exact hlt
        have hck := hcl k hcl'
        have HNX : Hid (nameByte (byteInts s)[k] = true → ∀ j, (hj : j < (byteInts s).length) → j < k + 1 → nameByte (byteInts s)[j] = true) := fun hb j hj hjk => by
          by_cases hjk' : j = k
          · subst hjk'; exact hb
          · exact HNo.out j hj (by omega)
        have HBX : Hid (nameByte (byteInts s)[k] = false → nameOk s = false) := fun hb => nameOk_bad hcl' hb
        clear HNo hcl
        generalize (byteInts s)[k] = c at *
        by_cases g1 : 122 < c
        · have HB : Hid (nameByte c = false) := decide_eq_false (by omega)
          have p0 : (97 ≤ c) = True := eq_true (by omega)
          have p1 : (c ≤ 122) = False := eq_false (by omega)
          have p2 : (48 ≤ c) = True := eq_true (by omega)
          have p3 : (c ≤ 57) = False := eq_false (by omega)
          have p4 : (c = 45) = False := eq_false (by omega)
          have p5 : (c = 46) = False := eq_false (by omega)
          have g7 : (c == 45) = false := beq_eq_false_iff_ne.2 (by omega)
          have g8 : (c == 46) = false := beq_eq_false_iff_ne.2 (by omega)
          clear g1
          go_wp2_with fail
          go_ret
          exact ⟨by rw [HBX.out HB.out]; rfl, hb1⟩
        · by_cases g2 : 97 ≤ c
          · have HB : Hid (nameByte c = true) := decide_eq_true (by omega)
            have p0 : (97 ≤ c) = True := eq_true (by omega)
            have p1 : (c ≤ 122) = True := eq_true (by omega)
            have p2 : (48 ≤ c) = True := eq_true (by omega)
            have p3 : (c ≤ 57) = False := eq_false (by omega)
            have p4 : (c = 45) = False := eq_false (by omega)
            have p5 : (c = 46) = False := eq_false (by omega)
            have g7 : (c == 45) = false := beq_eq_false_iff_ne.2 (by omega)
            have g8 : (c == 46) = false := beq_eq_false_iff_ne.2 (by omega)
            clear g1 g2
            go_wp2_with fail
            go_round
            case rel => exact ⟨k + 1, by omega, by go_num, HNX.out HB.out⟩
            case measure => simp [intOf]; omega
          · by_cases g3 : 57 < c
            · have HB : Hid (nameByte c = false) := decide_eq_false (by omega)
              have p0 : (97 ≤ c) = False := eq_false (by omega)
              have p1 : (c ≤ 122) = True := eq_true (by omega)
              have p2 : (48 ≤ c) = True := eq_true (by omega)
              have p3 : (c ≤ 57) = False := eq_false (by omega)
              have p4 : (c = 45) = False := eq_false (by omega)
              have p5 : (c = 46) = False := eq_false (by omega)
              have g7 : (c == 45) = false := beq_eq_false_iff_ne.2 (by omega)
              have g8 : (c == 46) = false := beq_eq_false_iff_ne.2 (by omega)
              clear g1 g2 g3
              go_wp2_with fail
              go_ret
              exact ⟨by rw [HBX.out HB.out]; rfl, hb1⟩
            · by_cases g4 : 48 ≤ c
              · have HB : Hid (nameByte c = true) := decide_eq_true (by omega)
                have p0 : (97 ≤ c) = False := eq_false (by omega)
                have p1 : (c ≤ 122) = True := eq_true (by omega)
                have p2 : (48 ≤ c) = True := eq_true (by omega)
                have p3 : (c ≤ 57) = True := eq_true (by omega)
                have p4 : (c = 45) = False := eq_false (by omega)
                have p5 : (c = 46) = False := eq_false (by omega)
                have g7 : (c == 45) = false := beq_eq_false_iff_ne.2 (by omega)
                have g8 : (c == 46) = false := beq_eq_false_iff_ne.2 (by omega)
                clear g1 g2 g3 g4
                go_wp2_with fail
                go_round
                case rel => exact ⟨k + 1, by omega, by go_num, HNX.out HB.out⟩
                case measure => simp [intOf]; omega
              · by_cases g5 : c = 45
                · have HB : Hid (nameByte c = true) := decide_eq_true (by omega)
                  subst g5
                  clear g1 g2 g3 g4
                  go_wp2_with fail
                  go_round
                  case rel => exact ⟨k + 1, by omega, by go_num, HNX.out HB.out⟩
                  case measure => simp [intOf]; omega
                · by_cases g6 : c = 46
                  · have HB : Hid (nameByte c = true) := decide_eq_true (by omega)
                    subst g6
                    clear g1 g2 g3 g4 g5
                    go_wp2_with fail
                    go_round
                    case rel => exact ⟨k + 1, by omega, by go_num, HNX.out HB.out⟩
                    case measure => simp [intOf]; omega
                  · have HB : Hid (nameByte c = false) := decide_eq_false (by omega)
                    have p0 : (97 ≤ c) = False := eq_false (by omega)
                    have p1 : (c ≤ 122) = True := eq_true (by omega)
                    have p2 : (48 ≤ c) = False := eq_false (by omega)
                    have p3 : (c ≤ 57) = True := eq_true (by omega)
                    have p4 : (c = 45) = False := eq_false (by omega)
                    have p5 : (c = 46) = False := eq_false (by omega)
                    have g7 : (c == 45) = false := beq_eq_false_iff_ne.2 (by omega)
                    have g8 : (c == 46) = false := beq_eq_false_iff_ne.2 (by omega)
                    have g7 : (c == 45) = false := by simp [g5]
                    have g8 : (c == 46) = false := by simp [g6]
                    clear g1 g2 g3 g4 g5 g6
                    go_wp2_with fail
                    go_ret
                    exact ⟨by rw [HBX.out HB.out]; rfl, hb1⟩
      · have HV := Hid.mk (nameOk_good HR.out (fun j hj => HNo.out j hj (by have := byteInts_length s; omega)))
        clear hcl
        go_wp2_with fail
        go_ret
        exact ⟨by rw [HV.out]; rfl, hb1⟩
  · have HV := Hid.mk (nameOk_long hr)
    by_cases h1 : s.size < 1
    · have h1' : (s.size : Int) < 1 := by omega
      go_enter Tryz.func99, Tryz.ntmps99
      go_wp2_with fail
      go_ret
      exact ⟨by rw [HV.out]; rfl, Below.refl _ _⟩
    · have h1' : (12 : Int) < (s.size : Int) := by omega
      have h2' : ¬ (s.size : Int) < 1 := by omega
      go_enter Tryz.func99, Tryz.ntmps99
      go_wp2_with fail
      go_ret
      exact ⟨by rw [HV.out]; rfl, Below.refl _ _⟩

set_option maxHeartbeats 1000000 in
theorem inodesOk_any (a : Option Addr) (cap : Nat) (l : List MInode) (nx : Int) (w : World) (hl : LeafL 3 rInode w.heap.size w a cap l) (hw : l.length + sumW wInode l ≤ 16777216) (hn : -9223372036854775808 ≤ nx ∧ nx ≤ 9223372036854775807) :
    Calls Tryz.prog 117 #[.slice a l.length cap, .int .i64 nx] w fun e w' => e = .returned (.bool (okI nx 0 l && decide (sumW wInode l ≤ 60000))) ∧ Below w.heap.size w w' := by
  have HI := Hid.mk hl.2.2
  clear hl
  obtain ⟨hn1, hn2⟩ := hn
  go_enter Tryz.func117, Tryz.ntmps117
  go_wp2_with fail
  go_loopw [5, 6, 11] (fun lv sv i wr => ∃ k sz : Nat, k ≤ l.length ∧ lv = .int .i64 (prevId l k) ∧ i = .int .i64 k ∧ sv = .int .i64 sz ∧ sz = sumW wInode (l.take k) ∧ sz ≤ 60000 ∧ okI nx 0 l = okI nx (prevId l k) (l.drop k) ∧ Below w.heap.size w wr) (fun _ _ i _ => l.length - (intOf i).toNat)
  case atStart => exact ⟨0, 0, Nat.zero_le _, rfl, rfl, rfl, rfl, by omega, rfl, Below.refl _ _⟩
  case round =>
    obtain ⟨k, sz, hk, rfl, rfl, rfl, hsz, hszb, hinv, hbk⟩ := hrel
    have HSZ := Hid.mk hsz
    have HINV := Hid.mk hinv
    clear hsz hinv
    by_cases hlt : k < l.length
    · obtain ⟨b1, o1, rfl, hB, cs, hcl, hcell, hrI⟩ := (HI.out.below rInode_good hbk) k hlt
      have hwk := sumW_le (f := wInode) hlt
      have hws := sumW_take_succ (f := wInode) hlt
      have hwl := sumW_take_le wInode l (k + 1)
      have HST := Hid.mk (okI_step (next := nx) hlt)
      have HPS := Hid.mk (prevId_succ hlt)
      obtain ⟨n, hn⟩ : ∃ n, l[k] = n := ⟨_, rfl⟩
      rw [hn] at hrI hwk hws
      have HNd : Hid (l[k] = n) := hn
      clear hn
      obtain ⟨ad, cd, rfl, hid, hda, hsu, _⟩ := hrI
      have k0 := hcell 0 _ rfl
      have k1 := hcell 1 _ rfl
      have k2 := hcell 2 _ rfl
      rw [Nat.add_zero] at k0
      have HD : Hid (wInode n = n.fData.length) := rfl
      rw [HD.out] at hwk hws
      have hdl : n.fData.length ≤ 16777216 := by omega
      have HWS : Hid (sz + n.fData.length = sumW wInode (l.take (k + 1))) := by show _ = _; rw [HSZ.out, hws]
      have HBIG : Hid (60000 < sz + n.fData.length → (okI nx 0 l && decide (sumW wInode l ≤ 60000)) = false) := by
        intro h
        rw [Bool.and_eq_false_iff]
        right
        exact decide_eq_false (by have := HSZ.out; omega)
      have HFAIL : Hid (stepI nx (prevId l k) n = false → (okI nx 0 l && decide (sumW wInode l ≤ 60000)) = false) := by
        intro h
        rw [HINV.out, HST.out, HNd.out, h]
        rfl
      have HGO : Hid (stepI nx (prevId l k) n = true → okI nx 0 l = okI nx (prevId l (k + 1)) (l.drop (k + 1))) := by
        intro h
        rw [HINV.out, HST.out, HNd.out, h, Bool.true_and]
      have HPI : Hid (prevId l (k + 1) = n.fId) := by show _ = _; rw [HPS.out, HNd.out]
      have hib : -9223372036854775808 ≤ n.fId ∧ n.fId ≤ 9223372036854775807 := by simpa [Lit.wf, IntKind.min, IntKind.max, IntKind.signed, IntKind.bits] using hid
      have hsb : -9223372036854775808 ≤ n.fSure ∧ n.fSure ≤ 9223372036854775807 := by simpa [Lit.wf, IntKind.min, IntKind.max, IntKind.signed, IntKind.bits] using hsu
      obtain ⟨hib1, hib2⟩ := hib
      obtain ⟨hsb1, hsb2⟩ := hsb
      clear hcell hcl hda hws hwl hwk hid hsu HST HPS HNd HINV
      generalize prevId l k = lst at *
      by_cases g0 : n.fId ≤ lst
      · have p0 : (n.fId ≤ lst) = True := eq_true g0
        have HV : Hid ((okI nx 0 l && decide (sumW wInode l ≤ 60000)) = false) := HFAIL.out (decide_eq_false (by omega))
        clear g0 HFAIL HBIG HGO
        go_wp2_with fail
        go_ret
        exact ⟨by rw [HV.out]; rfl, hbk.alloc hbk.size _⟩
      · have p0 : (n.fId ≤ lst) = False := eq_false g0
        by_cases g1 : nx ≤ n.fId
        · have p1 : (nx ≤ n.fId) = True := eq_true g1
          have HV : Hid ((okI nx 0 l && decide (sumW wInode l ≤ 60000)) = false) := HFAIL.out (decide_eq_false (by omega))
          clear g1 HFAIL HBIG HGO
          go_wp2_with fail
          go_ret
          exact ⟨by rw [HV.out]; rfl, hbk.alloc hbk.size _⟩
        · have p1 : (nx ≤ n.fId) = False := eq_false g1
          by_cases g2 : n.fSure < 0
          · have p2 : (n.fSure < 0) = True := eq_true g2
            have HV : Hid ((okI nx 0 l && decide (sumW wInode l ≤ 60000)) = false) := HFAIL.out (decide_eq_false (by omega))
            clear g2 HFAIL HBIG HGO
            go_wp2_with fail
            go_ret
            exact ⟨by rw [HV.out]; rfl, hbk.alloc hbk.size _⟩
          · have p2 : (n.fSure < 0) = False := eq_false g2
            by_cases g3 : (n.fData.length : Int) < n.fSure
            · have p3 : ((n.fData.length : Int) < n.fSure) = True := eq_true g3
              have HV : Hid ((okI nx 0 l && decide (sumW wInode l ≤ 60000)) = false) := HFAIL.out (decide_eq_false (by omega))
              clear g3 HFAIL HBIG HGO
              go_wp2_with fail
              go_ret
              exact ⟨by rw [HV.out]; rfl, hbk.alloc hbk.size _⟩
            · have p3 : ((n.fData.length : Int) < n.fSure) = False := eq_false g3
              by_cases g4 : (60000 : Int) < (sz : Int) + n.fData.length
              · have p4 : ((60000 : Int) < (sz : Int) + n.fData.length) = True := eq_true g4
                have HV : Hid ((okI nx 0 l && decide (sumW wInode l ≤ 60000)) = false) := HBIG.out (by omega)
                clear g4 HFAIL HBIG HGO
                go_wp2_with fail
                go_ret
                exact ⟨by rw [HV.out]; rfl, hbk.alloc hbk.size _⟩
              · have p4 : ((60000 : Int) < (sz : Int) + n.fData.length) = False := eq_false g4
                have HGo := Hid.mk (HGO.out (decide_eq_true (by omega)))
                have hsz2 : sz + n.fData.length ≤ 60000 := by omega
                clear g0 g1 g2 g3 g4 HFAIL HBIG HGO
                go_wp2_with fail
                go_roundw
                case rel => exact ⟨k + 1, sz + n.fData.length, by omega, by rw [HPI.out], by go_num, by go_num, by rw [HWS.out], hsz2, HGo.out, hbk.alloc hbk.size _⟩
                case measure => simp [intOf]; omega
    · have hkn : k = l.length := by omega
      subst hkn
      have HV : Hid ((okI nx 0 l && decide (sumW wInode l ≤ 60000)) = true) := by
        show _ = true
        have h1 := HSZ.out
        rw [List.take_length] at h1
        rw [HINV.out, List.drop_length, decide_eq_true (by omega)]
        rfl
      go_wp2_with fail
      go_ret
      exact ⟨by rw [HV.out]; rfl, hbk⟩


def cmpI (x y : Int) : Int := if x < y then -1 else if y < x then 1 else 0
theorem cmpI_lt {x y : Int} (h : x < y) : cmpI x y = -1 := if_pos h
theorem cmpI_gt {x y : Int} (h : y < x) : cmpI x y = 1 := by unfold cmpI; rw [if_neg (by omega), if_pos h]
theorem cmpI_eq {x y : Int} (h : x = y) : cmpI x y = 0 := by unfold cmpI; rw [if_neg (by omega), if_neg (by omega)]

set_option maxHeartbeats 400000 in
theorem cmpInt_any (x y : Int) (w : World) :
    Calls Tryz.prog 103 #[.int .i64 x, .int .i64 y] w fun e w' => e = .returned (.int .i64 (cmpI x y)) ∧ w' = w := by
  by_cases h1 : x < y
  · have HV := Hid.mk (cmpI_lt h1)
    go_enter Tryz.func103, Tryz.ntmps103
    go_wp2
    go_ret
    exact ⟨by rw [HV.out]; rfl, rfl⟩
  · by_cases h2 : y < x
    · have HV := Hid.mk (cmpI_gt h2)
      go_enter Tryz.func103, Tryz.ntmps103
      go_wp2
      go_ret
      exact ⟨by rw [HV.out]; rfl, rfl⟩
    · have HV := Hid.mk (cmpI_eq (x := x) (y := y) (by omega))
      go_enter Tryz.func103, Tryz.ntmps103
      go_wp2
      go_ret
      exact ⟨by rw [HV.out]; rfl, rfl⟩

set_option maxHeartbeats 400000 in
theorem inodeCmp_any (i s : Int) (v : Value) (id : Int) (w : World) :
    Calls Tryz.prog 102 #[.agg #[.int .i64 i, v, .int .i64 s], .int .i64 id] w fun e w' => e = .returned (.int .i64 (cmpI i id)) ∧ Below w.heap.size w w' := by
  go_enter Tryz.func102, Tryz.ntmps102
  go_wp2_with (go_at_call 103; refine (cmpInt_any _ _ _).mono ?_; rintro e w' ⟨rfl, rfl⟩)
  go_ret
  exact ⟨rfl, (Below.refl _ _).alloc (Nat.le_refl _) _⟩

theorem okI_sorted {nx : Int} {l : List MInode} : ∀ {prev : Int}, okI nx prev l = true → l.Pairwise fun x y => x.fId < y.fId := by
  induction l with
  | nil => intro _ _; exact List.Pairwise.nil
  | cons x r ih =>
    intro prev h
    rw [okI, Bool.and_eq_true] at h
    exact List.Pairwise.cons (fun y hy => okI_lower h.2 y hy) (ih h.2)

theorem sorted_at {l : List MInode} (h : l.Pairwise fun x y => x.fId < y.fId) {i j : Nat} (hj : j < l.length) (hij : i < j) : (l[i]'(by omega)).fId < l[j].fId :=
  List.pairwise_iff_getElem.1 h i j (by omega) hj hij

set_option maxHeartbeats 1000000 in
theorem inodeSearch_any (a : Option Addr) (n cap : Nat) (l : List MInode) (id : Int) (w : World) (hx : l.length = n) (hl : LeafL 3 rInode w.heap.size w a cap l) (hw : n ≤ 16777216) (hs : l.Pairwise fun x y => x.fId < y.fId) :
    Calls Tryz.prog 101 #[.slice a n cap, .int .i64 id, .func (.func 102) #[] #[]] w fun e w' => ∃ p : Nat, e = .returned (.tuple #[.int .i64 p, .bool (hasId l id)]) ∧ (hasId l id = true → ∃ h : p < l.length, l[p].fId = id) ∧ Below w.heap.size w w' := by
  have HI := Hid.mk hl.2.2
  have HS := Hid.mk hs
  have HX := Hid.mk hx
  clear hl hs hx
  go_enter Tryz.func101, Tryz.ntmps101
  go_wp2_with fail
  go_loopw [9, 10] (fun iv jv wr => ∃ i j : Nat, i ≤ j ∧ j ≤ n ∧ iv = .int .i64 i ∧ jv = .int .i64 j ∧ (∀ x, (hx : x < l.length) → x < i → l[x].fId < id) ∧ (∀ x, (hx : x < l.length) → j ≤ x → id ≤ l[x].fId) ∧ Below w.heap.size w wr) (fun iv jv _ => (intOf jv).toNat - (intOf iv).toNat)
  case atStart => exact ⟨0, n, Nat.zero_le _, Nat.le_refl _, rfl, rfl, fun x _ h => by omega, fun x h1 h2 => by have := HX.out; omega, Below.refl _ _⟩
  case round =>
    obtain ⟨i, j, hij, hjn, rfl, rfl, hlo, hhi, hbk⟩ := hrel
    have HLo := Hid.mk hlo
    have HHi := Hid.mk hhi
    clear hlo hhi
    by_cases hlt : i < j
    · obtain ⟨mid, hmid⟩ : ∃ mid : Nat, mid = (i + j) / 2 := ⟨_, rfl⟩
      have hm1 : i ≤ mid := by omega
      have hm2 : mid < j := by omega
      have hml : mid < l.length := by rw [HX.out]; omega
      obtain ⟨b1, o1, rfl, hB, cs, hcl, hcell, hrI⟩ := (HI.out.below rInode_good hbk) mid hml
      obtain ⟨nd, hnd⟩ : ∃ nd, l[mid] = nd := ⟨_, rfl⟩
      have HNd := Hid.mk hnd
      rw [hnd] at hrI
      obtain ⟨ad, cd, rfl, _⟩ := hrI
      have k0 := hcell 0 _ rfl
      have k1 := hcell 1 _ rfl
      have k2 := hcell 2 _ rfl
      rw [Nat.add_zero] at k0
      clear hcell hcl hnd
      have hu1 : ((i : Int) + (j : Int)) / 2 = (mid : Int) := by omega
      clear hmid
      have HSm := Hid.mk (fun x (hx : x < l.length) => sorted_at HS.out (i := x) (j := mid) hml)
      have HSb := Hid.mk (fun x (hx : x < l.length) => sorted_at HS.out (i := mid) (j := x) hx)
      go_wp2_with fail
      refine (inodeCmp_any _ _ _ _ _).mono ?_
      rintro e w1 ⟨rfl, hb1⟩
      have hb2 := bthen hbk hb1
      by_cases hc : nd.fId < id
      · rw [cmpI_lt hc]
        have HLo' : Hid (∀ x, (hx : x < l.length) → x < mid + 1 → l[x].fId < id) := fun x hx hxm => by
          by_cases hxm' : x = mid
          · subst hxm'; rw [HNd.out]; exact hc
          · have h1 := HSm.out x hx (by omega)
            rw [HNd.out] at h1
            omega
        clear HLo HSm HSb
        go_wp2_with fail
        go_roundw
        case rel => exact ⟨mid + 1, j, by omega, by omega, by go_num, rfl, HLo'.out, HHi.out, hb2⟩
        case measure => simp [intOf]; omega
      · have hcm : (cmpI nd.fId id < 0) = False := eq_false (by unfold cmpI; rw [if_neg hc]; split <;> omega)
        have HHi' : Hid (∀ x, (hx : x < l.length) → mid ≤ x → id ≤ l[x].fId) := fun x hx hxm => by
          by_cases hxm' : x = mid
          · subst hxm'; rw [HNd.out]; omega
          · have h1 := HSb.out x hx (by omega)
            rw [HNd.out] at h1
            omega
        clear HHi HSm HSb
        generalize cmpI nd.fId id = cv at *
        go_wp2_with fail
        go_roundw
        case rel => exact ⟨i, mid, by omega, by omega, rfl, by go_num, HLo.out, HHi'.out, hb2⟩
        case measure => simp [intOf]; omega
    · have hji : j = i := by omega
      subst hji
      by_cases hin : j < n
      · have hil : j < l.length := by rw [HX.out]; exact hin
        obtain ⟨b1, o1, rfl, hB, cs, hcl, hcell, hrI⟩ := (HI.out.below rInode_good hbk) j hil
        obtain ⟨nd, hnd⟩ : ∃ nd, l[j] = nd := ⟨_, rfl⟩
        have HNd := Hid.mk hnd
        rw [hnd] at hrI
        obtain ⟨ad, cd, rfl, _⟩ := hrI
        have k0 := hcell 0 _ rfl
        have k1 := hcell 1 _ rfl
        have k2 := hcell 2 _ rfl
        rw [Nat.add_zero] at k0
        clear hcell hcl hnd
        have HSb := Hid.mk (fun x (hx : x < l.length) => sorted_at HS.out (i := j) (j := x) hx)
        by_cases hc : nd.fId = id
        · have HV : Hid (hasId l id = true) := hasId_yes hil (by rw [HNd.out]; exact hc)
          have HP : Hid (∃ h : j < l.length, l[j].fId = id) := ⟨hil, by rw [HNd.out]; exact hc⟩
          have hce : cmpI id id = 0 := cmpI_eq rfl
          go_wp2_with fail
          refine (inodeCmp_any _ _ _ _ _).mono ?_
          rintro e w1 ⟨rfl, hb1⟩
          rw [hce]
          have hb2 := bthen hbk hb1
          go_wp2_with fail
          refine bodyPost_ret (v := .tuple #[.int .i64 j, .bool true]) (by simp [results, Tryz.results101, go_sem, *]) rfl ⟨j, by rw [HV.out], fun _ => HP.out, hb2⟩
        · have HV : Hid (hasId l id = false) := hasId_no (fun x hx => by
            by_cases h1 : x < j
            · have := HLo.out x hx h1; omega
            · by_cases h2 : x = j
              · subst h2; rw [HNd.out]; exact hc
              · have h3 := HSb.out x hx (by omega)
                rw [HNd.out] at h3
                have h4 := HHi.out j hil (Nat.le_refl _)
                rw [HNd.out] at h4
                omega)
          have hce : (cmpI nd.fId id == 0) = false := by
            unfold cmpI
            split
            · rfl
            · split
              · rfl
              · omega
          go_wp2_with fail
          refine (inodeCmp_any _ _ _ _ _).mono ?_
          rintro e w1 ⟨rfl, hb1⟩
          have hb2 := bthen hbk hb1
          generalize cmpI nd.fId id = cv at *
          go_wp2_with fail
          refine bodyPost_ret (v := .tuple #[.int .i64 j, .bool false]) (by simp [results, Tryz.results101, go_sem, *]) rfl ⟨j, by rw [HV.out], (fun h => by rw [HV.out] at h; cases h), hb2⟩
      · have HV : Hid (hasId l id = false) := hasId_no (fun x hx => by have := HLo.out x hx (by have := HX.out; omega); omega)
        go_wp2_with fail
        refine bodyPost_ret (v := .tuple #[.int .i64 j, .bool false]) (by simp [results, Tryz.results101, go_sem, *]) rfl ⟨j, by rw [HV.out], (fun h => by rw [HV.out] at h; cases h), hbk⟩

set_option maxHeartbeats 1000000 in
theorem inodePlace_any (a : Option Addr) (cap : Nat) (l : List MInode) (id : Int) (w : World) (hl : LeafL 3 rInode w.heap.size w a cap l) (hw : l.length ≤ 16777216) (hs : l.Pairwise fun x y => x.fId < y.fId) :
    Calls Tryz.prog 84 #[.slice a l.length cap, .int .i64 id] w fun e w' => ∃ p : Nat, e = .returned (.tuple #[.int .i64 p, .bool (hasId l id)]) ∧ (hasId l id = true → ∃ h : p < l.length, l[p].fId = id) ∧ Below w.heap.size w w' := by
  have HI := Hid.mk hl.2.2
  have HL := Hid.mk hl
  have HS := Hid.mk hs
  clear hl hs
  go_enter Tryz.func84, Tryz.ntmps84
  go_wp2_with fail
  refine (inodeSearch_any a _ cap l id w rfl ⟨HL.out.1, HL.out.2.1, HI.out⟩ hw HS.out).mono ?_
  rintro e w1 ⟨p, rfl, hp, hb1⟩
  have HP := Hid.mk hp
  clear hp
  go_wp2_with fail
  refine bodyPost_ret (v := .tuple #[.int .i64 p, .bool (hasId l id)]) (by simp [results, Tryz.results84, go_sem, *]) rfl ⟨p, rfl, HP.out, hb1⟩

end Go.Proofs.YtnohnkcijomdjaaGreatDoor
