/-
  Part 15 of the texts that the proof leans on.
-/
import Derived.Test.YtocgbeoglgkibaaDoorTbp12
import Derived.Test.YtocgbeoglgkibaaDoorTbp8
import Derived.Test.YtocgbeoglgkibaaDoorTbp1
import Derived.Test.YtocgbeoglgkibaaDoorChecked
import Derived.Deep.RegionHeld3
import Derived.Lib.AppendZerosOnto
import Derived.Test.YtocgbeoglgkibaaDoorTbp13
import Derived.RangeFuncNested
import Derived.RangeFuncCalls
import Derived.RangeFuncLeaves
import Derived.Shelf.Abstract
import Derived.Shelf.RegionOpen
import Derived.WalkKit
import Derived.OwnWalkIn
import Derived.TacticsInMore
import Derived.LoopNIn
import Derived.LoopIn
import Derived.Maps.OwnIn
import Derived.Test.YtocgbeoglgkibaaDoorTbp0
set_option linter.unusedVariables false
set_option linter.unusedSimpArgs false
set_option maxRecDepth 10000

namespace Go.Proofs.YtocgbeoglgkibaaDoor
open Go.RowKit

/-- The tables of utf8 and that of the sum are as laid. -/
def Tabs2 (w : World) : Prop := Tabs w ∧ TabAt w
theorem Tabs2.size {w : World} (h : Tabs2 w) : 0 < w.heap.size := h.2.size
theorem Tabs2.below {w w' : World} (h : Tabs2 w) (hb : Below w.heap.size w w') (hB : 0 < w.heap.size) : Tabs2 w' := ⟨h.1.below hb, h.2.below hb hB⟩

theorem outB_small {l : List MPair} (hw : sumW wPair l ≤ 1048576) (hn : l.length ≤ 200) : (outB l (nBlk l)).length ≤ 53000000 := by
  have h1 := outB_len hw (nBlk l)
  have h2 : nBlk l ≤ 50 := by unfold nBlk; omega
  omega
theorem tabP_ok {l : List MPair} (hw : sumW wPair l ≤ 1048576) : BytesOk (tabP l) := by
  unfold tabP
  split
  · rename_i h
    have hn : l.length ≤ 200 := by
      unfold tabOk at h
      simp only [Bool.and_eq_true, decide_eq_true_eq] at h
      exact h.2.2
    have h1 := outB_small hw hn
    unfold tabB
    exact ((outB_ok _ _).append (frame_ok (((putNum_ok _).append (idxB_ok _ _)).append (flt_ok _)))).append (four_ok (by omega) (by omega))
  · intro z hz; cases hz
theorem boundPutTable_0 (l : List MPair) (hw : wPs l ≤ 1048576) : (tabP l).length ≤ 1099511627776 := by
  have hw' : sumW wPair l ≤ 1048576 := by unfold wPs at hw; omega
  unfold tabP
  split
  · rename_i h
    have hn : l.length ≤ 200 := by
      unfold tabOk at h
      simp only [Bool.and_eq_true, decide_eq_true_eq] at h
      exact h.2.2
    have h1 := outB_small hw' hn
    have h2 := frame_len (putNum (clampN (nBlk l)) ++ idxB l (nBlk l) ++ flt (keysP l))
    have h3 := idxB_len hw' (nBlk l)
    have h4 : nBlk l ≤ 50 := by unfold nBlk; omega
    have h5 := (putNum_length (clampN (nBlk l))).2
    have h6 := flt_length (keysP l)
    unfold tabB
    simp only [List.length_append, four_length] at *
    omega
  · simp

set_option maxHeartbeats 800000 in
theorem l5Same_any (a b : Option Addr) (n m ca cb : Nat) (xs ys : List Int) (w : World) (B : Nat) (hx : xs.length = n) (hy : ys.length = m) (hlen : n ≤ 140737488351232) (hlen2 : m ≤ 140737488351232) (hra : Rd .u8 B w a xs) (hrb : Rd .u8 B w b ys) :
    Calls Tryd.prog 14 #[.slice a n ca, .slice b m cb] w fun e w' => e = .returned (.bool (decide (xs = ys))) ∧ ∃ d, w' = w.drewN d := by
  have HX : Hid (xs.length = n) := hx
  have HY : Hid (ys.length = m) := hy
  clear hx hy
  by_cases hnm : n = m
  · subst hnm
    go_enter Tryd.func14, Tryd.ntmps14
    go_wp2_with fail
    go_loopw [5] (fun i wr => ∃ k : Nat, k ≤ n ∧ i = .int .i64 k ∧ xs.take k = ys.take k ∧ ∃ d, wr = w.drewN d) (fun i _ => n - (intOf i).toNat)
    case atStart => exact ⟨0, Nat.zero_le _, rfl, rfl, 0, rfl⟩
    case round =>
      obtain ⟨k, hk, rfl, he, d, rfl⟩ := hrel
      by_cases hlt : k < n
      · obtain ⟨b1, o1, rfl, _, hc1⟩ := hra k (by rw [HX.out]; exact hlt)
        obtain ⟨b2, o2, rfl, _, hc2⟩ := hrb k (by rw [HY.out]; exact hlt)
        have HE : Hid (xs.take k = ys.take k) := he
        have HXK : Hid (∀ h : xs.getD k 0 = ys.getD k 0, xs.take (k + 1) = ys.take (k + 1)) := fun h => take_eq_succ HX.out HY.out hlt he h
        have HXN : Hid (¬ xs.getD k 0 = ys.getD k 0 → decide (xs = ys) = false) := fun h => decide_eq_false (fun e => h (by rw [e]))
        clear he hra hrb
        generalize xs.getD k 0 = x at *
        generalize ys.getD k 0 = y at *
        by_cases hxy : x = y
        · subst hxy
          go_wp2_with fail
          go_region
          all_goals
            go_wp2_with fail
            go_roundw
            case rel => exact ⟨k + 1, by omega, by go_num, HXK.out (by first | rfl | trivial), d + 1, rfl⟩
            case measure => simp [intOf]; omega
        · have hne : (x != y) = true := by simpa using hxy
          go_wp2_with fail
          go_region
          all_goals
            go_wp2_with fail
            go_ret
            exact ⟨by rw [HXN.out hxy]; rfl, d + 1, rfl⟩
      · have HV : Hid (decide (xs = ys) = true) := decide_eq_true (by
          have h := he
          rwa [List.take_of_length_le (by rw [HX.out]; omega), List.take_of_length_le (by rw [HY.out]; omega)] at h)
        go_wp2_with fail
        go_ret
        exact ⟨by rw [HV.out]; rfl, d, rfl⟩
  · have hne : ((n : Int) != (m : Int)) = true := by simp; omega
    have HV : Hid (decide (xs = ys) = false) := decide_eq_false (fun h => hnm (by rw [← HX.out, ← HY.out, h]))
    go_enter Tryd.func14, Tryd.ntmps14
    go_wp2_with fail
    go_ret
    exact ⟨by rw [HV.out]; rfl, 0, rfl⟩


/-- A part of a list that is read. -/
theorem LeafL.part {α : Type} {size : Nat} {R : Rep α} {B : Nat} {w : World} {b o c : Nat} {l : List α} (h : LeafL size R B w (some ⟨b, o, none⟩) c l) {f m c' : Nat} (hf : f + m ≤ l.length) (hm : m ≤ c') (hc : c' ≤ 9223372036854775807) :
    LeafL size R B w (some ⟨b, o + f * size, none⟩) c' ((l.drop f).take m) := by
  have hl : ((l.drop f).take m).length = m := by simp; omega
  refine ⟨by omega, hc, fun j hj => ?_⟩
  rw [hl] at hj
  obtain ⟨b1, o1, e, hb, cs, h1, h2, h3⟩ := h.2.2 (f + j) (by omega)
  simp only [Option.some.injEq, Addr.mk.injEq, and_true] at e
  obtain ⟨rfl, rfl⟩ := e
  refine ⟨b, o + f * size, rfl, hb, cs, h1, fun i u hu => ?_, ?_⟩
  · have := h2 i u hu
    rw [← this]
    congr 2
    rw [Nat.add_mul]
    omega
  · have e : ((l.drop f).take m)[j]'(by rw [hl]; exact hj) = l[f + j] := by simp
    rw [e]
    exact h3


/-- A list of structs that is read, as what is appended. -/
theorem Src.any {α : Type} {size : Nat} {R : Rep α} (h1c : ∀ B w cs m, R B w cs m → ∀ u, u ∈ cs → u.oneCell' = true) {P : Program} {w : World} {B : Nat} {a : Option Addr} {l : List α} {tx e' : TypeId} {n c : Nat} (hk : P.underlying tx = some (.slice e')) (hn : l.length = n) (hr : RdS size R B w a l) :
    ∃ css : List (List Value), css.length = l.length ∧ (∀ c, c ∈ css → c.length = size) ∧ (∀ j, (h1 : j < l.length) → (h2 : j < css.length) → R B w css[j] l[j]) ∧ Src P size tx (.slice a n c) n css.flatten w := by
  cases a with
  | none =>
    have hz : l = [] := by
      cases l with
      | nil => rfl
      | cons z r =>
        obtain ⟨_, _, h, _⟩ := hr 0 (by simp)
        cases h
    subst hz
    simp only [List.length_nil] at hn
    subst hn
    exact ⟨[], rfl, (fun _ h => by cases h), (fun _ h => by simp at h), Src.ofNil w hk c⟩
  | some ad =>
    by_cases h0 : n = 0
    · subst h0
      have hz : l = [] := List.eq_nil_of_length_eq_zero hn
      subst hz
      exact ⟨[], rfl, (fun _ h => by cases h), (fun _ h => by simp at h), Src.ofSlice w hk ad 0 c [] (by simp) (fun j u hu => by simp at hu) (fun u hu => by cases hu)⟩
    · obtain ⟨b, off, e, _⟩ := hr 0 (by omega)
      simp only [Option.some.injEq] at e
      subst e
      obtain ⟨css, c1, c2, c3, c4⟩ := hr.cells l.length (Nat.le_refl _)
      have hfl := flat_len c2
      refine ⟨css, c1, c2, c3, Src.ofSlice w hk ⟨b, off, none⟩ n c css.flatten (by rw [hfl, c1, hn]) (fun j u hu => by rw [Addr.add_lit]; exact c4 j u hu) ?_⟩
      intro v hv
      obtain ⟨cs, hcs, hvc⟩ := List.mem_flatten.1 hv
      obtain ⟨j, hj, rfl⟩ := List.mem_iff_getElem.1 hcs
      exact h1c _ _ _ _ (c3 j (by omega) hj) v hvc

/-- A row of one's own, and what was appended. -/
theorem RowR.cat {α : Type} {size : Nat} {e : TypeId} {R : Rep α} (hR : R.Good) {B : Nat} {w w' : World} {base : Nat} {v' : Value} {l1 l2 : List α} {c1 c2 : List (List Value)}
    (a1 : c1.length = l1.length) (a2 : ∀ c, c ∈ c1 → c.length = size) (a3 : ∀ j, (h1 : j < l1.length) → (h2 : j < c1.length) → R B w c1[j] l1[j])
    (b1 : c2.length = l2.length) (b2 : ∀ c, c ∈ c2 → c.length = size) (b3 : ∀ j, (h1 : j < l2.length) → (h2 : j < c2.length) → R B w c2[j] l2[j]) (hb : Below B w w')
    (ho : w'.ownsRow base e size v' (l1.length + l2.length) (c1.flatten ++ c2.flatten)) : RowR size e R B w' base v' (l1 ++ l2) := by
  refine ⟨c1 ++ c2, by simp [a1, b1], fun c hc => (List.mem_append.1 hc).elim (a2 c) (b2 c), fun j h1 h2 => ?_, by simpa using ho⟩
  refine hR.below ?_ hb
  by_cases hj : j < l1.length
  · rw [List.getElem_append_left (by omega), List.getElem_append_left hj]
    exact a3 j hj (by omega)
  · simp only [List.length_append] at h1 h2
    rw [List.getElem_append_right (by omega), List.getElem_append_right (by omega)]
    have h := b3 (j - l1.length) (by omega) (by omega)
    simpa [a1] using h

theorem wpList_append_src_y {P : Program} {w : World} {ops : Array Oper} {rest : List Oper} {o : Oper} {a : Act} {Q : Exit → Act → World → Prop} (hgd : o.guard = none) (s x : Operand) (t tx : TypeId)
    (ho : o.op = .call { callee := .builtin .append, args := #[s, x], argTypes := #[t, tx] })
    (base : Nat) (e : TypeId) (i : TypeInfo) (z : Value) (size bytes : Nat) (ht : P.underlying t = some (.slice e)) (hi : P.info? e = some i) (hz : i.zero = some z)
    (hsize : i.size = size) (hby : i.bytes = bytes) (hzs : z.cells.size = size)
    (v : Value) (n : Nat) (xs : List Value) (hs : a.eval s = v) (hown : w.ownsRow base e size v n xs)
    (y : Value) (hy : a.eval x = y) (m : Nat) (news : List Value) (hx : Src P size tx y m news w)
    (h63 : n + m ≤ maxLen) (hbytes : (n + m) * bytes ≤ 140737488355328) (hbase : base ≤ w.heap.size)
    (h : ∀ v' w', w'.ownsRow base e size v' (n + m) (xs ++ news) → w.grownBy w' v.ownBlock → (v'.ownBlock = v.ownBlock ∨ v'.ownBlock = some w.heap.size) → wpList P ops Q rest (a.put o.dst v') w') :
    wpList P ops Q (o :: rest) a w := by
  refine wpList_plain hgd fun K hK => ?_
  obtain ⟨v', w', hr, h2, h3, h4⟩ := run_append_src_at (P := P) w base t tx o.type e i z size bytes ht hi hz hsize hby hzs v n xs hown y m news hx h63 hbytes hbase
  unfold Oper.wp execOp
  simp only [ho, resolve, invoke, builtin, Sem.run_bind, Sem.run_pure, Result.andThen_ok, List.map_toArray, List.map_cons, List.map_nil, hs, hy, hr]
  exact hK _ _ (h v' w' h2 h3 h4)

end Go.Proofs.YtocgbeoglgkibaaDoor

namespace Go.Proofs.YtocgbeoglgkibaaDoor
open Go.RowKit Go.Maps

theorem light_each {l : List MPair} {n : Nat} (h : lightP n l) (hn : n ≤ 1048576) : ∀ k, (hk : k < l.length) → wPair l[k] ≤ 1048576 := fun k hk => by
  have h1 := h l[k] (List.getElem_mem hk)
  have h2 : wPair l[k] = l[k].fKey.size + l[k].fVal.size := rfl
  omega
theorem tabOk_split {l : List MPair} (h : ¬ tabOk l = true) (hp : pairsOkP l = true) : ¬ (1 ≤ l.length ∧ l.length ≤ 200) := by
  intro h2
  apply h
  unfold tabOk
  rw [hp, decide_eq_true h2]
  rfl

set_option maxHeartbeats 4000000 in
theorem specPut_light (a : Option Addr) (n c : Nat) (l : List MPair) (w : World) (hx : l.length = n) (hn : n ≤ 200000000) (hL : LeafL 3 rPair w.heap.size w a c l) (hw : lightP 1048576 l) (ht : TabAt w) :
    Calls Tryd.prog 15 #[.slice a n c] w fun e w' => ∃ v, e = .returned v ∧
      w'.ownsRow w.heap.size 5 1 v (tabP l).length ((tabP l).map (Value.int .u8)) ∧ Below w.heap.size w w' := by
  by_cases hok : tabOk l = true
  · have h1 := tabOk_len hok
    have h2 := tabOk_w hok
    exact specPutTable_any a n c l w hx (by omega) hL (by omega) ht
  · obtain ⟨wa, hwa⟩ : ∃ x, x = w.alloc (.cells #[] 5) := ⟨_, rfl⟩
    have hba : Below w.heap.size w wa := by rw [hwa]; exact (Below.refl _ _).alloc (Nat.le_refl _) _
    have howa : wa.ownsRow w.heap.size 5 1 (.slice (some ⟨w.heap.size, 0, none⟩) 0 0) 0 [] := by rw [hwa]; exact own_lit1 w _ _ 1 (Nat.le_refl _)
    have HP := Hid.mk (l4Rising_each a n c l wa hx hn (LeafL.mono rPair_good (LeafL.below rPair_good hL hba) hba.size) (light_each hw (Nat.le_refl _)))
    have HWA := Hid.mk hwa
    have HV : Hid (tabP l = []) := by show _ = _; unfold tabP; rw [if_neg hok]
    have HX := Hid.mk hx
    clear hx hL ht hwa
    cases hp : pairsOkP l with
    | false =>
      rw [hp] at HP
      go_enter Tryd.func15, Tryd.ntmps15
      go_wp2_with fail
      rw [← HWA.out]
      refine Calls.mono HP.out ?_
      rintro e w0 ⟨rfl, hb0⟩
      have hB0 := hba.trans (hb0.mono hba.size)
      have how0 := own_below howa hb0
      go_wp2_with fail
      go_ret
      exact ⟨_, rfl, by rw [HV.out]; exact how0, hB0⟩
    | true =>
      rw [hp] at HP
      have hr := tabOk_split hok hp
      rw [HX.out] at hr
      have hin : inRange n 1 200 = false := inRange_no (by omega)
      go_enter Tryd.func15, Tryd.ntmps15
      go_wp2_with fail
      rw [← HWA.out]
      refine Calls.mono HP.out ?_
      rintro e w0 ⟨rfl, hb0⟩
      have hB0 := hba.trans (hb0.mono hba.size)
      have how0 := own_below howa hb0
      go_wp2_with fail
      refine (l1In_any _ _ _ _).mono ?_
      rintro e w0' ⟨rfl, rfl⟩
      rw [hin]
      go_wp2_with fail
      go_ret
      exact ⟨_, rfl, by rw [HV.out]; exact how0, hB0⟩

set_option maxHeartbeats 4000000 in
theorem implPut_light (a : Option Addr) (n c : Nat) (l : List MPair) (w : World) (hx : l.length = n) (hn : n ≤ 200000000) (hL : LeafL 3 rPair w.heap.size w a c l) (hw : lightP 1048576 l) (hT : Tabs w) (ht : TabAt w) :
    Calls Tryd.prog 19 #[.slice a n c] w fun e w' => ∃ v, e = .returned v ∧
      w'.ownsRow w.heap.size 5 1 v (tabP l).length ((tabP l).map (Value.int .u8)) ∧ Below w.heap.size w w' := by
  by_cases hok : tabOk l = true
  · have h1 := tabOk_len hok
    have h2 := tabOk_w hok
    exact implPutTable_any a n c l w hx (by omega) hL (by omega) hT ht
  · have HV : Hid (tabP l = []) := by show _ = _; unfold tabP; rw [if_neg hok]
    by_cases hr : 1 ≤ n ∧ n ≤ 200
    rotate_left
    · clear hx hL
      by_cases h0 : n = 0
      · subst h0
        go_enter Tryd.func19, Tryd.ntmps19
        go_wp2_with fail
        go_ret
        exact ⟨_, rfl, by rw [HV.out]; exact own_nil w _ _ 1 (Nat.le_refl _), Below.refl _ _⟩
      · have h1 : 200 < n := by omega
        have h2 : ((n : Int) == 0) = false := beq_eq_false_iff_ne.2 (by omega)
        go_enter Tryd.func19, Tryd.ntmps19
        go_wp2_with fail
        go_ret
        exact ⟨_, rfl, by rw [HV.out]; exact own_nil w _ _ 1 (Nat.le_refl _), Below.refl _ _⟩
    obtain ⟨hr1, hr2⟩ := hr
    have h2 : ((n : Int) == 0) = false := beq_eq_false_iff_ne.2 (by omega)
    have h3 : ¬ 200 < (n : Int) := by omega
    have HP := Hid.mk (pairsOk_each a n c l w hx hn hL hT (light_each hw (Nat.le_refl _)))
    cases hp : pairsOkP l with
    | true => exact absurd ⟨by rw [hx]; exact hr1, by rw [hx]; exact hr2⟩ (tabOk_split hok hp)
    | false =>
      rw [hp] at HP
      clear hx hL hT ht
      go_enter Tryd.func19, Tryd.ntmps19
      go_wp2_with fail
      refine Calls.mono HP.out ?_
      rintro e w0 ⟨rfl, hb0⟩
      go_wp2_with fail
      go_ret
      exact ⟨_, rfl, by rw [HV.out]; exact own_nil w0 _ _ 1 hb0.size, hb0⟩

theorem onePairP (B : Nat) (w : World) (cs : List Value) (m : MPair) (h : rPair B w cs m) : ∀ u, u ∈ cs → u.oneCell' = true := by
  obtain ⟨rfl, _⟩ := h
  intro u hu
  simp at hu
  rcases hu with rfl | rfl | rfl <;> rfl
def TsPost (w : World) (r : List MPair × Bool) (e : Ending) (w' : World) : Prop :=
  ∃ v : Value, e = .returned (.tuple #[v, .bool r.2]) ∧ rdPs w'.heap.size w' v r.1 ∧ Below w.heap.size w w'
theorem rdPs_row {B base : Nat} {w : World} {v : Value} {l : List MPair} (h : RowR 3 45 rPair B w base v l) : rdPs w.heap.size w v l := rdPs_own (pairs_own h).1
theorem rdPs_none (B : Nat) (w : World) (b : Nat) : rdPs B w (.slice (some ⟨b, 0, none⟩) 0 0) [] := ⟨_, _, rfl, by simp, by omega, fun j hj => by simp at hj⟩


theorem conv_rdT {B : Nat} {w : World} {a : Option Addr} {n c : Nat} {bs : List Int} (hn : bs.length = n) (h : Rd .u8 B w a bs) : (convert 22 9 (.slice a n c)).run Tryd.prog w = .ok (.string (strOfNums bs)) w := by
  subst hn
  cases bs with
  | nil =>
    cases a with
    | none => exact run_convert_bytes_nil w 22 5 Tryd.underlying22 Tryd.underlying5 _ _ 9 Tryd.underlying9
    | some ad => exact run_convert_bytes_back w 22 9 5 ad c [] Tryd.underlying22 Tryd.underlying5 Tryd.underlying9 (fun j hj => by simp at hj)
  | cons z r =>
    obtain ⟨b, off, rfl, _, _⟩ := h 0 (by simp)
    exact run_convert_bytes_arg w 22 5 Tryd.underlying22 Tryd.underlying5 b off _ c (z :: r) rfl (fun i hi => by
      obtain ⟨b', o', e', _, hc⟩ := h i hi
      simp only [Option.some.injEq, Addr.mk.injEq, and_true] at e'
      obtain ⟨rfl, rfl⟩ := e'
      exact hc) 9 Tryd.underlying9
theorem strInts_ofT {ts : List Int} (h : BytesOk ts) : strInts (strOfNums ts) = ts := by
  unfold strInts
  rw [strOfNums_data, List.map_map]
  apply List.ext_getElem?
  intro j
  rw [List.getElem?_map]
  by_cases hj : j < ts.length
  · rw [List.getElem?_eq_getElem hj]
    have hb := h _ (List.getElem_mem hj)
    simp only [Option.map_some, Function.comp, Option.some.injEq]
    generalize ts[j] = z at hb
    rw [UInt8.toNat_ofNat']
    omega
  · rw [List.getElem?_eq_none (by omega)]; rfl
theorem nums_eq {xs ys : List Int} (hx : BytesOk xs) (hy : BytesOk ys) : ((strOfNums xs).toList == (strOfNums ys).toList) = decide (xs = ys) := by
  by_cases h : xs = ys
  · subst h; simp
  · rw [decide_eq_false h]
    refine k_ne (fun h3 => h ?_)
    rw [← strInts_ofT hx, ← strInts_ofT hy, h3]

set_option maxHeartbeats 1000000 in
theorem bytesEq_any (a b : Option Addr) (n m ca cb : Nat) (xs ys : List Int) (w : World) (B : Nat) (hx : xs.length = n) (hy : ys.length = m) (ox : BytesOk xs) (oy : BytesOk ys) (hra : Rd .u8 B w a xs) (hrb : Rd .u8 B w b ys) :
    Calls Tryd.prog 18 #[.slice a n ca, .slice b m cb] w fun e w' => e = .returned (.bool (decide (xs = ys))) ∧ Below w.heap.size w w' := by
  have c1 : ∀ W : World, W.heap = w.heap → (convert 22 9 (.slice a n ca)).run Tryd.prog W = .ok (.string (strOfNums xs)) W := fun W hW => conv_rdT hx (B := B) (fun j hj => by obtain ⟨b1, o1, e, hB, hc⟩ := hra j hj; exact ⟨b1, o1, e, hB, by rw [← hc]; simp only [World.cell?, hW]⟩)
  have c2 : ∀ W : World, W.heap = w.heap → (convert 22 9 (.slice b m cb)).run Tryd.prog W = .ok (.string (strOfNums ys)) W := fun W hW => conv_rdT hy (B := B) (fun j hj => by obtain ⟨b1, o1, e, hB, hc⟩ := hrb j hj; exact ⟨b1, o1, e, hB, by rw [← hc]; simp only [World.cell?, hW]⟩)
  have c1' := c1 w rfl
  have c2' := c2 w rfl
  have HE := Hid.mk (nums_eq ox oy)
  go_enter Tryd.func18, Tryd.ntmps18
  go_wp2_with fail
  go_ret
  exact ⟨congrArg (fun b => Ending.returned (Value.bool b)) HE.out, Below.refl _ _⟩

set_option maxHeartbeats 1000000 in
theorem pairsAt_any (a : Option Addr) (n cap : Nat) (p : Int) (w : World) :
    Calls Tryd.prog 35 #[.slice a n cap, .int .i64 p] w fun e w' => e = .returned (.func (.func 54) #[] #[.pointer (some ⟨w.heap.size, 0, none⟩), .pointer (some ⟨w.heap.size + 1, 0, none⟩)]) ∧ w' = (w.alloc (.cells #[.slice a n cap] 22)).alloc (.cells #[.int .i64 p] 3) := by
  go_enter Tryd.func35, Tryd.ntmps35
  go_wp2
  go_ret
  exact ⟨rfl, rfl⟩

theorem pairsAt_c (a : Option Addr) (n cap : Nat) (p : Int) (w : World) :
    Calls Tryd.prog 35 #[.slice a n cap, .int .i64 p] w fun e w' => ∃ g g2, e = .returned (.func (.func 54) #[] #[.pointer (some ⟨g, 0, none⟩), .pointer (some ⟨g2, 0, none⟩)]) ∧ Hid (g = w.heap.size ∧ g2 = g + 1 ∧ w'.heap.size = g + 2) ∧ Bw w' g 22 [.slice a n cap] ∧ Bw w' g2 3 [.int .i64 p] ∧ Below w.heap.size w w' := by
  refine (pairsAt_any a n cap p w).mono ?_
  rintro e w' ⟨rfl, rfl⟩
  exact ⟨_, _, rfl, ⟨rfl, rfl, by simp⟩, (Bw.new' w _ _ rfl).under ((Below.refl _ _).alloc (Nat.le_refl _) _), Bw.new' _ _ _ (by simp), ((Below.refl _ _).alloc (Nat.le_refl _) _).alloc (by simp) _⟩

end Go.Proofs.YtocgbeoglgkibaaDoor

namespace Go.Proofs.YtocgbeoglgkibaaDoor
open Go.RowKit Go.Shelf

/-- How the statement goes on behind the iterator: with the jump that a round has left, or without one. -/
def goesOn (n : Nat) (P : Program) (Q : Exit → Act → World → Prop) (a : Act) (W : World) : Option Code → Prop
  | none => Q .normal a W
  | some c => c.wpIn Fence.wide n P Q a W

/-- The statement: the record and the block for deferred calls are laid; the iterator's call ends with the record at rest. -/
theorem range_begins {P : Program} {n : Nat} {g : Operand} {ps : Array Tmp} {assign body : Code} {Q : Exit → Act → World → Prop} {a : Act} {w : World} {gf : Nat} {lb : Array Value}
    (hg : a.eval g = .func (.func gf) #[] lb) (eg : ∀ args w, (callFunc gf args).run P w = .ok (.enter gf args) w)
    (h : ∀ (fn : FuncId) (r : Loop), r.state = .ready → r.pending = none → r.params = ps → r.tmps = a.tmps → r.assign = assign → r.body = body → ∀ W1 : World, W1.heap[w.heap.size + 1]? = some (.loop r) → W1.heap[w.heap.size]? = some (.deferred (some [])) → W1.heap.size = w.heap.size + 2 → Below w.heap.size w W1 →
      Calls P gf (#[.func (.yield (w.heap.size + 1)) #[] #[]] ++ lb) W1 fun e W2 => (∃ v, e = .returned v) ∧ ∃ r2 : Loop, W2.heap[w.heap.size + 1]? = some (.loop r2) ∧ r2.state ≠ .busy ∧ W2.heap[w.heap.size]? = some (.deferred (some [])) ∧
        goesOn n P Q { a with defers := { target := .collected w.heap.size, args := #[] } :: a.defers } (W2.putObj (w.heap.size + 1) (.loop { r2 with state := .exhausted })) r2.pending)
    (hn : 1 ≤ n) :
    (Code.rangeFunc g ps assign body).wpIn Fence.wide n P Q a w := by
  refine wpIn_rangeFunc fun fn _ => ?_
  obtain ⟨r, hr⟩ : ∃ r : Loop, r = { state := .ready, pending := none, fn, tmps := a.tmps, params := ps, assign, body, defers := w.heap.size } := ⟨_, rfl⟩
  obtain ⟨W1, hW1⟩ : ∃ W1, W1 = (w.alloc (.deferred (some []))).alloc (.loop r) := ⟨_, rfl⟩
  have he : (Instr.enterLoop fn a.tmps ps assign body none).run P w = .ok (w.heap.size + 1, [{ target := .collected w.heap.size, args := #[] }]) W1 := by rw [hW1, hr]; exact run_enterLoop_outer fn a.tmps ps assign body
  refine ⟨_, _, W1, { target := .fn (.func gf) lb, args := #[.func (.yield (w.heap.size + 1)) #[] #[]] }, W1, gf, #[.func (.yield (w.heap.size + 1)) #[] #[]] ++ lb, W1, he, ?_, fun _ _ => trivial, ?_, fun _ => hn, ?_⟩
  · simp only [resolve, hg]
    simp [go_sem]
  · simp [invoke, go_sem, eg]
  · refine (callsIn_wide.2 (h fn r (by rw [hr]) (by rw [hr]) (by rw [hr]) (by rw [hr]) (by rw [hr]) (by rw [hr]) W1 ?_ ?_ ?_ ?_)).mono ?_
    · rw [hW1]
      have := World.alloc_heap_new (w.alloc (.deferred (some []))) (.loop r)
      rwa [World.size_alloc] at this
    · rw [hW1]; exact (Below.heap_alloc _ _ _ (by simp)).trans (World.alloc_heap_new w _)
    · rw [hW1]; simp
    · rw [hW1]; exact ((Below.refl _ w).alloc (Nat.le_refl _) _).alloc (by simp) _
    · rintro e W2 ⟨⟨v, rfl⟩, r2, hl, hs, hd, hgo⟩
      refine ⟨r2.pending, _, run_endLoop hl hs, ?_⟩
      revert hgo
      cases r2.pending with
      | none => exact id
      | some c => exact id

/-- What the body of a round owes: the record lies there busy; behind it the record is at rest, and yield's answer is the round's. -/
def roundEnd (l : Nat) (r : Loop) (R : Ending → World → Prop) : Exit → Act → World → Prop
  | .normal, _, W => W.heap[l]? = some (.loop { r with state := .busy }) ∧ R (.returned (.bool true)) (W.putObj l (.loop { r with state := .ready, pending := none }))
  | .ret, _, W => W.heap[l]? = some (.loop { r with state := .busy }) ∧ R (.returned (.bool false)) (W.putObj l (.loop { r with state := .done, pending := some .ret }))
  | .exit id, _, W => W.heap[l]? = some (.loop { r with state := .busy }) ∧ R (.returned (.bool false)) (W.putObj l (.loop { r with state := .done, pending := some (.exit id) }))
  | .goto t, _, W => W.heap[l]? = some (.loop { r with state := .busy }) ∧ R (.returned (.bool false)) (W.putObj l (.loop { r with state := .done, pending := some (.goto t) }))
  | .panic _, _, _ => False
  | .outgrown, _, _ => False

theorem round_runs {P : Program} {n l : Nat} {r : Loop} {f : FuncId} {tmps : Array Value} {assign body : Code} {W : World} {R : Ending → World → Prop} (hr : r.state = .ready)
    (h : assign.wpIn (Fence.wide.inRound l) n P (Exit.then (fun a1 W1 => W1.heap[l]? = some (.loop r) ∧ body.wpIn (Fence.wide.inRound l) n P (roundEnd l r R) a1 (W1.putObj l (.loop { r with state := .busy }))) (fun _ _ _ => False))
      { tmps := tmps, defers := [] } W) :
    RoundIn Fence.wide n P l f tmps assign body W R := by
  refine roundIn_of_wpIn trivial (wpIn_mono h ?_)
  rintro e a1 W1 hp
  cases e with
  | normal =>
    obtain ⟨hl1, hb⟩ := hp
    refine ⟨_, run_beginRound hl1 hr, wpIn_mono hb ?_⟩
    rintro e a3 W3 hp3
    cases e with
    | normal => exact ⟨_, _, run_endRound none hp3.1, hp3.2⟩
    | ret => exact ⟨_, _, run_endRound (some .ret) hp3.1, hp3.2⟩
    | exit id => exact ⟨_, _, run_endRound (some (.exit id)) hp3.1, hp3.2⟩
    | goto t => exact ⟨_, _, run_endRound (some (.goto t)) hp3.1, hp3.2⟩
    | panic c => exact hp3.elim
    | outgrown => exact hp3.elim
  | ret => exact hp.elim
  | exit id => exact hp.elim
  | goto t => exact hp.elim
  | panic c => exact hp.elim
  | outgrown => exact hp.elim

end Go.Proofs.YtocgbeoglgkibaaDoor

namespace Go.Proofs.YtocgbeoglgkibaaDoor
open Go.RowKit Go.Maps Go.Shelf

theorem pairR_bd {zs : List Int} {ahead : ByteArray} {p : MPair} {r : List Int} (h : pairR zs ahead = some (p, r)) : p.fKey.size + r.length ≤ ahead.size + zs.length ∧ p.fKey.size + p.fVal.size ≤ ahead.size + zs.length ∧ r.length < zs.length := by
  unfold pairR at h
  split at h
  · rename_i hc
    obtain ⟨c1, c2, c3, c4, c5⟩ := hc
    simp only [Option.some.injEq, Prod.mk.injEq] at h
    obtain ⟨rfl, rfl⟩ := h
    have g1 := getNum_gt c1
    have g2 := getText_gt c2
    have g4 := getText_gt c4
    have l1 : (pR1 zs).length = zs.length - (getNum zs 0).2.1.toNat := by unfold pR1 restL; rw [if_pos c1, List.length_drop]
    have l2 : (pR2 zs).length = (pR1 zs).length - (getText (pR1 zs) 0).2.1.toNat := by unfold pR2 restL; rw [if_pos c2, List.length_drop]
    have l3 : (pR3 zs).length = (pR2 zs).length - 1 := by unfold pR3 restL; rw [if_pos c3, List.length_drop]; rfl
    have l4 : (pR4 zs).length = (pR3 zs).length - (getText (pR3 zs) 0).2.1.toNat := by unfold pR4 restL; rw [if_pos c4, List.length_drop]
    have e1 : (ahead.extract 0 (getNum zs 0).1.toNat ++ strOfNums (getText (pR1 zs) 0).1).size ≤ ahead.size + (getText (pR1 zs) 0).1.length := by
      rw [ByteArray.size_append, ByteArray.size_extract, strOfNums_size]
      omega
    have e2 : (strOfNums (getText (pR3 zs) 0).1).size = (getText (pR3 zs) 0).1.length := strOfNums_size _
    simp only
    omega
  · cases h
theorem pairR_ok {zs : List Int} {ahead : ByteArray} {p : MPair} {r : List Int} (hb : BytesOk zs) (h : pairR zs ahead = some (p, r)) : BytesOk r := by
  unfold pairR at h
  split at h
  · simp only [Option.some.injEq, Prod.mk.injEq] at h
    obtain ⟨_, rfl⟩ := h
    exact restL_ok (restL_ok (restL_ok (restL_ok hb)))
  · cases h
theorem RdrAt.miss {lo : Nat} {w w' : World} {b : Nat} {F : List Nat} {zs : List Int} {bad : Bool} (h : RdrAt lo w b zs bad) (ht : Turn F w w') (hg : ∀ k, k ∈ F → (k < lo ∧ k < b) ∨ b < k) : RdrAt lo w' b zs bad := by
  obtain ⟨a, c, h1, h2, h3, h4, h5⟩ := h
  have hl := h1.lt
  refine ⟨a, c, h1.turn ht (fun hm => by have := hg _ hm; omega), h2, h3, fun j hj => ?_, h5⟩
  obtain ⟨b1, o1, e, hB, hc⟩ := h4 j hj
  have hlo := h5 b1 o1 e (by omega)
  exact ⟨b1, o1, e, hB, (ht.cell (p := ⟨b1, o1 + j, none⟩) (by show b1 < _; omega) (fun hm => by have := hg _ hm; simp at this; omega)).trans hc⟩
def collD (r : Nat) : Deferred := { target := .collected r, args := #[] }
theorem leaves_all {F : Fence} {n : Nat} {P : Program} {fn : Func} {tmps : Array Value} {R : Ending → World → Prop} : ∀ (rs : List Nat) (W : World), rs.Nodup → (∀ r, r ∈ rs → W.heap[r]? = some (.deferred (some []))) →
    (∀ W', Turn rs W W' → LeavesIn F n P fn tmps R [] .returning W') → LeavesInM F n P fn tmps R (rs.map collD) .returning W := by
  intro rs
  induction rs with
  | nil => intro W _ _ h; exact h W (Turn.refl _ _)
  | cons r rs ih =>
    intro W hN hd h
    have hr := hd r (by simp)
    refine ⟨by simp, .inl ⟨r, _, rfl, run_takeDeferred hr, ?_⟩⟩
    have ht : Turn (r :: rs) W (W.putObj r (.deferred none)) := Turn.ofGrown (grownBy_putObj' W r _) (fun k hk => by simp only [Option.some.injEq] at hk; simp [hk])
    refine ih _ (List.nodup_cons.1 hN).2 (fun q hq => ?_) (fun W' hW => h W' (ht.trans (hW.mono (fun k hk => by simp [hk]))))
    have hne : q ≠ r := fun e => (List.nodup_cons.1 hN).1 (e ▸ hq)
    exact (World.putObj_heap_other hne).trans (hd q (by simp [hq]))

def RP (w : World) (X O B0 : Nat) (vm vf : Value) (pt : Int) (marks : List (ByteArray × Int)) (W : World) (vO : Value) (out : List MPair) (rs : List Nat) : Prop :=
  Bw W w.heap.size 23 [.slice none 0 0] ∧ Bw W (w.heap.size + 1) 39 [.nilIface] ∧ Bw W X 63 [vm, vf, .int .i64 pt] ∧ Bw W O 23 [vO] ∧
  RowR 3 45 rPair 0 W B0 vO out ∧ RowR 2 67 rMark 0 W w.heap.size vm marks ∧ rs.Nodup ∧ (∀ r, r ∈ rs → B0 ≤ r ∧ r < W.heap.size ∧ W.heap[r]? = some (.deferred (some []))) ∧
  (∀ k, vO.ownBlock = some k → k ∉ rs) ∧ w.heap.size + 1 < X ∧ X < O ∧ O < B0 ∧ B0 ≤ W.heap.size ∧ (∀ k, vm.ownBlock = some k → k < X) ∧ Below w.heap.size w W
section
variable {w : World} {X O B0 : Nat} {vm vf : Value} {pt : Int} {marks : List (ByteArray × Int)} {W W' : World} {vO : Value} {out : List MPair} {rs F : List Nat}
theorem RP.size (h : RP w X O B0 vm vf pt marks W vO out rs) : w.heap.size + 1 < X ∧ X < O ∧ O < B0 ∧ B0 ≤ W.heap.size := by
  obtain ⟨_, _, _, _, _, _, _, _, _, h1, h2, h3, h4, _, _⟩ := h
  exact ⟨h1, h2, h3, h4⟩
theorem RP.below (h : RP w X O B0 vm vf pt marks W vO out rs) : Below w.heap.size w W := by
  obtain ⟨_, _, _, _, _, _, _, _, _, _, _, _, _, _, h⟩ := h
  exact h
theorem RP.turn (h : RP w X O B0 vm vf pt marks W vO out rs) (ht : Turn F W W') (hF : ∀ k, k ∈ F → B0 ≤ k ∧ k ∉ rs ∧ vO.ownBlock ≠ some k) : RP w X O B0 vm vf pt marks W' vO out rs := by
  obtain ⟨h1, h2, h3, h4, h5, h6, h7, h8, h9, s1, s2, s3, s4, hv, hb⟩ := h
  have no : ∀ b, b < B0 → b ∉ F := fun b hb hm => by have := (hF b hm).1; omega
  obtain ⟨css, r1, r2, r3, r4⟩ := h5
  obtain ⟨css', q1, q2, q3, q4⟩ := h6
  refine ⟨h1.turn ht (no _ (by omega)), h2.turn ht (no _ (by omega)), h3.turn ht (no _ (by omega)), h4.turn ht (no _ (by omega)), ⟨css, r1, r2, fun j a b => r3 j a b, own_of_block r4 (fun k hk => ht.block k (r4.lt k hk).2 (fun hm => (hF k hm).2.2 hk))⟩,
    ⟨css', q1, q2, fun j a b => q3 j a b, own_of_block q4 (fun k hk => ht.block k (q4.lt k hk).2 (no k (by have := hv k hk; omega)))⟩, h7, fun r hr => ?_, h9, s1, s2, s3, Nat.le_trans s4 ht.size, hv, hb.trans (ht.below (fun k hk => by have := (hF k hk).1; omega) (by omega))⟩
  obtain ⟨a1, a2, a3⟩ := h8 r hr
  exact ⟨a1, Nat.lt_of_lt_of_le a2 ht.size, (ht.block r a2 (fun hm => (hF r hm).2.1 hr)).trans a3⟩
theorem RP.under (h : RP w X O B0 vm vf pt marks W vO out rs) (hb : Below W.heap.size W W') : RP w X O B0 vm vf pt marks W' vO out rs := h.turn (Turn.ofBelow (F := []) hb) (fun k hk => by cases hk)
theorem RP.put (h : RP w X O B0 vm vf pt marks W vO out rs) {l : Nat} (o : Obj) (h1 : B0 ≤ l) (h2 : l ∉ rs) (h3 : vO.ownBlock ≠ some l) : RP w X O B0 vm vf pt marks (W.putObj l o) vO out rs :=
  h.turn (F := [l]) (Turn.ofGrown (grownBy_putObj' W l o) (fun k hk => by simp only [Option.some.injEq] at hk; simp [hk])) (fun k hk => by simp only [List.mem_singleton] at hk; subst hk; exact ⟨h1, h2, h3⟩)
theorem RP.mark (h : RP w X O B0 vm vf pt marks W vO out rs) {r : Nat} (h1 : B0 ≤ r) (h2 : r < W.heap.size) (h3 : W.heap[r]? = some (.deferred (some []))) (h4 : r ∉ rs) (h5 : vO.ownBlock ≠ some r) : RP w X O B0 vm vf pt marks W vO out (r :: rs) := by
  obtain ⟨g1, g2, g3, g4, g5, g6, g7, g8, g9, s⟩ := h
  refine ⟨g1, g2, g3, g4, g5, g6, List.nodup_cons.2 ⟨h4, g7⟩, fun q hq => ?_, fun k hk => ?_, s⟩
  · rcases List.mem_cons.1 hq with rfl | hq
    · exact ⟨h1, h2, h3⟩
    · exact g8 q hq
  · intro hm
    rcases List.mem_cons.1 hm with rfl | hm
    · exact h5 hk
    · exact g9 k hk hm
/-- One pair more: the row has grown, and its box is written. -/
theorem RP.push {W2 W3 : World} {v3 : Value} {p : MPair} {css : List (List Value)} (h : RP w X O B0 vm vf pt marks W vO out rs) (hb : Below W.heap.size W W2) (r1 : css.length = out.length) (r2 : ∀ c, c ∈ css → c.length = 3) (r3 : ∀ j, (a : j < out.length) → (b : j < css.length) → rPair 0 W css[j] out[j])
    (ho : W3.ownsRow B0 45 3 v3 (out.length + 1) (css.flatten ++ [.string p.fKey, .string p.fVal, .bool p.fGone])) (hg : W2.grownBy W3 vO.ownBlock) (hl : v3.ownBlock = vO.ownBlock ∨ v3.ownBlock = some W2.heap.size) (hk1 : p.fKey.size ≤ 9223372036854775807) (hk2 : p.fVal.size ≤ 9223372036854775807) :
    RP w X O B0 vm vf pt marks (W3.setCell ⟨O, 0, none⟩ v3) v3 (out ++ [p]) rs := by
  have h0 := h
  obtain ⟨h1, h2, h3, h4, h5, h6, h7, h8, h9, s1, s2, s3, s4, hv, hbw⟩ := h.under hb
  have hrow : RowR 3 45 rPair 0 W3 B0 v3 (out ++ [p]) := RowR.push rPair_good (w := W) r1 r2 (fun j a b => r3 j a b) ⟨hg.os.trans hb.os, hg.tape.trans hb.tape, hg.output.trans hb.output, Nat.le_trans hb.size hg.size, fun k hk => by omega⟩ rfl ⟨rfl, hk1, hk2, trivial, trivial⟩ ho
  have hgB : ∀ k, vO.ownBlock = some k → B0 ≤ k := fun k hk => by obtain ⟨_, _, _, _, q⟩ := h5; exact (q.lt k hk).1
  have ht := turnOwn hg
  have hF1 : ∀ k, k ∈ vO.ownBlock.toList → vO.ownBlock = some k := fun k hk => by simpa using hk
  have no : ∀ b, b < B0 → b ∉ vO.ownBlock.toList := fun b hb hm => by have := hgB b (hF1 b hm); omega
  have hT : Turn [O] W3 (W3.setCell ⟨O, 0, none⟩ v3) := (Turn.refl _ _).setCell (by simp) _
  have hO3 : Bw W3 O 23 [vO] := h4.turn ht (no _ (by omega))
  have hob := fun k hk => (ho.lt k hk)
  obtain ⟨css2, c1, c2, c3, c4⟩ := hrow
  obtain ⟨css', q1, q2, q3, q4⟩ := h6
  refine ⟨(h1.turn ht (no _ (by omega))).turn hT (by simp; omega), (h2.turn ht (no _ (by omega))).turn hT (by simp; omega), (h3.turn ht (no _ (by omega))).turn hT (by simp; omega), hO3.put 0 _,
    ⟨css2, c1, c2, fun j a b => c3 j a b, own_of_block c4 (fun k hk => hT.block k (c4.lt k hk).2 (by have := (c4.lt k hk).1; simp; omega))⟩,
    ⟨css', q1, q2, fun j a b => q3 j a b, own_of_block q4 (fun k hk => (hT.block k (Nat.lt_of_lt_of_le (q4.lt k hk).2 hg.size) (by have := hv k hk; simp; omega)).trans (ht.block k (q4.lt k hk).2 (no k (by have := hv k hk; omega))))⟩,
    h7, fun r hr => ?_, fun k hk hm => ?_, s1, s2, s3, Nat.le_trans s4 (Nat.le_trans hg.size hT.size), hv, (hbw.grown hg hbw.size (fun k hk => by have := hgB k hk; omega)).trans (hT.below (fun k hk => by simp at hk; omega) (by have := hg.size; omega))⟩
  · obtain ⟨a1, a2, a3⟩ := h8 r hr
    exact ⟨a1, Nat.lt_of_lt_of_le a2 (Nat.le_trans hg.size hT.size), ((hT.block r (Nat.lt_of_lt_of_le a2 hg.size) (by simp; omega)).trans (ht.block r a2 (fun hm => h9 r (hF1 r hm) hr))).trans a3⟩
  · rcases hl with e | e
    · exact h9 k (e ▸ hk) hm
    · rw [e] at hk
      have := (h8 k hm).2.1
      simp at hk
      omega
end

/-- The two results are written: nothing, and an error. -/
def RE (w W : World) (rs : List Nat) (ev : Value) : Prop :=
  Bw W w.heap.size 23 [.slice none 0 0] ∧ Bw W (w.heap.size + 1) 39 [ev] ∧ rs.Nodup ∧ (∀ r, r ∈ rs → w.heap.size + 1 < r ∧ r < W.heap.size ∧ W.heap[r]? = some (.deferred (some []))) ∧ Below w.heap.size w W
theorem RP.fail {w : World} {X O B0 : Nat} {vm vf : Value} {pt : Int} {marks : List (ByteArray × Int)} {W : World} {vO : Value} {out : List MPair} {rs : List Nat} (h : RP w X O B0 vm vf pt marks W vO out rs) (ev : Value) :
    RE w ((W.setCell ⟨w.heap.size, 0, none⟩ (.slice none 0 0)).setCell ⟨w.heap.size + 1, 0, none⟩ ev) rs ev ∧ Turn [w.heap.size, w.heap.size + 1] W ((W.setCell ⟨w.heap.size, 0, none⟩ (.slice none 0 0)).setCell ⟨w.heap.size + 1, 0, none⟩ ev) := by
  obtain ⟨h1, h2, _, _, _, _, h7, h8, _, s1, s2, s3, s4, _, hb⟩ := h
  have t1 : Turn [w.heap.size] W (W.setCell ⟨w.heap.size, 0, none⟩ (.slice none 0 0)) := (Turn.refl _ _).setCell (by simp) _
  have t2 : Turn [w.heap.size + 1] (W.setCell ⟨w.heap.size, 0, none⟩ (.slice none 0 0)) ((W.setCell ⟨w.heap.size, 0, none⟩ (.slice none 0 0)).setCell ⟨w.heap.size + 1, 0, none⟩ ev) := (Turn.refl _ _).setCell (by simp) _
  have t : Turn [w.heap.size, w.heap.size + 1] W ((W.setCell ⟨w.heap.size, 0, none⟩ (.slice none 0 0)).setCell ⟨w.heap.size + 1, 0, none⟩ ev) := (t1.mono (fun k hk => by simp at hk; simp [hk])).trans (t2.mono (fun k hk => by simp at hk; simp [hk]))
  refine ⟨⟨(h1.put 0 _).turn t2 (by simp), (h2.turn t1 (by simp)).put 0 _, h7, fun r hr => ?_, hb.trans (t.below (fun k hk => by simp at hk; omega) hb.size)⟩, t⟩
  obtain ⟨a1, a2, a3⟩ := h8 r hr
  exact ⟨by omega, Nat.lt_of_lt_of_le a2 t.size, (t.block r a2 (by simp; omega)).trans a3⟩
theorem RE.put {w W : World} {rs : List Nat} {ev : Value} (h : RE w W rs ev) {l : Nat} (o : Obj) (h1 : w.heap.size + 1 < l) (h2 : l ∉ rs) : RE w (W.putObj l o) rs ev := by
  obtain ⟨a1, a2, a3, a4, a5⟩ := h
  have t : Turn [l] W (W.putObj l o) := Turn.ofGrown (grownBy_putObj' W l o) (fun k hk => by simp only [Option.some.injEq] at hk; simp [hk])
  refine ⟨a1.turn t (by simp; omega), a2.turn t (by simp; omega), a3, fun r hr => ?_, a5.trans (t.below (fun k hk => by simp at hk; omega) a5.size)⟩
  obtain ⟨b1, b2, b3⟩ := a4 r hr
  exact ⟨b1, Nat.lt_of_lt_of_le b2 t.size, (t.block r b2 (fun hm => by simp at hm; exact h2 (hm ▸ hr))).trans b3⟩
theorem RE.taken {w W W' : World} {rs : List Nat} {ev : Value} (h : RE w W rs ev) (ht : Turn rs W W') : Bw W' w.heap.size 23 [.slice none 0 0] ∧ Bw W' (w.heap.size + 1) 39 [ev] ∧ Below w.heap.size w W' := by
  obtain ⟨a1, a2, a3, a4, a5⟩ := h
  exact ⟨a1.turn ht (fun hm => by have := (a4 _ hm).1; omega), a2.turn ht (fun hm => by have := (a4 _ hm).1; omega), a5.trans (ht.below (fun k hk => by have := (a4 k hk).1; omega) a5.size)⟩

theorem RP.good {w : World} {X O B0 : Nat} {vm vf : Value} {pt : Int} {marks : List (ByteArray × Int)} {W : World} {vO : Value} {out : List MPair} {rs : List Nat} (h : RP w X O B0 vm vf pt marks W vO out rs) :
    rs.Nodup ∧ (∀ r, r ∈ rs → ((W.setCell ⟨w.heap.size, 0, none⟩ vO).setCell ⟨w.heap.size + 1, 0, none⟩ .nilIface).heap[r]? = some (.deferred (some []))) ∧ (∀ W8, Turn rs ((W.setCell ⟨w.heap.size, 0, none⟩ vO).setCell ⟨w.heap.size + 1, 0, none⟩ .nilIface) W8 →
      Bw W8 w.heap.size 23 [vO] ∧ Bw W8 (w.heap.size + 1) 39 [.nilIface] ∧ RowR 3 45 rPair 0 W8 w.heap.size vO out ∧ Below w.heap.size w W8) := by
  obtain ⟨h1, h2, _, _, h5, _, h7, h8, h9, s1, s2, s3, s4, _, hb⟩ := h
  have t1 : Turn [w.heap.size] W (W.setCell ⟨w.heap.size, 0, none⟩ vO) := (Turn.refl _ _).setCell (by simp) _
  have t2 : Turn [w.heap.size + 1] (W.setCell ⟨w.heap.size, 0, none⟩ vO) ((W.setCell ⟨w.heap.size, 0, none⟩ vO).setCell ⟨w.heap.size + 1, 0, none⟩ .nilIface) := (Turn.refl _ _).setCell (by simp) _
  have t : Turn [w.heap.size, w.heap.size + 1] W ((W.setCell ⟨w.heap.size, 0, none⟩ vO).setCell ⟨w.heap.size + 1, 0, none⟩ .nilIface) := (t1.mono (fun k hk => by simp at hk; simp [hk])).trans (t2.mono (fun k hk => by simp at hk; simp [hk]))
  refine ⟨h7, fun r hr => ?_, fun W8 h8' => ?_⟩
  · obtain ⟨a1, a2, a3⟩ := h8 r hr
    exact (t.block r a2 (by simp; omega)).trans a3
  · have no : ∀ b, b < B0 → b ∉ rs := fun b hb hm => by have := (h8 b hm).1; omega
    obtain ⟨css, r1, r2, r3, r4⟩ := h5
    refine ⟨((h1.put 0 vO).turn t2 (by simp)).turn h8' (no _ (by omega)), ((h2.turn t1 (by simp)).put 0 .nilIface).turn h8' (no _ (by omega)), ⟨css, r1, r2, fun j a b => r3 j a b, own_base (own_of_block r4 (fun k hk => (h8'.block k (Nat.lt_of_lt_of_le (r4.lt k hk).2 t.size) (h9 k hk)).trans (t.block k (r4.lt k hk).2 (by have := (r4.lt k hk).1; simp; omega)))) (by omega)⟩, (hb.trans (t.below (fun k hk => by simp at hk; omega) hb.size)).trans (h8'.below (fun k hk => by have := (h8 k hk).1; omega) (Nat.le_trans hb.size t.size))⟩

end Go.Proofs.YtocgbeoglgkibaaDoor
