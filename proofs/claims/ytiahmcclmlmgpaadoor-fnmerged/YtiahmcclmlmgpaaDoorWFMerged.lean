/-
  The law of merged lists, at every code: each key once, from the first list that has it; a range has just what is within.
-/
import Derived.Test.YtiahmcclmlmgpaaDoorRegK
import Derived.Test.YtiahmcclmlmgpaaDoorSameP
import Derived.Test.YtiahmcclmlmgpaaDoorMrgQ
import Derived.Test.YtiahmcclmlmgpaaDoorRangeI
namespace Go.Proofs.YtiahmcclmlmgpaaDoor
open Go.RowKit Go.Maps
set_option linter.unusedVariables false
set_option linter.unusedSimpArgs false
set_option maxRecDepth 10000
abbrev q032_3_10_0 : Oper := ⟨some 35, .move (.tmp 6), 3, "laws.go:327", #[], none⟩
abbrev q032_3_10_1 : Oper := ⟨some 36, .binOp .gtr 3 (.tmp 35) (.const (.int .i64 0)) 3, 4, "laws.go:327", #[⟨0, .data⟩], none⟩
abbrev q032_3_10_2 : Oper := ⟨some 37, .move (.tmp 36), 4, "laws.go:327", #[⟨1, .data⟩], none⟩
abbrev q032_3_10_3 : Oper := ⟨some 38, .move (.tmp 5), 27, "laws.go:327", #[⟨2, .guard⟩], some (2, true)⟩
abbrev q032_3_10_4 : Oper := ⟨some 39, .move (.tmp 6), 3, "laws.go:327", #[⟨2, .guard⟩], some (2, true)⟩
abbrev q032_3_10_5 : Oper := ⟨some 40, .binOp .sub 3 (.tmp 39) (.const (.int .i64 1)) 3, 3, "laws.go:327", #[⟨4, .data⟩, ⟨2, .guard⟩], some (2, true)⟩
abbrev q032_3_10_6 : Oper := ⟨some 41, .indexAddr 27 (.tmp 38) (.tmp 40), 0, "laws.go:327", #[⟨3, .data⟩, ⟨5, .data⟩, ⟨2, .guard⟩], some (2, true)⟩
abbrev q032_3_10_7 : Oper := ⟨some 42, .fieldAddr 31 (.tmp 41) 0, 0, "laws.go:327", #[⟨6, .data⟩, ⟨2, .guard⟩], some (2, true)⟩
abbrev q032_3_10_8 : Oper := ⟨some 43, .load 9 (.tmp 42), 9, "laws.go:327", #[⟨7, .data⟩, ⟨2, .guard⟩], some (2, true)⟩
abbrev q032_3_10_9 : Oper := ⟨some 44, .move (.tmp 5), 27, "laws.go:327", #[⟨2, .guard⟩], some (2, true)⟩
abbrev q032_3_10_10 : Oper := ⟨some 45, .move (.tmp 6), 3, "laws.go:327", #[⟨2, .guard⟩], some (2, true)⟩
abbrev q032_3_10_11 : Oper := ⟨some 46, .indexAddr 27 (.tmp 44) (.tmp 45), 0, "laws.go:327", #[⟨9, .data⟩, ⟨10, .data⟩, ⟨2, .guard⟩], some (2, true)⟩
abbrev q032_3_10_12 : Oper := ⟨some 47, .fieldAddr 31 (.tmp 46) 0, 0, "laws.go:327", #[⟨11, .data⟩, ⟨2, .guard⟩], some (2, true)⟩
abbrev q032_3_10_13 : Oper := ⟨some 48, .load 9 (.tmp 47), 9, "laws.go:327", #[⟨12, .data⟩, ⟨2, .guard⟩], some (2, true)⟩
abbrev q032_3_10_14 : Oper := ⟨some 49, .binOp .geq 9 (.tmp 43) (.tmp 48) 9, 4, "laws.go:327", #[⟨8, .data⟩, ⟨13, .data⟩, ⟨2, .guard⟩], some (2, true)⟩
abbrev q032_3_10_15 : Oper := ⟨some 50, .pick (.tmp 37) (.tmp 49) (.const (.bool false)), 4, "laws.go:327", #[⟨2, .data⟩, ⟨14, .data⟩], none⟩
abbrev q032_3_10_16 : Oper := ⟨some 51, .move (.tmp 50), 4, "laws.go:327", #[⟨15, .data⟩, ⟨2, .chain⟩], none⟩
abbrev q032_3_10_17 : Oper := ⟨some 52, .move (.tmp 4), 4, "laws.go:327", #[⟨16, .guard⟩], some (16, false)⟩
abbrev q032_3_10_18 : Oper := ⟨some 53, .move (.tmp 52), 4, "laws.go:327", #[⟨17, .data⟩, ⟨16, .chain⟩, ⟨16, .guard⟩], some (16, false)⟩
abbrev q032_3_10_19 : Oper := ⟨some 54, .move (.tmp 5), 27, "laws.go:327", #[⟨18, .guard⟩], some (18, true)⟩
abbrev q032_3_10_20 : Oper := ⟨some 55, .move (.tmp 6), 3, "laws.go:327", #[⟨18, .guard⟩], some (18, true)⟩
abbrev q032_3_10_21 : Oper := ⟨some 56, .indexAddr 27 (.tmp 54) (.tmp 55), 0, "laws.go:327", #[⟨19, .data⟩, ⟨20, .data⟩, ⟨18, .guard⟩], some (18, true)⟩
abbrev q032_3_10_22 : Oper := ⟨some 57, .fieldAddr 31 (.tmp 56) 2, 0, "laws.go:327", #[⟨21, .data⟩, ⟨18, .guard⟩], some (18, true)⟩
abbrev q032_3_10_23 : Oper := ⟨some 58, .load 4 (.tmp 57), 4, "laws.go:327", #[⟨22, .data⟩, ⟨18, .guard⟩], some (18, true)⟩
abbrev q032_3_10_24 : Oper := ⟨some 59, .pick (.tmp 53) (.tmp 58) (.const (.bool false)), 4, "laws.go:327", #[⟨18, .data⟩, ⟨23, .data⟩, ⟨16, .guard⟩], some (16, false)⟩
abbrev q032_3_10_25 : Oper := ⟨some 60, .pick (.tmp 51) (.const (.bool true)) (.tmp 59), 4, "laws.go:327", #[⟨16, .data⟩, ⟨24, .data⟩], none⟩
abbrev q032_3_19_0 : Oper := ⟨some 84, .move (.tmp 3), 24, "laws.go:333", #[], none⟩
abbrev q032_3_19_1 : Oper := ⟨some 85, .move (.tmp 8), 3, "laws.go:333", #[], none⟩
abbrev q032_3_19_2 : Oper := ⟨some 86, .indexAddr 24 (.tmp 84) (.tmp 85), 0, "laws.go:333", #[⟨0, .data⟩, ⟨1, .data⟩], none⟩
abbrev q032_3_19_3 : Oper := ⟨some 87, .load 27 (.tmp 86), 27, "laws.go:333", #[⟨2, .data⟩], none⟩
abbrev q032_3_19_4 : Oper := ⟨some 88, .move (.tmp 9), 3, "laws.go:333", #[], none⟩
abbrev q032_3_19_5 : Oper := ⟨some 89, .indexAddr 27 (.tmp 87) (.tmp 88), 0, "laws.go:333", #[⟨3, .data⟩, ⟨4, .data⟩], none⟩
abbrev q032_3_19_6 : Oper := ⟨some 90, .fieldAddr 31 (.tmp 89) 0, 0, "laws.go:333", #[⟨5, .data⟩], none⟩
abbrev q032_3_19_7 : Oper := ⟨some 91, .load 9 (.tmp 90), 9, "laws.go:333", #[⟨6, .data⟩], none⟩
abbrev q032_3_19_8 : Oper := ⟨some 92, .move (.tmp 5), 27, "laws.go:333", #[], none⟩
abbrev q032_3_19_9 : Oper := ⟨some 93, .move (.tmp 6), 3, "laws.go:333", #[], none⟩
abbrev q032_3_19_10 : Oper := ⟨some 94, .indexAddr 27 (.tmp 92) (.tmp 93), 0, "laws.go:333", #[⟨8, .data⟩, ⟨9, .data⟩], none⟩
abbrev q032_3_19_11 : Oper := ⟨some 95, .fieldAddr 31 (.tmp 94) 0, 0, "laws.go:333", #[⟨10, .data⟩], none⟩
abbrev q032_3_19_12 : Oper := ⟨some 96, .load 9 (.tmp 95), 9, "laws.go:333", #[⟨11, .data⟩], none⟩
abbrev q032_3_19_13 : Oper := ⟨some 97, .binOp .eql 9 (.tmp 91) (.tmp 96) 9, 4, "laws.go:333", #[⟨7, .data⟩, ⟨12, .data⟩], none⟩
abbrev q032_3_21_0 : Oper := ⟨some 98, .move (.tmp 3), 24, "laws.go:335", #[], none⟩
abbrev q032_3_21_1 : Oper := ⟨some 99, .move (.tmp 8), 3, "laws.go:335", #[], none⟩
abbrev q032_3_21_2 : Oper := ⟨some 100, .indexAddr 24 (.tmp 98) (.tmp 99), 0, "laws.go:335", #[⟨0, .data⟩, ⟨1, .data⟩], none⟩
abbrev q032_3_21_3 : Oper := ⟨some 101, .load 27 (.tmp 100), 27, "laws.go:335", #[⟨2, .data⟩], none⟩
abbrev q032_3_21_4 : Oper := ⟨some 102, .move (.tmp 9), 3, "laws.go:335", #[], none⟩
abbrev q032_3_21_5 : Oper := ⟨some 103, .indexAddr 27 (.tmp 101) (.tmp 102), 0, "laws.go:335", #[⟨3, .data⟩, ⟨4, .data⟩], none⟩
abbrev q032_3_21_6 : Oper := ⟨some 104, .load 31 (.tmp 103), 31, "laws.go:335", #[⟨5, .data⟩], none⟩
abbrev q032_3_21_7 : Oper := ⟨some 105, .move (.tmp 5), 27, "laws.go:335", #[], none⟩
abbrev q032_3_21_8 : Oper := ⟨some 106, .move (.tmp 6), 3, "laws.go:335", #[], none⟩
abbrev q032_3_21_9 : Oper := ⟨some 107, .indexAddr 27 (.tmp 105) (.tmp 106), 0, "laws.go:335", #[⟨7, .data⟩, ⟨8, .data⟩], none⟩
abbrev q032_3_21_10 : Oper := ⟨some 108, .load 31 (.tmp 107), 31, "laws.go:335", #[⟨9, .data⟩], none⟩
abbrev q032_3_21_11 : Oper := ⟨some 109, .binOp .neq 31 (.tmp 104) (.tmp 108) 31, 4, "laws.go:335", #[⟨6, .data⟩, ⟨10, .data⟩], none⟩
abbrev q032_3_31_0 : Oper := ⟨some 134, .move (.tmp 11), 3, "laws.go:349", #[], none⟩
abbrev q032_3_31_1 : Oper := ⟨some 135, .move (.tmp 10), 27, "laws.go:349", #[], none⟩
abbrev q032_3_31_2 : Oper := ⟨some 136, .call { callee := .builtin .len, args := #[.tmp 135], argTypes := #[27] }, 3, "laws.go:349", #[⟨1, .data⟩], none⟩
abbrev q032_3_31_3 : Oper := ⟨some 137, .binOp .geq 3 (.tmp 134) (.tmp 136) 3, 4, "laws.go:349", #[⟨0, .data⟩, ⟨2, .data⟩], none⟩
abbrev q032_3_31_4 : Oper := ⟨some 138, .move (.tmp 137), 4, "laws.go:349", #[⟨3, .data⟩], none⟩
abbrev q032_3_31_5 : Oper := ⟨some 139, .move (.tmp 10), 27, "laws.go:349", #[⟨4, .guard⟩], some (4, false)⟩
abbrev q032_3_31_6 : Oper := ⟨some 140, .move (.tmp 11), 3, "laws.go:349", #[⟨4, .guard⟩], some (4, false)⟩
abbrev q032_3_31_7 : Oper := ⟨some 141, .indexAddr 27 (.tmp 139) (.tmp 140), 0, "laws.go:349", #[⟨5, .data⟩, ⟨6, .data⟩, ⟨4, .guard⟩], some (4, false)⟩
abbrev q032_3_31_8 : Oper := ⟨some 142, .load 31 (.tmp 141), 31, "laws.go:349", #[⟨7, .data⟩, ⟨4, .guard⟩], some (4, false)⟩
abbrev q032_3_31_9 : Oper := ⟨some 143, .move (.tmp 5), 27, "laws.go:349", #[⟨4, .guard⟩], some (4, false)⟩
abbrev q032_3_31_10 : Oper := ⟨some 144, .move (.tmp 12), 3, "laws.go:349", #[⟨4, .guard⟩], some (4, false)⟩
abbrev q032_3_31_11 : Oper := ⟨some 145, .indexAddr 27 (.tmp 143) (.tmp 144), 0, "laws.go:349", #[⟨9, .data⟩, ⟨10, .data⟩, ⟨4, .guard⟩], some (4, false)⟩
abbrev q032_3_31_12 : Oper := ⟨some 146, .load 31 (.tmp 145), 31, "laws.go:349", #[⟨11, .data⟩, ⟨4, .guard⟩], some (4, false)⟩
abbrev q032_3_31_13 : Oper := ⟨some 147, .binOp .neq 31 (.tmp 142) (.tmp 146) 31, 4, "laws.go:349", #[⟨8, .data⟩, ⟨12, .data⟩, ⟨4, .guard⟩], some (4, false)⟩
abbrev q032_3_31_14 : Oper := ⟨some 148, .pick (.tmp 138) (.const (.bool true)) (.tmp 147), 4, "laws.go:349", #[⟨4, .data⟩, ⟨13, .data⟩], none⟩

set_option maxHeartbeats 400000 in
theorem big_any (a : Option Addr) (n cap : Nat) (w : World) :
    Calls Tryd.prog 7 #[.slice a n cap] w fun e w' => e = .returned (.bool (decide (1048576 < (n : Int)))) ∧ w' = w := by
  go_enter Tryd.func7, Tryd.ntmps7
  go_wp2_with fail
  go_ret
  exact ⟨rfl, rfl⟩
theorem shp_weight : ∀ {l : List MPair}, (∀ x, x ∈ l → ShP x) → sumW wPair l ≤ l.length * 42
  | [], _ => Nat.zero_le _
  | x :: r, h => by
    have h1 := shp_weight (l := r) (fun y hy => h y (List.mem_cons_of_mem _ hy))
    have h2 := h x (List.mem_cons_self ..)
    have h3 : wPair x ≤ 42 := by have a := h2.1; have b := h2.2; unfold wPair; omega
    have h4 : sumW wPair (x :: r) = wPair x + sumW wPair r := by simp [sumW]
    rw [h4, List.length_cons]
    omega
theorem lists_weight : ∀ {ll : List (List MPair)}, (∀ l, l ∈ ll → (∀ x, x ∈ l → ShP x) ∧ l.length ≤ 101) → sumW wPs ll ≤ ll.length * 4400
  | [], _ => Nat.zero_le _
  | x :: r, h => by
    have h1 := lists_weight (ll := r) (fun y hy => h y (List.mem_cons_of_mem _ hy))
    have h2 := h x (List.mem_cons_self ..)
    have h3 : wPs x ≤ 4400 := by have a := shp_weight h2.1; have b := h2.2; unfold wPs; omega
    have h4 : sumW wPs (x :: r) = wPs x + sumW wPs r := by simp [sumW]
    rw [h4, List.length_cons]
    omega
theorem LstD.short {W : World} {base : Nat} {v : Value} {ll : List (List MPair)} {vs : List Value} (h : LstD W base v ll vs) : ∀ l, l ∈ ll → (∀ x, x ∈ l → ShP x) ∧ l.length ≤ 101 := by
  intro l hl
  obtain ⟨j, hj, rfl⟩ := List.getElem_of_mem hl
  exact (h.2 j hj (by have := h.1.1; omega)).2

/-- No list ahead has the key. -/
def NoKey (ll : List (List MPair)) (k : Nat) (key : ByteArray) : Prop := ∀ j, (h : j < ll.length) → j < k → ∀ y, y ∈ ll[j] → y.fKey ≠ key
theorem from_here {ll : List (List MPair)} {x y : MPair} {k : Nat} (h : FromL ll x) (hn : NoKey ll k x.fKey) (hk : k < ll.length) (hy : y ∈ ll[k]) (e : y.fKey = x.fKey) : y = x := by
  obtain ⟨j, hj, hm, h1, h2⟩ := h
  rcases Nat.lt_trichotomy k j with h3 | h3 | h3
  · exact absurd e (h1 k hk h3 y hy)
  · subst h3; exact h2 y hy e
  · exact absurd rfl (hn j hj h3 x hm)
theorem NoKey.succ {ll : List (List MPair)} {key : ByteArray} {k : Nat} (hn : NoKey ll k key) (hk : k < ll.length) (h : ∀ q, (hq : q < ll[k].length) → ll[k][q].fKey ≠ key) : NoKey ll (k + 1) key := by
  intro j hj hjk y hy
  by_cases hlt : j < k
  · exact hn j hj hlt y hy
  · obtain rfl : j = k := by omega
    obtain ⟨q, hq, rfl⟩ := List.getElem_of_mem hy
    exact h q hq
theorem mrg_weight (ll : List (List MPair)) (drop : Bool) : (mrgP ll drop).length + sumW wPair (mrgP ll drop) ≤ sumW wPs ll := by
  have h1 := foldM_le ll ll.length
  rw [List.take_length] at h1
  have h2 := sumW_sublist' (f := wPair) (List.filter_sublist (p := fun p => !p.fGone) (l := foldM ll))
  have h3 := (List.filter_sublist (p := fun p => !p.fGone) (l := foldM ll)).length_le
  unfold mrgP thereP
  split
  · split
    · omega
    · omega
  · simp [sumW]
/-- The cell of a list of lists, for whatever comes below. -/
theorem list_cell {w wr : World} {a : Option Addr} {c k : Nat} {ll : List (List MPair)} (h : LeafL 1 rPr w.heap.size w a c ll) (hb : Below w.heap.size w wr) (hk : k < ll.length) :
    ∃ b o au cu, a = some ⟨b, o, none⟩ ∧ (∀ W, Below wr.heap.size wr W → W.cell? ⟨b, o + k, none⟩ = some (.slice au ll[k].length cu)) ∧ LeafL 3 rPair w.heap.size w au cu ll[k] := by
  obtain ⟨b, o, e, hB, cs, _, hcell, au, cu, rfl, hl⟩ := h.2.2 k hk
  have hc : w.cell? ⟨b, o + k, none⟩ = some (.slice au ll[k].length cu) := by simpa using hcell 0 _ rfl
  exact ⟨b, o, au, cu, e, fun W hW => ((bthen hb hW).cell (p := ⟨b, o + k, none⟩) hB).trans hc, hl⟩

theorem range_at {l : List MPair} {f t : ByteArray} {k : Nat} (h : k < l.length) (hi : inside f t l[k] = true) :
    ∃ hlt : (rangeP (l.take k) f t).length < (rangeP l f t).length, (rangeP l f t)[(rangeP (l.take k) f t).length] = l[k] := by
  have e : rangeP l f t = rangeP (l.take k) f t ++ ([l[k]] ++ rangeP (l.drop (k + 1)) f t) := by
    rw [← List.append_assoc, ← range_yes h hi]
    unfold rangeP
    rw [← List.filter_append, List.take_append_drop]
  refine ⟨by rw [e]; simp, ?_⟩
  simp only [e]
  rw [List.getElem_append_right (Nat.le_refl _)]
  simp
def kAb : ByteArray := ⟨#[97, 98]⟩
def kC : ByteArray := ⟨#[99]⟩

set_option maxHeartbeats 16000000 in
theorem law_FnMerged_r (a : Option Addr) (n cap : Nat) (zs : List Int) (w : World) (hx : zs.length = n) (hr : Rd .u8 w.heap.size w a zs) (hT : Tabs w) :
    Calls Tryd.prog 3 #[.slice a n cap] w fun e w' => e = .returned (.bool true) ∧ Below w.heap.size w w' := by
  go_enter Tryd.func3, Tryd.ntmps3
  go_wp2_with fail
  refine (big_any a n cap w).mono ?_
  rintro e w0 ⟨rfl, hw0⟩
  have hw0' := hw0.symm
  clear hw0
  subst hw0'
  by_cases hbig : 1048576 < (n : Int)
  · rw [decide_eq_true hbig]
    go_wp2_with fail
    go_ret
    exact ⟨rfl, Below.refl _ _⟩
  rw [decide_eq_false hbig]
  go_wp2_with fail
  refine (drawMerge_ok a n cap zs w hx (by omega) hr).mono ?_
  rintro e w1 ⟨v, ll, vs, drop, rfl, hD, hl11, hb1⟩
  have hsw := lists_weight hD.short
  have hww : wPss ll ≤ 1048576 := by unfold wPss; omega
  have hsw2 : sumW wPs ll ≤ 48400 := by omega
  have hrd := hD.read
  obtain ⟨a1, c1, rfl, hL1⟩ := hrd
  have HRD : Hid (∀ W, Below w1.heap.size w1 W → rdPss W.heap.size W (.slice a1 ll.length c1) ll) := fun W hb => ⟨a1, c1, rfl, (hL1.below rPr_good hb).mono rPr_good hb.size⟩
  have HTB : Hid (∀ W, Below w1.heap.size w1 W → Tabs W) := fun W hb => hT.below (bthen hb1 hb)
  have HL1 := Hid.mk hL1
  have HSH : Hid (∀ l, l ∈ ll → l.length ≤ 101) := fun l hl => (hD.short l hl).2
  clear hD hsw hT hL1
  go_wp2_with fail
  refine (implMerge_c _ ll drop w1 (HRD.out _ (Below.refl _ _)) hww (HTB.out _ (Below.refl _ _))).mono ?_
  rintro e w2 ⟨v2, F2, rfl, ho2, -, -, hx2⟩
  obtain ⟨M, HM⟩ : ∃ M, Hid (M = mrgP ll drop) := ⟨_, Hid.mk rfl⟩
  have HALL := Hid.mk (mrg_all ll drop)
  have hMw : M.length ≤ 1048576 ∧ wPs M ≤ 1048576 := by
    rw [HM.out]
    have := mrg_weight ll drop
    unfold wPs
    omega
  rw [← HM.out] at ho2 HALL
  obtain ⟨a2, c2, rfl, hL2⟩ : rdPs w2.heap.size w2 v2 M := by
    obtain ⟨a2, c2, rfl, _⟩ := ownS.read oPair_good ho2
    exact ⟨a2, c2, rfl, ownS.leaf oPair_good ho2⟩
  clear ho2
  go_wp2_with fail
  refine (specMerge_c _ ll drop w2 (HRD.out _ hx2) hww).mono ?_
  rintro e w3 ⟨v3, rfl, hR3, hx3⟩
  rw [← HM.out] at hR3
  obtain ⟨a3, c3, rfl, hL3⟩ := hR3
  have hL23 := (hL2.below rPair_good hx3).mono rPair_good hx3.size
  have hb23 := bthen hx2 hx3
  go_wp2_with fail
  refine (samePairs_yes a2 a3 c2 c3 M w3 hL23 hL3).mono ?_
  rintro e w4 ⟨rfl, hx4⟩
  have HL4 := Hid.mk ((hL23.below rPair_good hx4).mono rPair_good hx4.size)
  have hb24 := bthen hb23 hx4
  clear hL2 hL3 hL23 hx3 hx4 hb23 hx2
  go_wp2_with fail
  go_loopw [6] (fun iv wr => ∃ i : Nat, i ≤ M.length ∧ iv = .int .i64 i ∧ Below w4.heap.size w4 wr) (fun iv _ => M.length - (intOf iv).toNat)
  case atStart => exact ⟨0, Nat.zero_le _, rfl, Below.refl _ _⟩
  case round =>
    obtain ⟨i, hi, rfl, hbi⟩ := hrel
    have hb1i := bthen hb24 hbi
    by_cases hlt : i < M.length
    · obtain ⟨b2, o2, rfl, u0, u1, u2⟩ := pair_cells HL4.out hbi hlt
      have HFR := Hid.mk (HALL.out.2.2 M[i] (List.getElem_mem hlt))
      have HGO := Hid.mk (fun h => HALL.out.2.1 h M[i] (List.getElem_mem hlt))
      by_cases h0 : i = 0
      · subst h0
        generalize M[0] = x at *
        simp only [Nat.zero_mul, Nat.add_zero] at u0 u1 u2
        cases drop with
        | true =>
          have HGX := Hid.mk (HGO.out rfl)
          rw [HGX.out] at u2
          clear HGO
          go_wp2_with fail
          refine wp_region_held_drew (S := fun W => Below wr.heap.size wr W) (by kernel_rfl) (Below.drew (Below.refl _ _)) (fun hHeld => ?_)
          refine tk 0 q032_3_10_0 (some 35) (v := ?v1) rfl rfl (by kernel_rfl) hHeld (by rfl) (fun _ _ _ x => x) (fun w h => ?y1) ?_; (case y1 => (try dsimp only at h); go_simp; try (with_reducible rfl)); try simp only [Act.put, sa, s0, s1]
          refine tk 1 q032_3_10_1 (some 36) (v := ?v2) rfl rfl (by kernel_rfl) hHeld (by rfl) (fun _ _ _ x => x) (fun w h => ?y2) ?_; (case y2 => (try dsimp only at h); go_simp; try (with_reducible rfl)); try simp only [Act.put, sa, s0, s1]
          refine tk 2 q032_3_10_2 (some 37) (v := ?v3) rfl rfl (by kernel_rfl) hHeld (by rfl) (fun _ _ _ x => x) (fun w h => ?y3) ?_; (case y3 => (try dsimp only at h); go_simp; try (with_reducible rfl)); try simp only [Act.put, sa, s0, s1]
          refine tn 3 q032_3_10_3 (some 38) rfl rfl (by kernel_rfl) hHeld (by rfl) (fun _ _ _ x => x) ?_; try simp only [Act.put, sa, s0, s1]
          refine tn 4 q032_3_10_4 (some 39) rfl rfl (by kernel_rfl) hHeld (by rfl) (fun _ _ _ x => x) ?_; try simp only [Act.put, sa, s0, s1]
          refine tn 5 q032_3_10_5 (some 40) rfl rfl (by kernel_rfl) hHeld (by rfl) (fun _ _ _ x => x) ?_; try simp only [Act.put, sa, s0, s1]
          refine tn 6 q032_3_10_6 (some 41) rfl rfl (by kernel_rfl) hHeld (by rfl) (fun _ _ _ x => x) ?_; try simp only [Act.put, sa, s0, s1]
          refine tn 7 q032_3_10_7 (some 42) rfl rfl (by kernel_rfl) hHeld (by rfl) (fun _ _ _ x => x) ?_; try simp only [Act.put, sa, s0, s1]
          refine tn 8 q032_3_10_8 (some 43) rfl rfl (by kernel_rfl) hHeld (by rfl) (fun _ _ _ x => x) ?_; try simp only [Act.put, sa, s0, s1]
          refine tn 9 q032_3_10_9 (some 44) rfl rfl (by kernel_rfl) hHeld (by rfl) (fun _ _ _ x => x) ?_; try simp only [Act.put, sa, s0, s1]
          refine tn 10 q032_3_10_10 (some 45) rfl rfl (by kernel_rfl) hHeld (by rfl) (fun _ _ _ x => x) ?_; try simp only [Act.put, sa, s0, s1]
          refine tn 11 q032_3_10_11 (some 46) rfl rfl (by kernel_rfl) hHeld (by rfl) (fun _ _ _ x => x) ?_; try simp only [Act.put, sa, s0, s1]
          refine tn 12 q032_3_10_12 (some 47) rfl rfl (by kernel_rfl) hHeld (by rfl) (fun _ _ _ x => x) ?_; try simp only [Act.put, sa, s0, s1]
          refine tn 13 q032_3_10_13 (some 48) rfl rfl (by kernel_rfl) hHeld (by rfl) (fun _ _ _ x => x) ?_; try simp only [Act.put, sa, s0, s1]
          refine tn 14 q032_3_10_14 (some 49) rfl rfl (by kernel_rfl) hHeld (by rfl) (fun _ _ _ x => x) ?_; try simp only [Act.put, sa, s0, s1]
          refine tk 15 q032_3_10_15 (some 50) (v := ?v16) rfl rfl (by kernel_rfl) hHeld (by rfl) (fun _ _ _ x => x) (fun w h => ?y16) ?_; (case y16 => (try dsimp only at h); go_simp; try (with_reducible rfl)); try simp only [Act.put, sa, s0, s1]
          refine tk 16 q032_3_10_16 (some 51) (v := ?v17) rfl rfl (by kernel_rfl) hHeld (by rfl) (fun _ _ _ x => x) (fun w h => ?y17) ?_; (case y17 => (try dsimp only at h); go_simp; try (with_reducible rfl)); try simp only [Act.put, sa, s0, s1]
          refine tk 17 q032_3_10_17 (some 52) (v := ?v18) rfl rfl (by kernel_rfl) hHeld (by rfl) (fun _ _ _ x => x) (fun w h => ?y18) ?_; (case y18 => (try dsimp only at h); go_simp; try (with_reducible rfl)); try simp only [Act.put, sa, s0, s1]
          refine tk 18 q032_3_10_18 (some 53) (v := ?v19) rfl rfl (by kernel_rfl) hHeld (by rfl) (fun _ _ _ x => x) (fun w h => ?y19) ?_; (case y19 => (try dsimp only at h); go_simp; try (with_reducible rfl)); try simp only [Act.put, sa, s0, s1]
          refine tk 19 q032_3_10_19 (some 54) (v := ?v20) rfl rfl (by kernel_rfl) hHeld (by rfl) (fun _ _ _ x => x) (fun w h => ?y20) ?_; (case y20 => (try dsimp only at h); go_simp; try (with_reducible rfl)); try simp only [Act.put, sa, s0, s1]
          refine tk 20 q032_3_10_20 (some 55) (v := ?v21) rfl rfl (by kernel_rfl) hHeld (by rfl) (fun _ _ _ x => x) (fun w h => ?y21) ?_; (case y21 => (try dsimp only at h); go_simp; try (with_reducible rfl)); try simp only [Act.put, sa, s0, s1]
          refine tk 21 q032_3_10_21 (some 56) (v := ?v22) rfl rfl (by kernel_rfl) hHeld (by rfl) (fun _ _ _ x => x) (fun w h => ?y22) ?_; (case y22 => (try dsimp only at h); go_simp; try (with_reducible rfl)); try simp only [Act.put, sa, s0, s1]
          refine tk 22 q032_3_10_22 (some 57) (v := ?v23) rfl rfl (by kernel_rfl) hHeld (by rfl) (fun _ _ _ x => x) (fun w h => ?y23) ?_; (case y23 => (try dsimp only at h); go_simp; try (with_reducible rfl)); try simp only [Act.put, sa, s0, s1]
          refine tk 23 q032_3_10_23 (some 58) (v := ?v24) rfl rfl (by kernel_rfl) hHeld (by rfl) (fun _ _ _ x => x) (fun w h => ?y24) ?_; (case y24 => (try dsimp only at h); go_simp; try (with_reducible rfl)); try simp only [Act.put, sa, s0, s1]
          refine tk 24 q032_3_10_24 (some 59) (v := ?v25) rfl rfl (by kernel_rfl) hHeld (by rfl) (fun _ _ _ x => x) (fun w h => ?y25) ?_; (case y25 => (try dsimp only at h); go_simp; try (with_reducible rfl)); try simp only [Act.put, sa, s0, s1]
          refine tk 25 q032_3_10_25 (some 60) (v := ?v26) rfl rfl (by kernel_rfl) hHeld (by rfl) (fun _ _ _ x => x) (fun w h => ?y26) ?_; (case y26 => (try dsimp only at h); go_simp; try (with_reducible rfl)); try simp only [Act.put, sa, s0, s1]
          refine wpAnyH_done (by kernel_rfl) ?_ _
          go_wp2_with fail
          have hbi2 := bthen hbi hHeld
          have hb1i2 := bthen hb1i hHeld
          have HU0 : Hid (∀ W, Below wr.drew.heap.size wr.drew W → W.cell? _ = some _) := fun W hW => u0 W (bthen hHeld hW)
          have HU1 : Hid (∀ W, Below wr.drew.heap.size wr.drew W → W.cell? _ = some _) := fun W hW => u1 W (bthen hHeld hW)
          have HU2 : Hid (∀ W, Below wr.drew.heap.size wr.drew W → W.cell? _ = some _) := fun W hW => u2 W (bthen hHeld hW)
          clear u0 u1 u2 hHeld hbi hb1i
          generalize wr.drew = wi at *
          go_loopw [7, 8] (fun fv kv wr => ∃ k : Nat, k ≤ ll.length ∧ kv = .int .i64 k ∧ Below wi.heap.size wi wr ∧ (fv = .bool true ∨ (fv = .bool false ∧ NoKey ll k x.fKey))) (fun _ kv _ => ll.length - (intOf kv).toNat)
          case atStart => exact ⟨0, Nat.zero_le _, rfl, Below.refl _ _, .inr ⟨rfl, fun j _ h => by omega⟩⟩
          case round =>
            obtain ⟨k, hk, rfl, hbk, hf⟩ := hrel
            rcases hf with rfl | ⟨rfl, hno⟩
            · by_cases hkl : k < ll.length
              · go_wp2_with fail
                go_roundw
                case rel => exact ⟨0 + 1, by omega, by go_num, bthen hbi2 hbk⟩
                case measure => simp [intOf]; omega
              · go_wp2_with fail
                go_roundw
                case rel => exact ⟨0 + 1, by omega, by go_num, bthen hbi2 hbk⟩
                case measure => simp [intOf]; omega
            · by_cases hkl : k < ll.length
              · obtain ⟨b4, o4, au, cu, rfl, hck, hLk⟩ := list_cell HL1.out (bthen hb1i2 hbk) hkl
                have HCK := Hid.mk hck
                have HLK := Hid.mk hLk
                have HNO := Hid.mk hno
                have hl101 := HSH.out ll[k] (List.getElem_mem hkl)
                clear hck hLk hno
                go_wp2_with fail
                generalize wr = wk at *
                go_loopw [7, 9] (fun fv nv wr => ∃ m : Nat, m ≤ ll[k].length ∧ nv = .int .i64 m ∧ Below wk.heap.size wk wr ∧ (fv = .bool true ∨ (fv = .bool false ∧ ∀ q, (hq : q < ll[k].length) → q < m → ll[k][q].fKey ≠ x.fKey))) (fun _ nv _ => ll[k].length - (intOf nv).toNat)
                case atStart => exact ⟨0, Nat.zero_le _, rfl, Below.refl _ _, .inr ⟨rfl, fun q _ h => by omega⟩⟩
                case round =>
                  obtain ⟨m, hm, rfl, hbm, hf⟩ := hrel
                  have c0 := HCK.out _ hbm
                  have hbkm := bthen hbk hbm
                  rcases hf with rfl | ⟨rfl, hnn⟩
                  · by_cases hml : m < ll[k].length
                    · go_wp2_with fail
                      go_roundw
                      case rel => exact ⟨k + 1, by omega, by go_num, hbkm, .inl rfl⟩
                      case measure => simp [intOf]; omega
                    · go_wp2_with fail
                      go_roundw
                      case rel => exact ⟨k + 1, by omega, by go_num, hbkm, .inl rfl⟩
                      case measure => simp [intOf]; omega
                  · by_cases hml : m < ll[k].length
                    · have d0 : ∀ W, Below wr.heap.size wr W → _ := fun W hW => HCK.out W (bthen hbm hW)
                      obtain ⟨b5, o5, rfl, y0, y1, y2⟩ := pair_cells HLK.out (bthen hb1i2 hbkm) hml
                      have x0 : ∀ W, Below wr.heap.size wr W → _ := fun W hW => HU0.out W (bthen hbkm hW)
                      have x1 : ∀ W, Below wr.heap.size wr W → _ := fun W hW => HU1.out W (bthen hbkm hW)
                      have x2 : ∀ W, Below wr.heap.size wr W → _ := fun W hW => HU2.out W (bthen hbkm hW)
                      have hme : ll[k][m] ∈ ll[k] := List.getElem_mem hml
                      have HNN := Hid.mk hnn
                      clear hnn
                      by_cases hy : ll[k][m].fKey = x.fKey
                      · have hyx := from_here HFR.out HNO.out hkl hme hy
                        rw [hyx] at y0 y1 y2
                        rw [HGX.out] at y2
                        clear hy hyx hme
                        go_wp2_with fail
                        refine wp_region_held_drew (S := fun W => Below wr.heap.size wr W) (by kernel_rfl) (Below.drew (Below.refl _ _)) (fun hHeld => ?_)
                        refine tk 0 q032_3_19_0 (some 84) (v := ?v27) rfl rfl (by kernel_rfl) hHeld (by rfl) (fun _ _ _ x => x) (fun w h => ?y27) ?_; (case y27 => (try dsimp only at h); go_simp; try (with_reducible rfl)); try simp only [Act.put, sa, s0, s1]
                        refine tk 1 q032_3_19_1 (some 85) (v := ?v28) rfl rfl (by kernel_rfl) hHeld (by rfl) (fun _ _ _ x => x) (fun w h => ?y28) ?_; (case y28 => (try dsimp only at h); go_simp; try (with_reducible rfl)); try simp only [Act.put, sa, s0, s1]
                        refine tk 2 q032_3_19_2 (some 86) (v := ?v29) rfl rfl (by kernel_rfl) hHeld (by rfl) (fun _ _ _ x => x) (fun w h => ?y29) ?_; (case y29 => (try dsimp only at h); go_simp; try (with_reducible rfl)); try simp only [Act.put, sa, s0, s1]
                        refine tk 3 q032_3_19_3 (some 87) (v := ?v30) rfl rfl (by kernel_rfl) hHeld (by rfl) (fun _ _ _ x => x) (fun w h => ?y30) ?_; (case y30 => (try dsimp only at h); go_simp; try (with_reducible rfl)); try simp only [Act.put, sa, s0, s1]
                        refine tk 4 q032_3_19_4 (some 88) (v := ?v31) rfl rfl (by kernel_rfl) hHeld (by rfl) (fun _ _ _ x => x) (fun w h => ?y31) ?_; (case y31 => (try dsimp only at h); go_simp; try (with_reducible rfl)); try simp only [Act.put, sa, s0, s1]
                        refine tk 5 q032_3_19_5 (some 89) (v := ?v32) rfl rfl (by kernel_rfl) hHeld (by rfl) (fun _ _ _ x => x) (fun w h => ?y32) ?_; (case y32 => (try dsimp only at h); go_simp; try (with_reducible rfl)); try simp only [Act.put, sa, s0, s1]
                        refine tk 6 q032_3_19_6 (some 90) (v := ?v33) rfl rfl (by kernel_rfl) hHeld (by rfl) (fun _ _ _ x => x) (fun w h => ?y33) ?_; (case y33 => (try dsimp only at h); go_simp; try (with_reducible rfl)); try simp only [Act.put, sa, s0, s1]
                        refine tk 7 q032_3_19_7 (some 91) (v := ?v34) rfl rfl (by kernel_rfl) hHeld (by rfl) (fun _ _ _ x => x) (fun w h => ?y34) ?_; (case y34 => (try dsimp only at h); go_simp; try (with_reducible rfl)); try simp only [Act.put, sa, s0, s1]
                        refine tk 8 q032_3_19_8 (some 92) (v := ?v35) rfl rfl (by kernel_rfl) hHeld (by rfl) (fun _ _ _ x => x) (fun w h => ?y35) ?_; (case y35 => (try dsimp only at h); go_simp; try (with_reducible rfl)); try simp only [Act.put, sa, s0, s1]
                        refine tk 9 q032_3_19_9 (some 93) (v := ?v36) rfl rfl (by kernel_rfl) hHeld (by rfl) (fun _ _ _ x => x) (fun w h => ?y36) ?_; (case y36 => (try dsimp only at h); go_simp; try (with_reducible rfl)); try simp only [Act.put, sa, s0, s1]
                        refine tk 10 q032_3_19_10 (some 94) (v := ?v37) rfl rfl (by kernel_rfl) hHeld (by rfl) (fun _ _ _ x => x) (fun w h => ?y37) ?_; (case y37 => (try dsimp only at h); go_simp; try (with_reducible rfl)); try simp only [Act.put, sa, s0, s1]
                        refine tk 11 q032_3_19_11 (some 95) (v := ?v38) rfl rfl (by kernel_rfl) hHeld (by rfl) (fun _ _ _ x => x) (fun w h => ?y38) ?_; (case y38 => (try dsimp only at h); go_simp; try (with_reducible rfl)); try simp only [Act.put, sa, s0, s1]
                        refine tk 12 q032_3_19_12 (some 96) (v := ?v39) rfl rfl (by kernel_rfl) hHeld (by rfl) (fun _ _ _ x => x) (fun w h => ?y39) ?_; (case y39 => (try dsimp only at h); go_simp; try (with_reducible rfl)); try simp only [Act.put, sa, s0, s1]
                        refine tk 13 q032_3_19_13 (some 97) (v := ?v40) rfl rfl (by kernel_rfl) hHeld (by rfl) (fun _ _ _ x => x) (fun w h => ?y40) ?_; (case y40 => (try dsimp only at h); go_simp; try (with_reducible rfl)); try simp only [Act.put, sa, s0, s1]
                        refine wpAnyH_done (by kernel_rfl) ?_ _
                        go_wp2_with fail
                        refine wp_region_held_drew (S := fun W => Below wr.heap.size wr W) (by kernel_rfl) (Below.drew hHeld) (fun hHeld => ?_)
                        refine tk 0 q032_3_21_0 (some 98) (v := ?v41) rfl rfl (by kernel_rfl) hHeld (by rfl) (fun _ _ _ x => x) (fun w h => ?y41) ?_; (case y41 => (try dsimp only at h); go_simp; try (with_reducible rfl)); try simp only [Act.put, sa, s0, s1]
                        refine tk 1 q032_3_21_1 (some 99) (v := ?v42) rfl rfl (by kernel_rfl) hHeld (by rfl) (fun _ _ _ x => x) (fun w h => ?y42) ?_; (case y42 => (try dsimp only at h); go_simp; try (with_reducible rfl)); try simp only [Act.put, sa, s0, s1]
                        refine tk 2 q032_3_21_2 (some 100) (v := ?v43) rfl rfl (by kernel_rfl) hHeld (by rfl) (fun _ _ _ x => x) (fun w h => ?y43) ?_; (case y43 => (try dsimp only at h); go_simp; try (with_reducible rfl)); try simp only [Act.put, sa, s0, s1]
                        refine tk 3 q032_3_21_3 (some 101) (v := ?v44) rfl rfl (by kernel_rfl) hHeld (by rfl) (fun _ _ _ x => x) (fun w h => ?y44) ?_; (case y44 => (try dsimp only at h); go_simp; try (with_reducible rfl)); try simp only [Act.put, sa, s0, s1]
                        refine tk 4 q032_3_21_4 (some 102) (v := ?v45) rfl rfl (by kernel_rfl) hHeld (by rfl) (fun _ _ _ x => x) (fun w h => ?y45) ?_; (case y45 => (try dsimp only at h); go_simp; try (with_reducible rfl)); try simp only [Act.put, sa, s0, s1]
                        refine tk 5 q032_3_21_5 (some 103) (v := ?v46) rfl rfl (by kernel_rfl) hHeld (by rfl) (fun _ _ _ x => x) (fun w h => ?y46) ?_; (case y46 => (try dsimp only at h); go_simp; try (with_reducible rfl)); try simp only [Act.put, sa, s0, s1]
                        refine tk 6 q032_3_21_6 (some 104) (v := ?v47) rfl rfl (by kernel_rfl) hHeld (by rfl) (fun _ _ _ x => x) (fun w h => ?y47) ?_; (case y47 => (try dsimp only at h); go_simp; try (with_reducible rfl)); try simp only [Act.put, sa, s0, s1]
                        refine tk 7 q032_3_21_7 (some 105) (v := ?v48) rfl rfl (by kernel_rfl) hHeld (by rfl) (fun _ _ _ x => x) (fun w h => ?y48) ?_; (case y48 => (try dsimp only at h); go_simp; try (with_reducible rfl)); try simp only [Act.put, sa, s0, s1]
                        refine tk 8 q032_3_21_8 (some 106) (v := ?v49) rfl rfl (by kernel_rfl) hHeld (by rfl) (fun _ _ _ x => x) (fun w h => ?y49) ?_; (case y49 => (try dsimp only at h); go_simp; try (with_reducible rfl)); try simp only [Act.put, sa, s0, s1]
                        refine tk 9 q032_3_21_9 (some 107) (v := ?v50) rfl rfl (by kernel_rfl) hHeld (by rfl) (fun _ _ _ x => x) (fun w h => ?y50) ?_; (case y50 => (try dsimp only at h); go_simp; try (with_reducible rfl)); try simp only [Act.put, sa, s0, s1]
                        refine tk 10 q032_3_21_10 (some 108) (v := ?v51) rfl rfl (by kernel_rfl) hHeld (by rfl) (fun _ _ _ x => x) (fun w h => ?y51) ?_; (case y51 => (try dsimp only at h); go_simp; try (with_reducible rfl)); try simp only [Act.put, sa, s0, s1]
                        refine tk 11 q032_3_21_11 (some 109) (v := ?v52) rfl rfl (by kernel_rfl) hHeld (by rfl) (fun _ _ _ x => x) (fun w h => ?y52) ?_; (case y52 => (try dsimp only at h); go_simp; try (with_reducible rfl)); try simp only [Act.put, sa, s0, s1]
                        refine wpAnyH_done (by kernel_rfl) ?_ _
                        go_wp2_with fail
                        go_roundw
                        case rel => exact ⟨m + 1, by omega, by go_num, bthen hbm hHeld, .inl rfl⟩
                        case measure => simp [intOf]; omega
                      · have HNS2 : Hid (∀ q, (hq : q < ll[k].length) → q < m + 1 → ll[k][q].fKey ≠ x.fKey) := fun q hq hqm => by
                          by_cases hlt' : q < m
                          · exact HNN.out q hq hlt'
                          · obtain rfl : q = m := by omega
                            exact hy
                        have hq1 : (ll[k][m].fKey.toList == x.fKey.toList) = false := beq_eq_false_iff_ne.2 (fun e => hy (by rw [ByteArray.toList_eq, ByteArray.toList_eq] at e; exact ByteArray.ext (Array.toList_inj.1 e)))
                        generalize ll[k][m].fKey = ky at *
                        clear hme
                        go_wp2_with fail
                        refine wp_region_held_drew (S := fun W => Below wr.heap.size wr W) (by kernel_rfl) (Below.drew (Below.refl _ _)) (fun hHeld => ?_)
                        refine tk 0 q032_3_19_0 (some 84) (v := ?v53) rfl rfl (by kernel_rfl) hHeld (by rfl) (fun _ _ _ x => x) (fun w h => ?y53) ?_; (case y53 => (try dsimp only at h); go_simp; try (with_reducible rfl)); try simp only [Act.put, sa, s0, s1]
                        refine tk 1 q032_3_19_1 (some 85) (v := ?v54) rfl rfl (by kernel_rfl) hHeld (by rfl) (fun _ _ _ x => x) (fun w h => ?y54) ?_; (case y54 => (try dsimp only at h); go_simp; try (with_reducible rfl)); try simp only [Act.put, sa, s0, s1]
                        refine tk 2 q032_3_19_2 (some 86) (v := ?v55) rfl rfl (by kernel_rfl) hHeld (by rfl) (fun _ _ _ x => x) (fun w h => ?y55) ?_; (case y55 => (try dsimp only at h); go_simp; try (with_reducible rfl)); try simp only [Act.put, sa, s0, s1]
                        refine tk 3 q032_3_19_3 (some 87) (v := ?v56) rfl rfl (by kernel_rfl) hHeld (by rfl) (fun _ _ _ x => x) (fun w h => ?y56) ?_; (case y56 => (try dsimp only at h); go_simp; try (with_reducible rfl)); try simp only [Act.put, sa, s0, s1]
                        refine tk 4 q032_3_19_4 (some 88) (v := ?v57) rfl rfl (by kernel_rfl) hHeld (by rfl) (fun _ _ _ x => x) (fun w h => ?y57) ?_; (case y57 => (try dsimp only at h); go_simp; try (with_reducible rfl)); try simp only [Act.put, sa, s0, s1]
                        refine tk 5 q032_3_19_5 (some 89) (v := ?v58) rfl rfl (by kernel_rfl) hHeld (by rfl) (fun _ _ _ x => x) (fun w h => ?y58) ?_; (case y58 => (try dsimp only at h); go_simp; try (with_reducible rfl)); try simp only [Act.put, sa, s0, s1]
                        refine tk 6 q032_3_19_6 (some 90) (v := ?v59) rfl rfl (by kernel_rfl) hHeld (by rfl) (fun _ _ _ x => x) (fun w h => ?y59) ?_; (case y59 => (try dsimp only at h); go_simp; try (with_reducible rfl)); try simp only [Act.put, sa, s0, s1]
                        refine tk 7 q032_3_19_7 (some 91) (v := ?v60) rfl rfl (by kernel_rfl) hHeld (by rfl) (fun _ _ _ x => x) (fun w h => ?y60) ?_; (case y60 => (try dsimp only at h); go_simp; try (with_reducible rfl)); try simp only [Act.put, sa, s0, s1]
                        refine tk 8 q032_3_19_8 (some 92) (v := ?v61) rfl rfl (by kernel_rfl) hHeld (by rfl) (fun _ _ _ x => x) (fun w h => ?y61) ?_; (case y61 => (try dsimp only at h); go_simp; try (with_reducible rfl)); try simp only [Act.put, sa, s0, s1]
                        refine tk 9 q032_3_19_9 (some 93) (v := ?v62) rfl rfl (by kernel_rfl) hHeld (by rfl) (fun _ _ _ x => x) (fun w h => ?y62) ?_; (case y62 => (try dsimp only at h); go_simp; try (with_reducible rfl)); try simp only [Act.put, sa, s0, s1]
                        refine tk 10 q032_3_19_10 (some 94) (v := ?v63) rfl rfl (by kernel_rfl) hHeld (by rfl) (fun _ _ _ x => x) (fun w h => ?y63) ?_; (case y63 => (try dsimp only at h); go_simp; try (with_reducible rfl)); try simp only [Act.put, sa, s0, s1]
                        refine tk 11 q032_3_19_11 (some 95) (v := ?v64) rfl rfl (by kernel_rfl) hHeld (by rfl) (fun _ _ _ x => x) (fun w h => ?y64) ?_; (case y64 => (try dsimp only at h); go_simp; try (with_reducible rfl)); try simp only [Act.put, sa, s0, s1]
                        refine tk 12 q032_3_19_12 (some 96) (v := ?v65) rfl rfl (by kernel_rfl) hHeld (by rfl) (fun _ _ _ x => x) (fun w h => ?y65) ?_; (case y65 => (try dsimp only at h); go_simp; try (with_reducible rfl)); try simp only [Act.put, sa, s0, s1]
                        refine tk 13 q032_3_19_13 (some 97) (v := ?v66) rfl rfl (by kernel_rfl) hHeld (by rfl) (fun _ _ _ x => x) (fun w h => ?y66) ?_; (case y66 => (try dsimp only at h); go_simp; try (with_reducible rfl)); try simp only [Act.put, sa, s0, s1]
                        refine wpAnyH_done (by kernel_rfl) ?_ _
                        go_wp2_with fail
                        go_roundw
                        case rel => exact ⟨m + 1, by omega, by go_num, bthen hbm hHeld, .inr ⟨rfl, HNS2.out⟩⟩
                        case measure => simp [intOf]; omega
                    · have HNS := Hid.mk (HNO.out.succ hkl (fun q hq => hnn q hq (by omega)))
                      clear hnn
                      go_wp2_with fail
                      go_roundw
                      case rel => exact ⟨k + 1, by omega, by go_num, hbkm, .inr ⟨rfl, HNS.out⟩⟩
                      case measure => simp [intOf]; omega
              · obtain ⟨j, hj, hm, _⟩ := HFR.out
                exact absurd rfl (hno j hj (by omega) x hm)
        | false =>
          clear HGO
          go_wp2_with fail
          refine wp_region_held_drew (S := fun W => Below wr.heap.size wr W) (by kernel_rfl) (Below.drew (Below.refl _ _)) (fun hHeld => ?_)
          refine tk 0 q032_3_10_0 (some 35) (v := ?v67) rfl rfl (by kernel_rfl) hHeld (by rfl) (fun _ _ _ x => x) (fun w h => ?y67) ?_; (case y67 => (try dsimp only at h); go_simp; try (with_reducible rfl)); try simp only [Act.put, sa, s0, s1]
          refine tk 1 q032_3_10_1 (some 36) (v := ?v68) rfl rfl (by kernel_rfl) hHeld (by rfl) (fun _ _ _ x => x) (fun w h => ?y68) ?_; (case y68 => (try dsimp only at h); go_simp; try (with_reducible rfl)); try simp only [Act.put, sa, s0, s1]
          refine tk 2 q032_3_10_2 (some 37) (v := ?v69) rfl rfl (by kernel_rfl) hHeld (by rfl) (fun _ _ _ x => x) (fun w h => ?y69) ?_; (case y69 => (try dsimp only at h); go_simp; try (with_reducible rfl)); try simp only [Act.put, sa, s0, s1]
          refine tn 3 q032_3_10_3 (some 38) rfl rfl (by kernel_rfl) hHeld (by rfl) (fun _ _ _ x => x) ?_; try simp only [Act.put, sa, s0, s1]
          refine tn 4 q032_3_10_4 (some 39) rfl rfl (by kernel_rfl) hHeld (by rfl) (fun _ _ _ x => x) ?_; try simp only [Act.put, sa, s0, s1]
          refine tn 5 q032_3_10_5 (some 40) rfl rfl (by kernel_rfl) hHeld (by rfl) (fun _ _ _ x => x) ?_; try simp only [Act.put, sa, s0, s1]
          refine tn 6 q032_3_10_6 (some 41) rfl rfl (by kernel_rfl) hHeld (by rfl) (fun _ _ _ x => x) ?_; try simp only [Act.put, sa, s0, s1]
          refine tn 7 q032_3_10_7 (some 42) rfl rfl (by kernel_rfl) hHeld (by rfl) (fun _ _ _ x => x) ?_; try simp only [Act.put, sa, s0, s1]
          refine tn 8 q032_3_10_8 (some 43) rfl rfl (by kernel_rfl) hHeld (by rfl) (fun _ _ _ x => x) ?_; try simp only [Act.put, sa, s0, s1]
          refine tn 9 q032_3_10_9 (some 44) rfl rfl (by kernel_rfl) hHeld (by rfl) (fun _ _ _ x => x) ?_; try simp only [Act.put, sa, s0, s1]
          refine tn 10 q032_3_10_10 (some 45) rfl rfl (by kernel_rfl) hHeld (by rfl) (fun _ _ _ x => x) ?_; try simp only [Act.put, sa, s0, s1]
          refine tn 11 q032_3_10_11 (some 46) rfl rfl (by kernel_rfl) hHeld (by rfl) (fun _ _ _ x => x) ?_; try simp only [Act.put, sa, s0, s1]
          refine tn 12 q032_3_10_12 (some 47) rfl rfl (by kernel_rfl) hHeld (by rfl) (fun _ _ _ x => x) ?_; try simp only [Act.put, sa, s0, s1]
          refine tn 13 q032_3_10_13 (some 48) rfl rfl (by kernel_rfl) hHeld (by rfl) (fun _ _ _ x => x) ?_; try simp only [Act.put, sa, s0, s1]
          refine tn 14 q032_3_10_14 (some 49) rfl rfl (by kernel_rfl) hHeld (by rfl) (fun _ _ _ x => x) ?_; try simp only [Act.put, sa, s0, s1]
          refine tk 15 q032_3_10_15 (some 50) (v := ?v82) rfl rfl (by kernel_rfl) hHeld (by rfl) (fun _ _ _ x => x) (fun w h => ?y82) ?_; (case y82 => (try dsimp only at h); go_simp; try (with_reducible rfl)); try simp only [Act.put, sa, s0, s1]
          refine tk 16 q032_3_10_16 (some 51) (v := ?v83) rfl rfl (by kernel_rfl) hHeld (by rfl) (fun _ _ _ x => x) (fun w h => ?y83) ?_; (case y83 => (try dsimp only at h); go_simp; try (with_reducible rfl)); try simp only [Act.put, sa, s0, s1]
          refine tk 17 q032_3_10_17 (some 52) (v := ?v84) rfl rfl (by kernel_rfl) hHeld (by rfl) (fun _ _ _ x => x) (fun w h => ?y84) ?_; (case y84 => (try dsimp only at h); go_simp; try (with_reducible rfl)); try simp only [Act.put, sa, s0, s1]
          refine tk 18 q032_3_10_18 (some 53) (v := ?v85) rfl rfl (by kernel_rfl) hHeld (by rfl) (fun _ _ _ x => x) (fun w h => ?y85) ?_; (case y85 => (try dsimp only at h); go_simp; try (with_reducible rfl)); try simp only [Act.put, sa, s0, s1]
          refine tn 19 q032_3_10_19 (some 54) rfl rfl (by kernel_rfl) hHeld (by rfl) (fun _ _ _ x => x) ?_; try simp only [Act.put, sa, s0, s1]
          refine tn 20 q032_3_10_20 (some 55) rfl rfl (by kernel_rfl) hHeld (by rfl) (fun _ _ _ x => x) ?_; try simp only [Act.put, sa, s0, s1]
          refine tn 21 q032_3_10_21 (some 56) rfl rfl (by kernel_rfl) hHeld (by rfl) (fun _ _ _ x => x) ?_; try simp only [Act.put, sa, s0, s1]
          refine tn 22 q032_3_10_22 (some 57) rfl rfl (by kernel_rfl) hHeld (by rfl) (fun _ _ _ x => x) ?_; try simp only [Act.put, sa, s0, s1]
          refine tn 23 q032_3_10_23 (some 58) rfl rfl (by kernel_rfl) hHeld (by rfl) (fun _ _ _ x => x) ?_; try simp only [Act.put, sa, s0, s1]
          refine tk 24 q032_3_10_24 (some 59) (v := ?v91) rfl rfl (by kernel_rfl) hHeld (by rfl) (fun _ _ _ x => x) (fun w h => ?y91) ?_; (case y91 => (try dsimp only at h); go_simp; try (with_reducible rfl)); try simp only [Act.put, sa, s0, s1]
          refine tk 25 q032_3_10_25 (some 60) (v := ?v92) rfl rfl (by kernel_rfl) hHeld (by rfl) (fun _ _ _ x => x) (fun w h => ?y92) ?_; (case y92 => (try dsimp only at h); go_simp; try (with_reducible rfl)); try simp only [Act.put, sa, s0, s1]
          refine wpAnyH_done (by kernel_rfl) ?_ _
          go_wp2_with fail
          have hbi2 := bthen hbi hHeld
          have hb1i2 := bthen hb1i hHeld
          have HU0 : Hid (∀ W, Below wr.drew.heap.size wr.drew W → W.cell? _ = some _) := fun W hW => u0 W (bthen hHeld hW)
          have HU1 : Hid (∀ W, Below wr.drew.heap.size wr.drew W → W.cell? _ = some _) := fun W hW => u1 W (bthen hHeld hW)
          have HU2 : Hid (∀ W, Below wr.drew.heap.size wr.drew W → W.cell? _ = some _) := fun W hW => u2 W (bthen hHeld hW)
          clear u0 u1 u2 hHeld hbi hb1i
          generalize wr.drew = wi at *
          go_loopw [7, 8] (fun fv kv wr => ∃ k : Nat, k ≤ ll.length ∧ kv = .int .i64 k ∧ Below wi.heap.size wi wr ∧ (fv = .bool true ∨ (fv = .bool false ∧ NoKey ll k x.fKey))) (fun _ kv _ => ll.length - (intOf kv).toNat)
          case atStart => exact ⟨0, Nat.zero_le _, rfl, Below.refl _ _, .inr ⟨rfl, fun j _ h => by omega⟩⟩
          case round =>
            obtain ⟨k, hk, rfl, hbk, hf⟩ := hrel
            rcases hf with rfl | ⟨rfl, hno⟩
            · by_cases hkl : k < ll.length
              · go_wp2_with fail
                go_roundw
                case rel => exact ⟨0 + 1, by omega, by go_num, bthen hbi2 hbk⟩
                case measure => simp [intOf]; omega
              · go_wp2_with fail
                go_roundw
                case rel => exact ⟨0 + 1, by omega, by go_num, bthen hbi2 hbk⟩
                case measure => simp [intOf]; omega
            · by_cases hkl : k < ll.length
              · obtain ⟨b4, o4, au, cu, rfl, hck, hLk⟩ := list_cell HL1.out (bthen hb1i2 hbk) hkl
                have HCK := Hid.mk hck
                have HLK := Hid.mk hLk
                have HNO := Hid.mk hno
                have hl101 := HSH.out ll[k] (List.getElem_mem hkl)
                clear hck hLk hno
                go_wp2_with fail
                generalize wr = wk at *
                go_loopw [7, 9] (fun fv nv wr => ∃ m : Nat, m ≤ ll[k].length ∧ nv = .int .i64 m ∧ Below wk.heap.size wk wr ∧ (fv = .bool true ∨ (fv = .bool false ∧ ∀ q, (hq : q < ll[k].length) → q < m → ll[k][q].fKey ≠ x.fKey))) (fun _ nv _ => ll[k].length - (intOf nv).toNat)
                case atStart => exact ⟨0, Nat.zero_le _, rfl, Below.refl _ _, .inr ⟨rfl, fun q _ h => by omega⟩⟩
                case round =>
                  obtain ⟨m, hm, rfl, hbm, hf⟩ := hrel
                  have c0 := HCK.out _ hbm
                  have hbkm := bthen hbk hbm
                  rcases hf with rfl | ⟨rfl, hnn⟩
                  · by_cases hml : m < ll[k].length
                    · go_wp2_with fail
                      go_roundw
                      case rel => exact ⟨k + 1, by omega, by go_num, hbkm, .inl rfl⟩
                      case measure => simp [intOf]; omega
                    · go_wp2_with fail
                      go_roundw
                      case rel => exact ⟨k + 1, by omega, by go_num, hbkm, .inl rfl⟩
                      case measure => simp [intOf]; omega
                  · by_cases hml : m < ll[k].length
                    · have d0 : ∀ W, Below wr.heap.size wr W → _ := fun W hW => HCK.out W (bthen hbm hW)
                      obtain ⟨b5, o5, rfl, y0, y1, y2⟩ := pair_cells HLK.out (bthen hb1i2 hbkm) hml
                      have x0 : ∀ W, Below wr.heap.size wr W → _ := fun W hW => HU0.out W (bthen hbkm hW)
                      have x1 : ∀ W, Below wr.heap.size wr W → _ := fun W hW => HU1.out W (bthen hbkm hW)
                      have x2 : ∀ W, Below wr.heap.size wr W → _ := fun W hW => HU2.out W (bthen hbkm hW)
                      have hme : ll[k][m] ∈ ll[k] := List.getElem_mem hml
                      have HNN := Hid.mk hnn
                      clear hnn
                      by_cases hy : ll[k][m].fKey = x.fKey
                      · have hyx := from_here HFR.out HNO.out hkl hme hy
                        rw [hyx] at y0 y1 y2
                        clear hy hyx hme
                        go_wp2_with fail
                        refine wp_region_held_drew (S := fun W => Below wr.heap.size wr W) (by kernel_rfl) (Below.drew (Below.refl _ _)) (fun hHeld => ?_)
                        refine tk 0 q032_3_19_0 (some 84) (v := ?v93) rfl rfl (by kernel_rfl) hHeld (by rfl) (fun _ _ _ x => x) (fun w h => ?y93) ?_; (case y93 => (try dsimp only at h); go_simp; try (with_reducible rfl)); try simp only [Act.put, sa, s0, s1]
                        refine tk 1 q032_3_19_1 (some 85) (v := ?v94) rfl rfl (by kernel_rfl) hHeld (by rfl) (fun _ _ _ x => x) (fun w h => ?y94) ?_; (case y94 => (try dsimp only at h); go_simp; try (with_reducible rfl)); try simp only [Act.put, sa, s0, s1]
                        refine tk 2 q032_3_19_2 (some 86) (v := ?v95) rfl rfl (by kernel_rfl) hHeld (by rfl) (fun _ _ _ x => x) (fun w h => ?y95) ?_; (case y95 => (try dsimp only at h); go_simp; try (with_reducible rfl)); try simp only [Act.put, sa, s0, s1]
                        refine tk 3 q032_3_19_3 (some 87) (v := ?v96) rfl rfl (by kernel_rfl) hHeld (by rfl) (fun _ _ _ x => x) (fun w h => ?y96) ?_; (case y96 => (try dsimp only at h); go_simp; try (with_reducible rfl)); try simp only [Act.put, sa, s0, s1]
                        refine tk 4 q032_3_19_4 (some 88) (v := ?v97) rfl rfl (by kernel_rfl) hHeld (by rfl) (fun _ _ _ x => x) (fun w h => ?y97) ?_; (case y97 => (try dsimp only at h); go_simp; try (with_reducible rfl)); try simp only [Act.put, sa, s0, s1]
                        refine tk 5 q032_3_19_5 (some 89) (v := ?v98) rfl rfl (by kernel_rfl) hHeld (by rfl) (fun _ _ _ x => x) (fun w h => ?y98) ?_; (case y98 => (try dsimp only at h); go_simp; try (with_reducible rfl)); try simp only [Act.put, sa, s0, s1]
                        refine tk 6 q032_3_19_6 (some 90) (v := ?v99) rfl rfl (by kernel_rfl) hHeld (by rfl) (fun _ _ _ x => x) (fun w h => ?y99) ?_; (case y99 => (try dsimp only at h); go_simp; try (with_reducible rfl)); try simp only [Act.put, sa, s0, s1]
                        refine tk 7 q032_3_19_7 (some 91) (v := ?v100) rfl rfl (by kernel_rfl) hHeld (by rfl) (fun _ _ _ x => x) (fun w h => ?y100) ?_; (case y100 => (try dsimp only at h); go_simp; try (with_reducible rfl)); try simp only [Act.put, sa, s0, s1]
                        refine tk 8 q032_3_19_8 (some 92) (v := ?v101) rfl rfl (by kernel_rfl) hHeld (by rfl) (fun _ _ _ x => x) (fun w h => ?y101) ?_; (case y101 => (try dsimp only at h); go_simp; try (with_reducible rfl)); try simp only [Act.put, sa, s0, s1]
                        refine tk 9 q032_3_19_9 (some 93) (v := ?v102) rfl rfl (by kernel_rfl) hHeld (by rfl) (fun _ _ _ x => x) (fun w h => ?y102) ?_; (case y102 => (try dsimp only at h); go_simp; try (with_reducible rfl)); try simp only [Act.put, sa, s0, s1]
                        refine tk 10 q032_3_19_10 (some 94) (v := ?v103) rfl rfl (by kernel_rfl) hHeld (by rfl) (fun _ _ _ x => x) (fun w h => ?y103) ?_; (case y103 => (try dsimp only at h); go_simp; try (with_reducible rfl)); try simp only [Act.put, sa, s0, s1]
                        refine tk 11 q032_3_19_11 (some 95) (v := ?v104) rfl rfl (by kernel_rfl) hHeld (by rfl) (fun _ _ _ x => x) (fun w h => ?y104) ?_; (case y104 => (try dsimp only at h); go_simp; try (with_reducible rfl)); try simp only [Act.put, sa, s0, s1]
                        refine tk 12 q032_3_19_12 (some 96) (v := ?v105) rfl rfl (by kernel_rfl) hHeld (by rfl) (fun _ _ _ x => x) (fun w h => ?y105) ?_; (case y105 => (try dsimp only at h); go_simp; try (with_reducible rfl)); try simp only [Act.put, sa, s0, s1]
                        refine tk 13 q032_3_19_13 (some 97) (v := ?v106) rfl rfl (by kernel_rfl) hHeld (by rfl) (fun _ _ _ x => x) (fun w h => ?y106) ?_; (case y106 => (try dsimp only at h); go_simp; try (with_reducible rfl)); try simp only [Act.put, sa, s0, s1]
                        refine wpAnyH_done (by kernel_rfl) ?_ _
                        go_wp2_with fail
                        refine wp_region_held_drew (S := fun W => Below wr.heap.size wr W) (by kernel_rfl) (Below.drew hHeld) (fun hHeld => ?_)
                        refine tk 0 q032_3_21_0 (some 98) (v := ?v107) rfl rfl (by kernel_rfl) hHeld (by rfl) (fun _ _ _ x => x) (fun w h => ?y107) ?_; (case y107 => (try dsimp only at h); go_simp; try (with_reducible rfl)); try simp only [Act.put, sa, s0, s1]
                        refine tk 1 q032_3_21_1 (some 99) (v := ?v108) rfl rfl (by kernel_rfl) hHeld (by rfl) (fun _ _ _ x => x) (fun w h => ?y108) ?_; (case y108 => (try dsimp only at h); go_simp; try (with_reducible rfl)); try simp only [Act.put, sa, s0, s1]
                        refine tk 2 q032_3_21_2 (some 100) (v := ?v109) rfl rfl (by kernel_rfl) hHeld (by rfl) (fun _ _ _ x => x) (fun w h => ?y109) ?_; (case y109 => (try dsimp only at h); go_simp; try (with_reducible rfl)); try simp only [Act.put, sa, s0, s1]
                        refine tk 3 q032_3_21_3 (some 101) (v := ?v110) rfl rfl (by kernel_rfl) hHeld (by rfl) (fun _ _ _ x => x) (fun w h => ?y110) ?_; (case y110 => (try dsimp only at h); go_simp; try (with_reducible rfl)); try simp only [Act.put, sa, s0, s1]
                        refine tk 4 q032_3_21_4 (some 102) (v := ?v111) rfl rfl (by kernel_rfl) hHeld (by rfl) (fun _ _ _ x => x) (fun w h => ?y111) ?_; (case y111 => (try dsimp only at h); go_simp; try (with_reducible rfl)); try simp only [Act.put, sa, s0, s1]
                        refine tk 5 q032_3_21_5 (some 103) (v := ?v112) rfl rfl (by kernel_rfl) hHeld (by rfl) (fun _ _ _ x => x) (fun w h => ?y112) ?_; (case y112 => (try dsimp only at h); go_simp; try (with_reducible rfl)); try simp only [Act.put, sa, s0, s1]
                        refine tk 6 q032_3_21_6 (some 104) (v := ?v113) rfl rfl (by kernel_rfl) hHeld (by rfl) (fun _ _ _ x => x) (fun w h => ?y113) ?_; (case y113 => (try dsimp only at h); go_simp; try (with_reducible rfl)); try simp only [Act.put, sa, s0, s1]
                        refine tk 7 q032_3_21_7 (some 105) (v := ?v114) rfl rfl (by kernel_rfl) hHeld (by rfl) (fun _ _ _ x => x) (fun w h => ?y114) ?_; (case y114 => (try dsimp only at h); go_simp; try (with_reducible rfl)); try simp only [Act.put, sa, s0, s1]
                        refine tk 8 q032_3_21_8 (some 106) (v := ?v115) rfl rfl (by kernel_rfl) hHeld (by rfl) (fun _ _ _ x => x) (fun w h => ?y115) ?_; (case y115 => (try dsimp only at h); go_simp; try (with_reducible rfl)); try simp only [Act.put, sa, s0, s1]
                        refine tk 9 q032_3_21_9 (some 107) (v := ?v116) rfl rfl (by kernel_rfl) hHeld (by rfl) (fun _ _ _ x => x) (fun w h => ?y116) ?_; (case y116 => (try dsimp only at h); go_simp; try (with_reducible rfl)); try simp only [Act.put, sa, s0, s1]
                        refine tk 10 q032_3_21_10 (some 108) (v := ?v117) rfl rfl (by kernel_rfl) hHeld (by rfl) (fun _ _ _ x => x) (fun w h => ?y117) ?_; (case y117 => (try dsimp only at h); go_simp; try (with_reducible rfl)); try simp only [Act.put, sa, s0, s1]
                        refine tk 11 q032_3_21_11 (some 109) (v := ?v118) rfl rfl (by kernel_rfl) hHeld (by rfl) (fun _ _ _ x => x) (fun w h => ?y118) ?_; (case y118 => (try dsimp only at h); go_simp; try (with_reducible rfl)); try simp only [Act.put, sa, s0, s1]
                        refine wpAnyH_done (by kernel_rfl) ?_ _
                        go_wp2_with fail
                        go_roundw
                        case rel => exact ⟨m + 1, by omega, by go_num, bthen hbm hHeld, .inl rfl⟩
                        case measure => simp [intOf]; omega
                      · have HNS2 : Hid (∀ q, (hq : q < ll[k].length) → q < m + 1 → ll[k][q].fKey ≠ x.fKey) := fun q hq hqm => by
                          by_cases hlt' : q < m
                          · exact HNN.out q hq hlt'
                          · obtain rfl : q = m := by omega
                            exact hy
                        have hq1 : (ll[k][m].fKey.toList == x.fKey.toList) = false := beq_eq_false_iff_ne.2 (fun e => hy (by rw [ByteArray.toList_eq, ByteArray.toList_eq] at e; exact ByteArray.ext (Array.toList_inj.1 e)))
                        generalize ll[k][m].fKey = ky at *
                        clear hme
                        go_wp2_with fail
                        refine wp_region_held_drew (S := fun W => Below wr.heap.size wr W) (by kernel_rfl) (Below.drew (Below.refl _ _)) (fun hHeld => ?_)
                        refine tk 0 q032_3_19_0 (some 84) (v := ?v119) rfl rfl (by kernel_rfl) hHeld (by rfl) (fun _ _ _ x => x) (fun w h => ?y119) ?_; (case y119 => (try dsimp only at h); go_simp; try (with_reducible rfl)); try simp only [Act.put, sa, s0, s1]
                        refine tk 1 q032_3_19_1 (some 85) (v := ?v120) rfl rfl (by kernel_rfl) hHeld (by rfl) (fun _ _ _ x => x) (fun w h => ?y120) ?_; (case y120 => (try dsimp only at h); go_simp; try (with_reducible rfl)); try simp only [Act.put, sa, s0, s1]
                        refine tk 2 q032_3_19_2 (some 86) (v := ?v121) rfl rfl (by kernel_rfl) hHeld (by rfl) (fun _ _ _ x => x) (fun w h => ?y121) ?_; (case y121 => (try dsimp only at h); go_simp; try (with_reducible rfl)); try simp only [Act.put, sa, s0, s1]
                        refine tk 3 q032_3_19_3 (some 87) (v := ?v122) rfl rfl (by kernel_rfl) hHeld (by rfl) (fun _ _ _ x => x) (fun w h => ?y122) ?_; (case y122 => (try dsimp only at h); go_simp; try (with_reducible rfl)); try simp only [Act.put, sa, s0, s1]
                        refine tk 4 q032_3_19_4 (some 88) (v := ?v123) rfl rfl (by kernel_rfl) hHeld (by rfl) (fun _ _ _ x => x) (fun w h => ?y123) ?_; (case y123 => (try dsimp only at h); go_simp; try (with_reducible rfl)); try simp only [Act.put, sa, s0, s1]
                        refine tk 5 q032_3_19_5 (some 89) (v := ?v124) rfl rfl (by kernel_rfl) hHeld (by rfl) (fun _ _ _ x => x) (fun w h => ?y124) ?_; (case y124 => (try dsimp only at h); go_simp; try (with_reducible rfl)); try simp only [Act.put, sa, s0, s1]
                        refine tk 6 q032_3_19_6 (some 90) (v := ?v125) rfl rfl (by kernel_rfl) hHeld (by rfl) (fun _ _ _ x => x) (fun w h => ?y125) ?_; (case y125 => (try dsimp only at h); go_simp; try (with_reducible rfl)); try simp only [Act.put, sa, s0, s1]
                        refine tk 7 q032_3_19_7 (some 91) (v := ?v126) rfl rfl (by kernel_rfl) hHeld (by rfl) (fun _ _ _ x => x) (fun w h => ?y126) ?_; (case y126 => (try dsimp only at h); go_simp; try (with_reducible rfl)); try simp only [Act.put, sa, s0, s1]
                        refine tk 8 q032_3_19_8 (some 92) (v := ?v127) rfl rfl (by kernel_rfl) hHeld (by rfl) (fun _ _ _ x => x) (fun w h => ?y127) ?_; (case y127 => (try dsimp only at h); go_simp; try (with_reducible rfl)); try simp only [Act.put, sa, s0, s1]
                        refine tk 9 q032_3_19_9 (some 93) (v := ?v128) rfl rfl (by kernel_rfl) hHeld (by rfl) (fun _ _ _ x => x) (fun w h => ?y128) ?_; (case y128 => (try dsimp only at h); go_simp; try (with_reducible rfl)); try simp only [Act.put, sa, s0, s1]
                        refine tk 10 q032_3_19_10 (some 94) (v := ?v129) rfl rfl (by kernel_rfl) hHeld (by rfl) (fun _ _ _ x => x) (fun w h => ?y129) ?_; (case y129 => (try dsimp only at h); go_simp; try (with_reducible rfl)); try simp only [Act.put, sa, s0, s1]
                        refine tk 11 q032_3_19_11 (some 95) (v := ?v130) rfl rfl (by kernel_rfl) hHeld (by rfl) (fun _ _ _ x => x) (fun w h => ?y130) ?_; (case y130 => (try dsimp only at h); go_simp; try (with_reducible rfl)); try simp only [Act.put, sa, s0, s1]
                        refine tk 12 q032_3_19_12 (some 96) (v := ?v131) rfl rfl (by kernel_rfl) hHeld (by rfl) (fun _ _ _ x => x) (fun w h => ?y131) ?_; (case y131 => (try dsimp only at h); go_simp; try (with_reducible rfl)); try simp only [Act.put, sa, s0, s1]
                        refine tk 13 q032_3_19_13 (some 97) (v := ?v132) rfl rfl (by kernel_rfl) hHeld (by rfl) (fun _ _ _ x => x) (fun w h => ?y132) ?_; (case y132 => (try dsimp only at h); go_simp; try (with_reducible rfl)); try simp only [Act.put, sa, s0, s1]
                        refine wpAnyH_done (by kernel_rfl) ?_ _
                        go_wp2_with fail
                        go_roundw
                        case rel => exact ⟨m + 1, by omega, by go_num, bthen hbm hHeld, .inr ⟨rfl, HNS2.out⟩⟩
                        case measure => simp [intOf]; omega
                    · have HNS := Hid.mk (HNO.out.succ hkl (fun q hq => hnn q hq (by omega)))
                      clear hnn
                      go_wp2_with fail
                      go_roundw
                      case rel => exact ⟨k + 1, by omega, by go_num, hbkm, .inr ⟨rfl, HNS.out⟩⟩
                      case measure => simp [intOf]; omega
              · obtain ⟨j, hj, hm, _⟩ := HFR.out
                exact absurd rfl (hno j hj (by omega) x hm)
      · obtain ⟨j, rfl⟩ : ∃ j, i = j + 1 := ⟨i - 1, by omega⟩
        have hjl : j < M.length := by omega
        obtain ⟨b3, o3, he3, y0, _, _⟩ := pair_cells HL4.out hbi hjl
        simp only [Option.some.injEq, Addr.mk.injEq, and_true] at he3
        obtain ⟨rfl, rfl⟩ := he3
        have e1 : Op.bytesLess M[j].fKey.toList M[j + 1].fKey.toList = true := List.pairwise_iff_getElem.1 HALL.out.1 j (j + 1) hjl hlt (by omega)
        have hwj : IntKind.i64.wrap (j : Int) = (j : Int) := by rw [IntKind.wrap_i64]; have := hMw.1; omega
        have hi1 : (0 : Int) ≤ (j : Int) := by omega
        have hi2 : (j : Int) < (M.length : Int) := by omega
        have hi3 : (0 : Int) ≤ (j : Int) + 1 := by omega
        have hi4 : (j : Int) + 1 < (M.length : Int) := by omega
        generalize M[j + 1] = x at *
        generalize M[j] = z at *
        cases drop with
        | true =>
          have HGX := Hid.mk (HGO.out rfl)
          rw [HGX.out] at u2
          clear HGO
          go_wp2_with fail
          refine wp_region_held_drew (S := fun W => Below wr.heap.size wr W) (by kernel_rfl) (Below.drew (Below.refl _ _)) (fun hHeld => ?_)
          refine tk 0 q032_3_10_0 (some 35) (v := ?v133) rfl rfl (by kernel_rfl) hHeld (by rfl) (fun _ _ _ x => x) (fun w h => ?y133) ?_; (case y133 => (try dsimp only at h); go_simp; try (with_reducible rfl)); try simp only [Act.put, sa, s0, s1]
          refine tk 1 q032_3_10_1 (some 36) (v := ?v134) rfl rfl (by kernel_rfl) hHeld (by rfl) (fun _ _ _ x => x) (fun w h => ?y134) ?_; (case y134 => (try dsimp only at h); go_simp; try (with_reducible rfl)); try simp only [Act.put, sa, s0, s1]
          refine tk 2 q032_3_10_2 (some 37) (v := ?v135) rfl rfl (by kernel_rfl) hHeld (by rfl) (fun _ _ _ x => x) (fun w h => ?y135) ?_; (case y135 => (try dsimp only at h); go_simp; try (with_reducible rfl)); try simp only [Act.put, sa, s0, s1]
          refine tk 3 q032_3_10_3 (some 38) (v := ?v136) rfl rfl (by kernel_rfl) hHeld (by rfl) (fun _ _ _ x => x) (fun w h => ?y136) ?_; (case y136 => (try dsimp only at h); go_simp; try (with_reducible rfl)); try simp only [Act.put, sa, s0, s1]
          refine tk 4 q032_3_10_4 (some 39) (v := ?v137) rfl rfl (by kernel_rfl) hHeld (by rfl) (fun _ _ _ x => x) (fun w h => ?y137) ?_; (case y137 => (try dsimp only at h); go_simp; try (with_reducible rfl)); try simp only [Act.put, sa, s0, s1]
          refine tk 5 q032_3_10_5 (some 40) (v := ?v138) rfl rfl (by kernel_rfl) hHeld (by rfl) (fun _ _ _ x => x) (fun w h => ?y138) ?_; (case y138 => (try dsimp only at h); go_simp; try (with_reducible rfl)); try simp only [Act.put, sa, s0, s1]
          refine tk 6 q032_3_10_6 (some 41) (v := ?v139) rfl rfl (by kernel_rfl) hHeld (by rfl) (fun _ _ _ x => x) (fun w h => ?y139) ?_; (case y139 => (try dsimp only at h); go_simp; try (with_reducible rfl)); try simp only [Act.put, sa, s0, s1]
          refine tk 7 q032_3_10_7 (some 42) (v := ?v140) rfl rfl (by kernel_rfl) hHeld (by rfl) (fun _ _ _ x => x) (fun w h => ?y140) ?_; (case y140 => (try dsimp only at h); go_simp; try (with_reducible rfl)); try simp only [Act.put, sa, s0, s1]
          refine tk 8 q032_3_10_8 (some 43) (v := ?v141) rfl rfl (by kernel_rfl) hHeld (by rfl) (fun _ _ _ x => x) (fun w h => ?y141) ?_; (case y141 => (try dsimp only at h); go_simp; try (with_reducible rfl)); try simp only [Act.put, sa, s0, s1]
          refine tk 9 q032_3_10_9 (some 44) (v := ?v142) rfl rfl (by kernel_rfl) hHeld (by rfl) (fun _ _ _ x => x) (fun w h => ?y142) ?_; (case y142 => (try dsimp only at h); go_simp; try (with_reducible rfl)); try simp only [Act.put, sa, s0, s1]
          refine tk 10 q032_3_10_10 (some 45) (v := ?v143) rfl rfl (by kernel_rfl) hHeld (by rfl) (fun _ _ _ x => x) (fun w h => ?y143) ?_; (case y143 => (try dsimp only at h); go_simp; try (with_reducible rfl)); try simp only [Act.put, sa, s0, s1]
          refine tk 11 q032_3_10_11 (some 46) (v := ?v144) rfl rfl (by kernel_rfl) hHeld (by rfl) (fun _ _ _ x => x) (fun w h => ?y144) ?_; (case y144 => (try dsimp only at h); go_simp; try (with_reducible rfl)); try simp only [Act.put, sa, s0, s1]
          refine tk 12 q032_3_10_12 (some 47) (v := ?v145) rfl rfl (by kernel_rfl) hHeld (by rfl) (fun _ _ _ x => x) (fun w h => ?y145) ?_; (case y145 => (try dsimp only at h); go_simp; try (with_reducible rfl)); try simp only [Act.put, sa, s0, s1]
          refine tk 13 q032_3_10_13 (some 48) (v := ?v146) rfl rfl (by kernel_rfl) hHeld (by rfl) (fun _ _ _ x => x) (fun w h => ?y146) ?_; (case y146 => (try dsimp only at h); go_simp; try (with_reducible rfl)); try simp only [Act.put, sa, s0, s1]
          refine tk 14 q032_3_10_14 (some 49) (v := ?v147) rfl rfl (by kernel_rfl) hHeld (by rfl) (fun _ _ _ x => x) (fun w h => ?y147) ?_; (case y147 => (try dsimp only at h); go_simp; try (with_reducible rfl)); try simp only [Act.put, sa, s0, s1]
          refine tk 15 q032_3_10_15 (some 50) (v := ?v148) rfl rfl (by kernel_rfl) hHeld (by rfl) (fun _ _ _ x => x) (fun w h => ?y148) ?_; (case y148 => (try dsimp only at h); go_simp; try (with_reducible rfl)); try simp only [Act.put, sa, s0, s1]
          refine tk 16 q032_3_10_16 (some 51) (v := ?v149) rfl rfl (by kernel_rfl) hHeld (by rfl) (fun _ _ _ x => x) (fun w h => ?y149) ?_; (case y149 => (try dsimp only at h); go_simp; try (with_reducible rfl)); try simp only [Act.put, sa, s0, s1]
          refine tk 17 q032_3_10_17 (some 52) (v := ?v150) rfl rfl (by kernel_rfl) hHeld (by rfl) (fun _ _ _ x => x) (fun w h => ?y150) ?_; (case y150 => (try dsimp only at h); go_simp; try (with_reducible rfl)); try simp only [Act.put, sa, s0, s1]
          refine tk 18 q032_3_10_18 (some 53) (v := ?v151) rfl rfl (by kernel_rfl) hHeld (by rfl) (fun _ _ _ x => x) (fun w h => ?y151) ?_; (case y151 => (try dsimp only at h); go_simp; try (with_reducible rfl)); try simp only [Act.put, sa, s0, s1]
          refine tk 19 q032_3_10_19 (some 54) (v := ?v152) rfl rfl (by kernel_rfl) hHeld (by rfl) (fun _ _ _ x => x) (fun w h => ?y152) ?_; (case y152 => (try dsimp only at h); go_simp; try (with_reducible rfl)); try simp only [Act.put, sa, s0, s1]
          refine tk 20 q032_3_10_20 (some 55) (v := ?v153) rfl rfl (by kernel_rfl) hHeld (by rfl) (fun _ _ _ x => x) (fun w h => ?y153) ?_; (case y153 => (try dsimp only at h); go_simp; try (with_reducible rfl)); try simp only [Act.put, sa, s0, s1]
          refine tk 21 q032_3_10_21 (some 56) (v := ?v154) rfl rfl (by kernel_rfl) hHeld (by rfl) (fun _ _ _ x => x) (fun w h => ?y154) ?_; (case y154 => (try dsimp only at h); go_simp; try (with_reducible rfl)); try simp only [Act.put, sa, s0, s1]
          refine tk 22 q032_3_10_22 (some 57) (v := ?v155) rfl rfl (by kernel_rfl) hHeld (by rfl) (fun _ _ _ x => x) (fun w h => ?y155) ?_; (case y155 => (try dsimp only at h); go_simp; try (with_reducible rfl)); try simp only [Act.put, sa, s0, s1]
          refine tk 23 q032_3_10_23 (some 58) (v := ?v156) rfl rfl (by kernel_rfl) hHeld (by rfl) (fun _ _ _ x => x) (fun w h => ?y156) ?_; (case y156 => (try dsimp only at h); go_simp; try (with_reducible rfl)); try simp only [Act.put, sa, s0, s1]
          refine tk 24 q032_3_10_24 (some 59) (v := ?v157) rfl rfl (by kernel_rfl) hHeld (by rfl) (fun _ _ _ x => x) (fun w h => ?y157) ?_; (case y157 => (try dsimp only at h); go_simp; try (with_reducible rfl)); try simp only [Act.put, sa, s0, s1]
          refine tk 25 q032_3_10_25 (some 60) (v := ?v158) rfl rfl (by kernel_rfl) hHeld (by rfl) (fun _ _ _ x => x) (fun w h => ?y158) ?_; (case y158 => (try dsimp only at h); go_simp; try (with_reducible rfl)); try simp only [Act.put, sa, s0, s1]
          refine wpAnyH_done (by kernel_rfl) ?_ _
          go_wp2_with fail
          have hbi2 := bthen hbi hHeld
          have hb1i2 := bthen hb1i hHeld
          have HU0 : Hid (∀ W, Below wr.drew.heap.size wr.drew W → W.cell? _ = some _) := fun W hW => u0 W (bthen hHeld hW)
          have HU1 : Hid (∀ W, Below wr.drew.heap.size wr.drew W → W.cell? _ = some _) := fun W hW => u1 W (bthen hHeld hW)
          have HU2 : Hid (∀ W, Below wr.drew.heap.size wr.drew W → W.cell? _ = some _) := fun W hW => u2 W (bthen hHeld hW)
          clear u0 u1 u2 hHeld hbi hb1i
          generalize wr.drew = wi at *
          go_loopw [7, 8] (fun fv kv wr => ∃ k : Nat, k ≤ ll.length ∧ kv = .int .i64 k ∧ Below wi.heap.size wi wr ∧ (fv = .bool true ∨ (fv = .bool false ∧ NoKey ll k x.fKey))) (fun _ kv _ => ll.length - (intOf kv).toNat)
          case atStart => exact ⟨0, Nat.zero_le _, rfl, Below.refl _ _, .inr ⟨rfl, fun j _ h => by omega⟩⟩
          case round =>
            obtain ⟨k, hk, rfl, hbk, hf⟩ := hrel
            rcases hf with rfl | ⟨rfl, hno⟩
            · by_cases hkl : k < ll.length
              · go_wp2_with fail
                go_roundw
                case rel => exact ⟨(j + 1) + 1, by omega, by go_num, bthen hbi2 hbk⟩
                case measure => simp [intOf]; omega
              · go_wp2_with fail
                go_roundw
                case rel => exact ⟨(j + 1) + 1, by omega, by go_num, bthen hbi2 hbk⟩
                case measure => simp [intOf]; omega
            · by_cases hkl : k < ll.length
              · obtain ⟨b4, o4, au, cu, rfl, hck, hLk⟩ := list_cell HL1.out (bthen hb1i2 hbk) hkl
                have HCK := Hid.mk hck
                have HLK := Hid.mk hLk
                have HNO := Hid.mk hno
                have hl101 := HSH.out ll[k] (List.getElem_mem hkl)
                clear hck hLk hno
                go_wp2_with fail
                generalize wr = wk at *
                go_loopw [7, 9] (fun fv nv wr => ∃ m : Nat, m ≤ ll[k].length ∧ nv = .int .i64 m ∧ Below wk.heap.size wk wr ∧ (fv = .bool true ∨ (fv = .bool false ∧ ∀ q, (hq : q < ll[k].length) → q < m → ll[k][q].fKey ≠ x.fKey))) (fun _ nv _ => ll[k].length - (intOf nv).toNat)
                case atStart => exact ⟨0, Nat.zero_le _, rfl, Below.refl _ _, .inr ⟨rfl, fun q _ h => by omega⟩⟩
                case round =>
                  obtain ⟨m, hm, rfl, hbm, hf⟩ := hrel
                  have c0 := HCK.out _ hbm
                  have hbkm := bthen hbk hbm
                  rcases hf with rfl | ⟨rfl, hnn⟩
                  · by_cases hml : m < ll[k].length
                    · go_wp2_with fail
                      go_roundw
                      case rel => exact ⟨k + 1, by omega, by go_num, hbkm, .inl rfl⟩
                      case measure => simp [intOf]; omega
                    · go_wp2_with fail
                      go_roundw
                      case rel => exact ⟨k + 1, by omega, by go_num, hbkm, .inl rfl⟩
                      case measure => simp [intOf]; omega
                  · by_cases hml : m < ll[k].length
                    · have d0 : ∀ W, Below wr.heap.size wr W → _ := fun W hW => HCK.out W (bthen hbm hW)
                      obtain ⟨b5, o5, rfl, y0, y1, y2⟩ := pair_cells HLK.out (bthen hb1i2 hbkm) hml
                      have x0 : ∀ W, Below wr.heap.size wr W → _ := fun W hW => HU0.out W (bthen hbkm hW)
                      have x1 : ∀ W, Below wr.heap.size wr W → _ := fun W hW => HU1.out W (bthen hbkm hW)
                      have x2 : ∀ W, Below wr.heap.size wr W → _ := fun W hW => HU2.out W (bthen hbkm hW)
                      have hme : ll[k][m] ∈ ll[k] := List.getElem_mem hml
                      have HNN := Hid.mk hnn
                      clear hnn
                      by_cases hy : ll[k][m].fKey = x.fKey
                      · have hyx := from_here HFR.out HNO.out hkl hme hy
                        rw [hyx] at y0 y1 y2
                        rw [HGX.out] at y2
                        clear hy hyx hme
                        go_wp2_with fail
                        refine wp_region_held_drew (S := fun W => Below wr.heap.size wr W) (by kernel_rfl) (Below.drew (Below.refl _ _)) (fun hHeld => ?_)
                        refine tk 0 q032_3_19_0 (some 84) (v := ?v159) rfl rfl (by kernel_rfl) hHeld (by rfl) (fun _ _ _ x => x) (fun w h => ?y159) ?_; (case y159 => (try dsimp only at h); go_simp; try (with_reducible rfl)); try simp only [Act.put, sa, s0, s1]
                        refine tk 1 q032_3_19_1 (some 85) (v := ?v160) rfl rfl (by kernel_rfl) hHeld (by rfl) (fun _ _ _ x => x) (fun w h => ?y160) ?_; (case y160 => (try dsimp only at h); go_simp; try (with_reducible rfl)); try simp only [Act.put, sa, s0, s1]
                        refine tk 2 q032_3_19_2 (some 86) (v := ?v161) rfl rfl (by kernel_rfl) hHeld (by rfl) (fun _ _ _ x => x) (fun w h => ?y161) ?_; (case y161 => (try dsimp only at h); go_simp; try (with_reducible rfl)); try simp only [Act.put, sa, s0, s1]
                        refine tk 3 q032_3_19_3 (some 87) (v := ?v162) rfl rfl (by kernel_rfl) hHeld (by rfl) (fun _ _ _ x => x) (fun w h => ?y162) ?_; (case y162 => (try dsimp only at h); go_simp; try (with_reducible rfl)); try simp only [Act.put, sa, s0, s1]
                        refine tk 4 q032_3_19_4 (some 88) (v := ?v163) rfl rfl (by kernel_rfl) hHeld (by rfl) (fun _ _ _ x => x) (fun w h => ?y163) ?_; (case y163 => (try dsimp only at h); go_simp; try (with_reducible rfl)); try simp only [Act.put, sa, s0, s1]
                        refine tk 5 q032_3_19_5 (some 89) (v := ?v164) rfl rfl (by kernel_rfl) hHeld (by rfl) (fun _ _ _ x => x) (fun w h => ?y164) ?_; (case y164 => (try dsimp only at h); go_simp; try (with_reducible rfl)); try simp only [Act.put, sa, s0, s1]
                        refine tk 6 q032_3_19_6 (some 90) (v := ?v165) rfl rfl (by kernel_rfl) hHeld (by rfl) (fun _ _ _ x => x) (fun w h => ?y165) ?_; (case y165 => (try dsimp only at h); go_simp; try (with_reducible rfl)); try simp only [Act.put, sa, s0, s1]
                        refine tk 7 q032_3_19_7 (some 91) (v := ?v166) rfl rfl (by kernel_rfl) hHeld (by rfl) (fun _ _ _ x => x) (fun w h => ?y166) ?_; (case y166 => (try dsimp only at h); go_simp; try (with_reducible rfl)); try simp only [Act.put, sa, s0, s1]
                        refine tk 8 q032_3_19_8 (some 92) (v := ?v167) rfl rfl (by kernel_rfl) hHeld (by rfl) (fun _ _ _ x => x) (fun w h => ?y167) ?_; (case y167 => (try dsimp only at h); go_simp; try (with_reducible rfl)); try simp only [Act.put, sa, s0, s1]
                        refine tk 9 q032_3_19_9 (some 93) (v := ?v168) rfl rfl (by kernel_rfl) hHeld (by rfl) (fun _ _ _ x => x) (fun w h => ?y168) ?_; (case y168 => (try dsimp only at h); go_simp; try (with_reducible rfl)); try simp only [Act.put, sa, s0, s1]
                        refine tk 10 q032_3_19_10 (some 94) (v := ?v169) rfl rfl (by kernel_rfl) hHeld (by rfl) (fun _ _ _ x => x) (fun w h => ?y169) ?_; (case y169 => (try dsimp only at h); go_simp; try (with_reducible rfl)); try simp only [Act.put, sa, s0, s1]
                        refine tk 11 q032_3_19_11 (some 95) (v := ?v170) rfl rfl (by kernel_rfl) hHeld (by rfl) (fun _ _ _ x => x) (fun w h => ?y170) ?_; (case y170 => (try dsimp only at h); go_simp; try (with_reducible rfl)); try simp only [Act.put, sa, s0, s1]
                        refine tk 12 q032_3_19_12 (some 96) (v := ?v171) rfl rfl (by kernel_rfl) hHeld (by rfl) (fun _ _ _ x => x) (fun w h => ?y171) ?_; (case y171 => (try dsimp only at h); go_simp; try (with_reducible rfl)); try simp only [Act.put, sa, s0, s1]
                        refine tk 13 q032_3_19_13 (some 97) (v := ?v172) rfl rfl (by kernel_rfl) hHeld (by rfl) (fun _ _ _ x => x) (fun w h => ?y172) ?_; (case y172 => (try dsimp only at h); go_simp; try (with_reducible rfl)); try simp only [Act.put, sa, s0, s1]
                        refine wpAnyH_done (by kernel_rfl) ?_ _
                        go_wp2_with fail
                        refine wp_region_held_drew (S := fun W => Below wr.heap.size wr W) (by kernel_rfl) (Below.drew hHeld) (fun hHeld => ?_)
                        refine tk 0 q032_3_21_0 (some 98) (v := ?v173) rfl rfl (by kernel_rfl) hHeld (by rfl) (fun _ _ _ x => x) (fun w h => ?y173) ?_; (case y173 => (try dsimp only at h); go_simp; try (with_reducible rfl)); try simp only [Act.put, sa, s0, s1]
                        refine tk 1 q032_3_21_1 (some 99) (v := ?v174) rfl rfl (by kernel_rfl) hHeld (by rfl) (fun _ _ _ x => x) (fun w h => ?y174) ?_; (case y174 => (try dsimp only at h); go_simp; try (with_reducible rfl)); try simp only [Act.put, sa, s0, s1]
                        refine tk 2 q032_3_21_2 (some 100) (v := ?v175) rfl rfl (by kernel_rfl) hHeld (by rfl) (fun _ _ _ x => x) (fun w h => ?y175) ?_; (case y175 => (try dsimp only at h); go_simp; try (with_reducible rfl)); try simp only [Act.put, sa, s0, s1]
                        refine tk 3 q032_3_21_3 (some 101) (v := ?v176) rfl rfl (by kernel_rfl) hHeld (by rfl) (fun _ _ _ x => x) (fun w h => ?y176) ?_; (case y176 => (try dsimp only at h); go_simp; try (with_reducible rfl)); try simp only [Act.put, sa, s0, s1]
                        refine tk 4 q032_3_21_4 (some 102) (v := ?v177) rfl rfl (by kernel_rfl) hHeld (by rfl) (fun _ _ _ x => x) (fun w h => ?y177) ?_; (case y177 => (try dsimp only at h); go_simp; try (with_reducible rfl)); try simp only [Act.put, sa, s0, s1]
                        refine tk 5 q032_3_21_5 (some 103) (v := ?v178) rfl rfl (by kernel_rfl) hHeld (by rfl) (fun _ _ _ x => x) (fun w h => ?y178) ?_; (case y178 => (try dsimp only at h); go_simp; try (with_reducible rfl)); try simp only [Act.put, sa, s0, s1]
                        refine tk 6 q032_3_21_6 (some 104) (v := ?v179) rfl rfl (by kernel_rfl) hHeld (by rfl) (fun _ _ _ x => x) (fun w h => ?y179) ?_; (case y179 => (try dsimp only at h); go_simp; try (with_reducible rfl)); try simp only [Act.put, sa, s0, s1]
                        refine tk 7 q032_3_21_7 (some 105) (v := ?v180) rfl rfl (by kernel_rfl) hHeld (by rfl) (fun _ _ _ x => x) (fun w h => ?y180) ?_; (case y180 => (try dsimp only at h); go_simp; try (with_reducible rfl)); try simp only [Act.put, sa, s0, s1]
                        refine tk 8 q032_3_21_8 (some 106) (v := ?v181) rfl rfl (by kernel_rfl) hHeld (by rfl) (fun _ _ _ x => x) (fun w h => ?y181) ?_; (case y181 => (try dsimp only at h); go_simp; try (with_reducible rfl)); try simp only [Act.put, sa, s0, s1]
                        refine tk 9 q032_3_21_9 (some 107) (v := ?v182) rfl rfl (by kernel_rfl) hHeld (by rfl) (fun _ _ _ x => x) (fun w h => ?y182) ?_; (case y182 => (try dsimp only at h); go_simp; try (with_reducible rfl)); try simp only [Act.put, sa, s0, s1]
                        refine tk 10 q032_3_21_10 (some 108) (v := ?v183) rfl rfl (by kernel_rfl) hHeld (by rfl) (fun _ _ _ x => x) (fun w h => ?y183) ?_; (case y183 => (try dsimp only at h); go_simp; try (with_reducible rfl)); try simp only [Act.put, sa, s0, s1]
                        refine tk 11 q032_3_21_11 (some 109) (v := ?v184) rfl rfl (by kernel_rfl) hHeld (by rfl) (fun _ _ _ x => x) (fun w h => ?y184) ?_; (case y184 => (try dsimp only at h); go_simp; try (with_reducible rfl)); try simp only [Act.put, sa, s0, s1]
                        refine wpAnyH_done (by kernel_rfl) ?_ _
                        go_wp2_with fail
                        go_roundw
                        case rel => exact ⟨m + 1, by omega, by go_num, bthen hbm hHeld, .inl rfl⟩
                        case measure => simp [intOf]; omega
                      · have HNS2 : Hid (∀ q, (hq : q < ll[k].length) → q < m + 1 → ll[k][q].fKey ≠ x.fKey) := fun q hq hqm => by
                          by_cases hlt' : q < m
                          · exact HNN.out q hq hlt'
                          · obtain rfl : q = m := by omega
                            exact hy
                        have hq1 : (ll[k][m].fKey.toList == x.fKey.toList) = false := beq_eq_false_iff_ne.2 (fun e => hy (by rw [ByteArray.toList_eq, ByteArray.toList_eq] at e; exact ByteArray.ext (Array.toList_inj.1 e)))
                        generalize ll[k][m].fKey = ky at *
                        clear hme
                        go_wp2_with fail
                        refine wp_region_held_drew (S := fun W => Below wr.heap.size wr W) (by kernel_rfl) (Below.drew (Below.refl _ _)) (fun hHeld => ?_)
                        refine tk 0 q032_3_19_0 (some 84) (v := ?v185) rfl rfl (by kernel_rfl) hHeld (by rfl) (fun _ _ _ x => x) (fun w h => ?y185) ?_; (case y185 => (try dsimp only at h); go_simp; try (with_reducible rfl)); try simp only [Act.put, sa, s0, s1]
                        refine tk 1 q032_3_19_1 (some 85) (v := ?v186) rfl rfl (by kernel_rfl) hHeld (by rfl) (fun _ _ _ x => x) (fun w h => ?y186) ?_; (case y186 => (try dsimp only at h); go_simp; try (with_reducible rfl)); try simp only [Act.put, sa, s0, s1]
                        refine tk 2 q032_3_19_2 (some 86) (v := ?v187) rfl rfl (by kernel_rfl) hHeld (by rfl) (fun _ _ _ x => x) (fun w h => ?y187) ?_; (case y187 => (try dsimp only at h); go_simp; try (with_reducible rfl)); try simp only [Act.put, sa, s0, s1]
                        refine tk 3 q032_3_19_3 (some 87) (v := ?v188) rfl rfl (by kernel_rfl) hHeld (by rfl) (fun _ _ _ x => x) (fun w h => ?y188) ?_; (case y188 => (try dsimp only at h); go_simp; try (with_reducible rfl)); try simp only [Act.put, sa, s0, s1]
                        refine tk 4 q032_3_19_4 (some 88) (v := ?v189) rfl rfl (by kernel_rfl) hHeld (by rfl) (fun _ _ _ x => x) (fun w h => ?y189) ?_; (case y189 => (try dsimp only at h); go_simp; try (with_reducible rfl)); try simp only [Act.put, sa, s0, s1]
                        refine tk 5 q032_3_19_5 (some 89) (v := ?v190) rfl rfl (by kernel_rfl) hHeld (by rfl) (fun _ _ _ x => x) (fun w h => ?y190) ?_; (case y190 => (try dsimp only at h); go_simp; try (with_reducible rfl)); try simp only [Act.put, sa, s0, s1]
                        refine tk 6 q032_3_19_6 (some 90) (v := ?v191) rfl rfl (by kernel_rfl) hHeld (by rfl) (fun _ _ _ x => x) (fun w h => ?y191) ?_; (case y191 => (try dsimp only at h); go_simp; try (with_reducible rfl)); try simp only [Act.put, sa, s0, s1]
                        refine tk 7 q032_3_19_7 (some 91) (v := ?v192) rfl rfl (by kernel_rfl) hHeld (by rfl) (fun _ _ _ x => x) (fun w h => ?y192) ?_; (case y192 => (try dsimp only at h); go_simp; try (with_reducible rfl)); try simp only [Act.put, sa, s0, s1]
                        refine tk 8 q032_3_19_8 (some 92) (v := ?v193) rfl rfl (by kernel_rfl) hHeld (by rfl) (fun _ _ _ x => x) (fun w h => ?y193) ?_; (case y193 => (try dsimp only at h); go_simp; try (with_reducible rfl)); try simp only [Act.put, sa, s0, s1]
                        refine tk 9 q032_3_19_9 (some 93) (v := ?v194) rfl rfl (by kernel_rfl) hHeld (by rfl) (fun _ _ _ x => x) (fun w h => ?y194) ?_; (case y194 => (try dsimp only at h); go_simp; try (with_reducible rfl)); try simp only [Act.put, sa, s0, s1]
                        refine tk 10 q032_3_19_10 (some 94) (v := ?v195) rfl rfl (by kernel_rfl) hHeld (by rfl) (fun _ _ _ x => x) (fun w h => ?y195) ?_; (case y195 => (try dsimp only at h); go_simp; try (with_reducible rfl)); try simp only [Act.put, sa, s0, s1]
                        refine tk 11 q032_3_19_11 (some 95) (v := ?v196) rfl rfl (by kernel_rfl) hHeld (by rfl) (fun _ _ _ x => x) (fun w h => ?y196) ?_; (case y196 => (try dsimp only at h); go_simp; try (with_reducible rfl)); try simp only [Act.put, sa, s0, s1]
                        refine tk 12 q032_3_19_12 (some 96) (v := ?v197) rfl rfl (by kernel_rfl) hHeld (by rfl) (fun _ _ _ x => x) (fun w h => ?y197) ?_; (case y197 => (try dsimp only at h); go_simp; try (with_reducible rfl)); try simp only [Act.put, sa, s0, s1]
                        refine tk 13 q032_3_19_13 (some 97) (v := ?v198) rfl rfl (by kernel_rfl) hHeld (by rfl) (fun _ _ _ x => x) (fun w h => ?y198) ?_; (case y198 => (try dsimp only at h); go_simp; try (with_reducible rfl)); try simp only [Act.put, sa, s0, s1]
                        refine wpAnyH_done (by kernel_rfl) ?_ _
                        go_wp2_with fail
                        go_roundw
                        case rel => exact ⟨m + 1, by omega, by go_num, bthen hbm hHeld, .inr ⟨rfl, HNS2.out⟩⟩
                        case measure => simp [intOf]; omega
                    · have HNS := Hid.mk (HNO.out.succ hkl (fun q hq => hnn q hq (by omega)))
                      clear hnn
                      go_wp2_with fail
                      go_roundw
                      case rel => exact ⟨k + 1, by omega, by go_num, hbkm, .inr ⟨rfl, HNS.out⟩⟩
                      case measure => simp [intOf]; omega
              · obtain ⟨j, hj, hm, _⟩ := HFR.out
                exact absurd rfl (hno j hj (by omega) x hm)
        | false =>
          clear HGO
          go_wp2_with fail
          refine wp_region_held_drew (S := fun W => Below wr.heap.size wr W) (by kernel_rfl) (Below.drew (Below.refl _ _)) (fun hHeld => ?_)
          refine tk 0 q032_3_10_0 (some 35) (v := ?v199) rfl rfl (by kernel_rfl) hHeld (by rfl) (fun _ _ _ x => x) (fun w h => ?y199) ?_; (case y199 => (try dsimp only at h); go_simp; try (with_reducible rfl)); try simp only [Act.put, sa, s0, s1]
          refine tk 1 q032_3_10_1 (some 36) (v := ?v200) rfl rfl (by kernel_rfl) hHeld (by rfl) (fun _ _ _ x => x) (fun w h => ?y200) ?_; (case y200 => (try dsimp only at h); go_simp; try (with_reducible rfl)); try simp only [Act.put, sa, s0, s1]
          refine tk 2 q032_3_10_2 (some 37) (v := ?v201) rfl rfl (by kernel_rfl) hHeld (by rfl) (fun _ _ _ x => x) (fun w h => ?y201) ?_; (case y201 => (try dsimp only at h); go_simp; try (with_reducible rfl)); try simp only [Act.put, sa, s0, s1]
          refine tk 3 q032_3_10_3 (some 38) (v := ?v202) rfl rfl (by kernel_rfl) hHeld (by rfl) (fun _ _ _ x => x) (fun w h => ?y202) ?_; (case y202 => (try dsimp only at h); go_simp; try (with_reducible rfl)); try simp only [Act.put, sa, s0, s1]
          refine tk 4 q032_3_10_4 (some 39) (v := ?v203) rfl rfl (by kernel_rfl) hHeld (by rfl) (fun _ _ _ x => x) (fun w h => ?y203) ?_; (case y203 => (try dsimp only at h); go_simp; try (with_reducible rfl)); try simp only [Act.put, sa, s0, s1]
          refine tk 5 q032_3_10_5 (some 40) (v := ?v204) rfl rfl (by kernel_rfl) hHeld (by rfl) (fun _ _ _ x => x) (fun w h => ?y204) ?_; (case y204 => (try dsimp only at h); go_simp; try (with_reducible rfl)); try simp only [Act.put, sa, s0, s1]
          refine tk 6 q032_3_10_6 (some 41) (v := ?v205) rfl rfl (by kernel_rfl) hHeld (by rfl) (fun _ _ _ x => x) (fun w h => ?y205) ?_; (case y205 => (try dsimp only at h); go_simp; try (with_reducible rfl)); try simp only [Act.put, sa, s0, s1]
          refine tk 7 q032_3_10_7 (some 42) (v := ?v206) rfl rfl (by kernel_rfl) hHeld (by rfl) (fun _ _ _ x => x) (fun w h => ?y206) ?_; (case y206 => (try dsimp only at h); go_simp; try (with_reducible rfl)); try simp only [Act.put, sa, s0, s1]
          refine tk 8 q032_3_10_8 (some 43) (v := ?v207) rfl rfl (by kernel_rfl) hHeld (by rfl) (fun _ _ _ x => x) (fun w h => ?y207) ?_; (case y207 => (try dsimp only at h); go_simp; try (with_reducible rfl)); try simp only [Act.put, sa, s0, s1]
          refine tk 9 q032_3_10_9 (some 44) (v := ?v208) rfl rfl (by kernel_rfl) hHeld (by rfl) (fun _ _ _ x => x) (fun w h => ?y208) ?_; (case y208 => (try dsimp only at h); go_simp; try (with_reducible rfl)); try simp only [Act.put, sa, s0, s1]
          refine tk 10 q032_3_10_10 (some 45) (v := ?v209) rfl rfl (by kernel_rfl) hHeld (by rfl) (fun _ _ _ x => x) (fun w h => ?y209) ?_; (case y209 => (try dsimp only at h); go_simp; try (with_reducible rfl)); try simp only [Act.put, sa, s0, s1]
          refine tk 11 q032_3_10_11 (some 46) (v := ?v210) rfl rfl (by kernel_rfl) hHeld (by rfl) (fun _ _ _ x => x) (fun w h => ?y210) ?_; (case y210 => (try dsimp only at h); go_simp; try (with_reducible rfl)); try simp only [Act.put, sa, s0, s1]
          refine tk 12 q032_3_10_12 (some 47) (v := ?v211) rfl rfl (by kernel_rfl) hHeld (by rfl) (fun _ _ _ x => x) (fun w h => ?y211) ?_; (case y211 => (try dsimp only at h); go_simp; try (with_reducible rfl)); try simp only [Act.put, sa, s0, s1]
          refine tk 13 q032_3_10_13 (some 48) (v := ?v212) rfl rfl (by kernel_rfl) hHeld (by rfl) (fun _ _ _ x => x) (fun w h => ?y212) ?_; (case y212 => (try dsimp only at h); go_simp; try (with_reducible rfl)); try simp only [Act.put, sa, s0, s1]
          refine tk 14 q032_3_10_14 (some 49) (v := ?v213) rfl rfl (by kernel_rfl) hHeld (by rfl) (fun _ _ _ x => x) (fun w h => ?y213) ?_; (case y213 => (try dsimp only at h); go_simp; try (with_reducible rfl)); try simp only [Act.put, sa, s0, s1]
          refine tk 15 q032_3_10_15 (some 50) (v := ?v214) rfl rfl (by kernel_rfl) hHeld (by rfl) (fun _ _ _ x => x) (fun w h => ?y214) ?_; (case y214 => (try dsimp only at h); go_simp; try (with_reducible rfl)); try simp only [Act.put, sa, s0, s1]
          refine tk 16 q032_3_10_16 (some 51) (v := ?v215) rfl rfl (by kernel_rfl) hHeld (by rfl) (fun _ _ _ x => x) (fun w h => ?y215) ?_; (case y215 => (try dsimp only at h); go_simp; try (with_reducible rfl)); try simp only [Act.put, sa, s0, s1]
          refine tk 17 q032_3_10_17 (some 52) (v := ?v216) rfl rfl (by kernel_rfl) hHeld (by rfl) (fun _ _ _ x => x) (fun w h => ?y216) ?_; (case y216 => (try dsimp only at h); go_simp; try (with_reducible rfl)); try simp only [Act.put, sa, s0, s1]
          refine tk 18 q032_3_10_18 (some 53) (v := ?v217) rfl rfl (by kernel_rfl) hHeld (by rfl) (fun _ _ _ x => x) (fun w h => ?y217) ?_; (case y217 => (try dsimp only at h); go_simp; try (with_reducible rfl)); try simp only [Act.put, sa, s0, s1]
          refine tn 19 q032_3_10_19 (some 54) rfl rfl (by kernel_rfl) hHeld (by rfl) (fun _ _ _ x => x) ?_; try simp only [Act.put, sa, s0, s1]
          refine tn 20 q032_3_10_20 (some 55) rfl rfl (by kernel_rfl) hHeld (by rfl) (fun _ _ _ x => x) ?_; try simp only [Act.put, sa, s0, s1]
          refine tn 21 q032_3_10_21 (some 56) rfl rfl (by kernel_rfl) hHeld (by rfl) (fun _ _ _ x => x) ?_; try simp only [Act.put, sa, s0, s1]
          refine tn 22 q032_3_10_22 (some 57) rfl rfl (by kernel_rfl) hHeld (by rfl) (fun _ _ _ x => x) ?_; try simp only [Act.put, sa, s0, s1]
          refine tn 23 q032_3_10_23 (some 58) rfl rfl (by kernel_rfl) hHeld (by rfl) (fun _ _ _ x => x) ?_; try simp only [Act.put, sa, s0, s1]
          refine tk 24 q032_3_10_24 (some 59) (v := ?v223) rfl rfl (by kernel_rfl) hHeld (by rfl) (fun _ _ _ x => x) (fun w h => ?y223) ?_; (case y223 => (try dsimp only at h); go_simp; try (with_reducible rfl)); try simp only [Act.put, sa, s0, s1]
          refine tk 25 q032_3_10_25 (some 60) (v := ?v224) rfl rfl (by kernel_rfl) hHeld (by rfl) (fun _ _ _ x => x) (fun w h => ?y224) ?_; (case y224 => (try dsimp only at h); go_simp; try (with_reducible rfl)); try simp only [Act.put, sa, s0, s1]
          refine wpAnyH_done (by kernel_rfl) ?_ _
          go_wp2_with fail
          have hbi2 := bthen hbi hHeld
          have hb1i2 := bthen hb1i hHeld
          have HU0 : Hid (∀ W, Below wr.drew.heap.size wr.drew W → W.cell? _ = some _) := fun W hW => u0 W (bthen hHeld hW)
          have HU1 : Hid (∀ W, Below wr.drew.heap.size wr.drew W → W.cell? _ = some _) := fun W hW => u1 W (bthen hHeld hW)
          have HU2 : Hid (∀ W, Below wr.drew.heap.size wr.drew W → W.cell? _ = some _) := fun W hW => u2 W (bthen hHeld hW)
          clear u0 u1 u2 hHeld hbi hb1i
          generalize wr.drew = wi at *
          go_loopw [7, 8] (fun fv kv wr => ∃ k : Nat, k ≤ ll.length ∧ kv = .int .i64 k ∧ Below wi.heap.size wi wr ∧ (fv = .bool true ∨ (fv = .bool false ∧ NoKey ll k x.fKey))) (fun _ kv _ => ll.length - (intOf kv).toNat)
          case atStart => exact ⟨0, Nat.zero_le _, rfl, Below.refl _ _, .inr ⟨rfl, fun j _ h => by omega⟩⟩
          case round =>
            obtain ⟨k, hk, rfl, hbk, hf⟩ := hrel
            rcases hf with rfl | ⟨rfl, hno⟩
            · by_cases hkl : k < ll.length
              · go_wp2_with fail
                go_roundw
                case rel => exact ⟨(j + 1) + 1, by omega, by go_num, bthen hbi2 hbk⟩
                case measure => simp [intOf]; omega
              · go_wp2_with fail
                go_roundw
                case rel => exact ⟨(j + 1) + 1, by omega, by go_num, bthen hbi2 hbk⟩
                case measure => simp [intOf]; omega
            · by_cases hkl : k < ll.length
              · obtain ⟨b4, o4, au, cu, rfl, hck, hLk⟩ := list_cell HL1.out (bthen hb1i2 hbk) hkl
                have HCK := Hid.mk hck
                have HLK := Hid.mk hLk
                have HNO := Hid.mk hno
                have hl101 := HSH.out ll[k] (List.getElem_mem hkl)
                clear hck hLk hno
                go_wp2_with fail
                generalize wr = wk at *
                go_loopw [7, 9] (fun fv nv wr => ∃ m : Nat, m ≤ ll[k].length ∧ nv = .int .i64 m ∧ Below wk.heap.size wk wr ∧ (fv = .bool true ∨ (fv = .bool false ∧ ∀ q, (hq : q < ll[k].length) → q < m → ll[k][q].fKey ≠ x.fKey))) (fun _ nv _ => ll[k].length - (intOf nv).toNat)
                case atStart => exact ⟨0, Nat.zero_le _, rfl, Below.refl _ _, .inr ⟨rfl, fun q _ h => by omega⟩⟩
                case round =>
                  obtain ⟨m, hm, rfl, hbm, hf⟩ := hrel
                  have c0 := HCK.out _ hbm
                  have hbkm := bthen hbk hbm
                  rcases hf with rfl | ⟨rfl, hnn⟩
                  · by_cases hml : m < ll[k].length
                    · go_wp2_with fail
                      go_roundw
                      case rel => exact ⟨k + 1, by omega, by go_num, hbkm, .inl rfl⟩
                      case measure => simp [intOf]; omega
                    · go_wp2_with fail
                      go_roundw
                      case rel => exact ⟨k + 1, by omega, by go_num, hbkm, .inl rfl⟩
                      case measure => simp [intOf]; omega
                  · by_cases hml : m < ll[k].length
                    · have d0 : ∀ W, Below wr.heap.size wr W → _ := fun W hW => HCK.out W (bthen hbm hW)
                      obtain ⟨b5, o5, rfl, y0, y1, y2⟩ := pair_cells HLK.out (bthen hb1i2 hbkm) hml
                      have x0 : ∀ W, Below wr.heap.size wr W → _ := fun W hW => HU0.out W (bthen hbkm hW)
                      have x1 : ∀ W, Below wr.heap.size wr W → _ := fun W hW => HU1.out W (bthen hbkm hW)
                      have x2 : ∀ W, Below wr.heap.size wr W → _ := fun W hW => HU2.out W (bthen hbkm hW)
                      have hme : ll[k][m] ∈ ll[k] := List.getElem_mem hml
                      have HNN := Hid.mk hnn
                      clear hnn
                      by_cases hy : ll[k][m].fKey = x.fKey
                      · have hyx := from_here HFR.out HNO.out hkl hme hy
                        rw [hyx] at y0 y1 y2
                        clear hy hyx hme
                        go_wp2_with fail
                        refine wp_region_held_drew (S := fun W => Below wr.heap.size wr W) (by kernel_rfl) (Below.drew (Below.refl _ _)) (fun hHeld => ?_)
                        refine tk 0 q032_3_19_0 (some 84) (v := ?v225) rfl rfl (by kernel_rfl) hHeld (by rfl) (fun _ _ _ x => x) (fun w h => ?y225) ?_; (case y225 => (try dsimp only at h); go_simp; try (with_reducible rfl)); try simp only [Act.put, sa, s0, s1]
                        refine tk 1 q032_3_19_1 (some 85) (v := ?v226) rfl rfl (by kernel_rfl) hHeld (by rfl) (fun _ _ _ x => x) (fun w h => ?y226) ?_; (case y226 => (try dsimp only at h); go_simp; try (with_reducible rfl)); try simp only [Act.put, sa, s0, s1]
                        refine tk 2 q032_3_19_2 (some 86) (v := ?v227) rfl rfl (by kernel_rfl) hHeld (by rfl) (fun _ _ _ x => x) (fun w h => ?y227) ?_; (case y227 => (try dsimp only at h); go_simp; try (with_reducible rfl)); try simp only [Act.put, sa, s0, s1]
                        refine tk 3 q032_3_19_3 (some 87) (v := ?v228) rfl rfl (by kernel_rfl) hHeld (by rfl) (fun _ _ _ x => x) (fun w h => ?y228) ?_; (case y228 => (try dsimp only at h); go_simp; try (with_reducible rfl)); try simp only [Act.put, sa, s0, s1]
                        refine tk 4 q032_3_19_4 (some 88) (v := ?v229) rfl rfl (by kernel_rfl) hHeld (by rfl) (fun _ _ _ x => x) (fun w h => ?y229) ?_; (case y229 => (try dsimp only at h); go_simp; try (with_reducible rfl)); try simp only [Act.put, sa, s0, s1]
                        refine tk 5 q032_3_19_5 (some 89) (v := ?v230) rfl rfl (by kernel_rfl) hHeld (by rfl) (fun _ _ _ x => x) (fun w h => ?y230) ?_; (case y230 => (try dsimp only at h); go_simp; try (with_reducible rfl)); try simp only [Act.put, sa, s0, s1]
                        refine tk 6 q032_3_19_6 (some 90) (v := ?v231) rfl rfl (by kernel_rfl) hHeld (by rfl) (fun _ _ _ x => x) (fun w h => ?y231) ?_; (case y231 => (try dsimp only at h); go_simp; try (with_reducible rfl)); try simp only [Act.put, sa, s0, s1]
                        refine tk 7 q032_3_19_7 (some 91) (v := ?v232) rfl rfl (by kernel_rfl) hHeld (by rfl) (fun _ _ _ x => x) (fun w h => ?y232) ?_; (case y232 => (try dsimp only at h); go_simp; try (with_reducible rfl)); try simp only [Act.put, sa, s0, s1]
                        refine tk 8 q032_3_19_8 (some 92) (v := ?v233) rfl rfl (by kernel_rfl) hHeld (by rfl) (fun _ _ _ x => x) (fun w h => ?y233) ?_; (case y233 => (try dsimp only at h); go_simp; try (with_reducible rfl)); try simp only [Act.put, sa, s0, s1]
                        refine tk 9 q032_3_19_9 (some 93) (v := ?v234) rfl rfl (by kernel_rfl) hHeld (by rfl) (fun _ _ _ x => x) (fun w h => ?y234) ?_; (case y234 => (try dsimp only at h); go_simp; try (with_reducible rfl)); try simp only [Act.put, sa, s0, s1]
                        refine tk 10 q032_3_19_10 (some 94) (v := ?v235) rfl rfl (by kernel_rfl) hHeld (by rfl) (fun _ _ _ x => x) (fun w h => ?y235) ?_; (case y235 => (try dsimp only at h); go_simp; try (with_reducible rfl)); try simp only [Act.put, sa, s0, s1]
                        refine tk 11 q032_3_19_11 (some 95) (v := ?v236) rfl rfl (by kernel_rfl) hHeld (by rfl) (fun _ _ _ x => x) (fun w h => ?y236) ?_; (case y236 => (try dsimp only at h); go_simp; try (with_reducible rfl)); try simp only [Act.put, sa, s0, s1]
                        refine tk 12 q032_3_19_12 (some 96) (v := ?v237) rfl rfl (by kernel_rfl) hHeld (by rfl) (fun _ _ _ x => x) (fun w h => ?y237) ?_; (case y237 => (try dsimp only at h); go_simp; try (with_reducible rfl)); try simp only [Act.put, sa, s0, s1]
                        refine tk 13 q032_3_19_13 (some 97) (v := ?v238) rfl rfl (by kernel_rfl) hHeld (by rfl) (fun _ _ _ x => x) (fun w h => ?y238) ?_; (case y238 => (try dsimp only at h); go_simp; try (with_reducible rfl)); try simp only [Act.put, sa, s0, s1]
                        refine wpAnyH_done (by kernel_rfl) ?_ _
                        go_wp2_with fail
                        refine wp_region_held_drew (S := fun W => Below wr.heap.size wr W) (by kernel_rfl) (Below.drew hHeld) (fun hHeld => ?_)
                        refine tk 0 q032_3_21_0 (some 98) (v := ?v239) rfl rfl (by kernel_rfl) hHeld (by rfl) (fun _ _ _ x => x) (fun w h => ?y239) ?_; (case y239 => (try dsimp only at h); go_simp; try (with_reducible rfl)); try simp only [Act.put, sa, s0, s1]
                        refine tk 1 q032_3_21_1 (some 99) (v := ?v240) rfl rfl (by kernel_rfl) hHeld (by rfl) (fun _ _ _ x => x) (fun w h => ?y240) ?_; (case y240 => (try dsimp only at h); go_simp; try (with_reducible rfl)); try simp only [Act.put, sa, s0, s1]
                        refine tk 2 q032_3_21_2 (some 100) (v := ?v241) rfl rfl (by kernel_rfl) hHeld (by rfl) (fun _ _ _ x => x) (fun w h => ?y241) ?_; (case y241 => (try dsimp only at h); go_simp; try (with_reducible rfl)); try simp only [Act.put, sa, s0, s1]
                        refine tk 3 q032_3_21_3 (some 101) (v := ?v242) rfl rfl (by kernel_rfl) hHeld (by rfl) (fun _ _ _ x => x) (fun w h => ?y242) ?_; (case y242 => (try dsimp only at h); go_simp; try (with_reducible rfl)); try simp only [Act.put, sa, s0, s1]
                        refine tk 4 q032_3_21_4 (some 102) (v := ?v243) rfl rfl (by kernel_rfl) hHeld (by rfl) (fun _ _ _ x => x) (fun w h => ?y243) ?_; (case y243 => (try dsimp only at h); go_simp; try (with_reducible rfl)); try simp only [Act.put, sa, s0, s1]
                        refine tk 5 q032_3_21_5 (some 103) (v := ?v244) rfl rfl (by kernel_rfl) hHeld (by rfl) (fun _ _ _ x => x) (fun w h => ?y244) ?_; (case y244 => (try dsimp only at h); go_simp; try (with_reducible rfl)); try simp only [Act.put, sa, s0, s1]
                        refine tk 6 q032_3_21_6 (some 104) (v := ?v245) rfl rfl (by kernel_rfl) hHeld (by rfl) (fun _ _ _ x => x) (fun w h => ?y245) ?_; (case y245 => (try dsimp only at h); go_simp; try (with_reducible rfl)); try simp only [Act.put, sa, s0, s1]
                        refine tk 7 q032_3_21_7 (some 105) (v := ?v246) rfl rfl (by kernel_rfl) hHeld (by rfl) (fun _ _ _ x => x) (fun w h => ?y246) ?_; (case y246 => (try dsimp only at h); go_simp; try (with_reducible rfl)); try simp only [Act.put, sa, s0, s1]
                        refine tk 8 q032_3_21_8 (some 106) (v := ?v247) rfl rfl (by kernel_rfl) hHeld (by rfl) (fun _ _ _ x => x) (fun w h => ?y247) ?_; (case y247 => (try dsimp only at h); go_simp; try (with_reducible rfl)); try simp only [Act.put, sa, s0, s1]
                        refine tk 9 q032_3_21_9 (some 107) (v := ?v248) rfl rfl (by kernel_rfl) hHeld (by rfl) (fun _ _ _ x => x) (fun w h => ?y248) ?_; (case y248 => (try dsimp only at h); go_simp; try (with_reducible rfl)); try simp only [Act.put, sa, s0, s1]
                        refine tk 10 q032_3_21_10 (some 108) (v := ?v249) rfl rfl (by kernel_rfl) hHeld (by rfl) (fun _ _ _ x => x) (fun w h => ?y249) ?_; (case y249 => (try dsimp only at h); go_simp; try (with_reducible rfl)); try simp only [Act.put, sa, s0, s1]
                        refine tk 11 q032_3_21_11 (some 109) (v := ?v250) rfl rfl (by kernel_rfl) hHeld (by rfl) (fun _ _ _ x => x) (fun w h => ?y250) ?_; (case y250 => (try dsimp only at h); go_simp; try (with_reducible rfl)); try simp only [Act.put, sa, s0, s1]
                        refine wpAnyH_done (by kernel_rfl) ?_ _
                        go_wp2_with fail
                        go_roundw
                        case rel => exact ⟨m + 1, by omega, by go_num, bthen hbm hHeld, .inl rfl⟩
                        case measure => simp [intOf]; omega
                      · have HNS2 : Hid (∀ q, (hq : q < ll[k].length) → q < m + 1 → ll[k][q].fKey ≠ x.fKey) := fun q hq hqm => by
                          by_cases hlt' : q < m
                          · exact HNN.out q hq hlt'
                          · obtain rfl : q = m := by omega
                            exact hy
                        have hq1 : (ll[k][m].fKey.toList == x.fKey.toList) = false := beq_eq_false_iff_ne.2 (fun e => hy (by rw [ByteArray.toList_eq, ByteArray.toList_eq] at e; exact ByteArray.ext (Array.toList_inj.1 e)))
                        generalize ll[k][m].fKey = ky at *
                        clear hme
                        go_wp2_with fail
                        refine wp_region_held_drew (S := fun W => Below wr.heap.size wr W) (by kernel_rfl) (Below.drew (Below.refl _ _)) (fun hHeld => ?_)
                        refine tk 0 q032_3_19_0 (some 84) (v := ?v251) rfl rfl (by kernel_rfl) hHeld (by rfl) (fun _ _ _ x => x) (fun w h => ?y251) ?_; (case y251 => (try dsimp only at h); go_simp; try (with_reducible rfl)); try simp only [Act.put, sa, s0, s1]
                        refine tk 1 q032_3_19_1 (some 85) (v := ?v252) rfl rfl (by kernel_rfl) hHeld (by rfl) (fun _ _ _ x => x) (fun w h => ?y252) ?_; (case y252 => (try dsimp only at h); go_simp; try (with_reducible rfl)); try simp only [Act.put, sa, s0, s1]
                        refine tk 2 q032_3_19_2 (some 86) (v := ?v253) rfl rfl (by kernel_rfl) hHeld (by rfl) (fun _ _ _ x => x) (fun w h => ?y253) ?_; (case y253 => (try dsimp only at h); go_simp; try (with_reducible rfl)); try simp only [Act.put, sa, s0, s1]
                        refine tk 3 q032_3_19_3 (some 87) (v := ?v254) rfl rfl (by kernel_rfl) hHeld (by rfl) (fun _ _ _ x => x) (fun w h => ?y254) ?_; (case y254 => (try dsimp only at h); go_simp; try (with_reducible rfl)); try simp only [Act.put, sa, s0, s1]
                        refine tk 4 q032_3_19_4 (some 88) (v := ?v255) rfl rfl (by kernel_rfl) hHeld (by rfl) (fun _ _ _ x => x) (fun w h => ?y255) ?_; (case y255 => (try dsimp only at h); go_simp; try (with_reducible rfl)); try simp only [Act.put, sa, s0, s1]
                        refine tk 5 q032_3_19_5 (some 89) (v := ?v256) rfl rfl (by kernel_rfl) hHeld (by rfl) (fun _ _ _ x => x) (fun w h => ?y256) ?_; (case y256 => (try dsimp only at h); go_simp; try (with_reducible rfl)); try simp only [Act.put, sa, s0, s1]
                        refine tk 6 q032_3_19_6 (some 90) (v := ?v257) rfl rfl (by kernel_rfl) hHeld (by rfl) (fun _ _ _ x => x) (fun w h => ?y257) ?_; (case y257 => (try dsimp only at h); go_simp; try (with_reducible rfl)); try simp only [Act.put, sa, s0, s1]
                        refine tk 7 q032_3_19_7 (some 91) (v := ?v258) rfl rfl (by kernel_rfl) hHeld (by rfl) (fun _ _ _ x => x) (fun w h => ?y258) ?_; (case y258 => (try dsimp only at h); go_simp; try (with_reducible rfl)); try simp only [Act.put, sa, s0, s1]
                        refine tk 8 q032_3_19_8 (some 92) (v := ?v259) rfl rfl (by kernel_rfl) hHeld (by rfl) (fun _ _ _ x => x) (fun w h => ?y259) ?_; (case y259 => (try dsimp only at h); go_simp; try (with_reducible rfl)); try simp only [Act.put, sa, s0, s1]
                        refine tk 9 q032_3_19_9 (some 93) (v := ?v260) rfl rfl (by kernel_rfl) hHeld (by rfl) (fun _ _ _ x => x) (fun w h => ?y260) ?_; (case y260 => (try dsimp only at h); go_simp; try (with_reducible rfl)); try simp only [Act.put, sa, s0, s1]
                        refine tk 10 q032_3_19_10 (some 94) (v := ?v261) rfl rfl (by kernel_rfl) hHeld (by rfl) (fun _ _ _ x => x) (fun w h => ?y261) ?_; (case y261 => (try dsimp only at h); go_simp; try (with_reducible rfl)); try simp only [Act.put, sa, s0, s1]
                        refine tk 11 q032_3_19_11 (some 95) (v := ?v262) rfl rfl (by kernel_rfl) hHeld (by rfl) (fun _ _ _ x => x) (fun w h => ?y262) ?_; (case y262 => (try dsimp only at h); go_simp; try (with_reducible rfl)); try simp only [Act.put, sa, s0, s1]
                        refine tk 12 q032_3_19_12 (some 96) (v := ?v263) rfl rfl (by kernel_rfl) hHeld (by rfl) (fun _ _ _ x => x) (fun w h => ?y263) ?_; (case y263 => (try dsimp only at h); go_simp; try (with_reducible rfl)); try simp only [Act.put, sa, s0, s1]
                        refine tk 13 q032_3_19_13 (some 97) (v := ?v264) rfl rfl (by kernel_rfl) hHeld (by rfl) (fun _ _ _ x => x) (fun w h => ?y264) ?_; (case y264 => (try dsimp only at h); go_simp; try (with_reducible rfl)); try simp only [Act.put, sa, s0, s1]
                        refine wpAnyH_done (by kernel_rfl) ?_ _
                        go_wp2_with fail
                        go_roundw
                        case rel => exact ⟨m + 1, by omega, by go_num, bthen hbm hHeld, .inr ⟨rfl, HNS2.out⟩⟩
                        case measure => simp [intOf]; omega
                    · have HNS := Hid.mk (HNO.out.succ hkl (fun q hq => hnn q hq (by omega)))
                      clear hnn
                      go_wp2_with fail
                      go_roundw
                      case rel => exact ⟨k + 1, by omega, by go_num, hbkm, .inr ⟨rfl, HNS.out⟩⟩
                      case measure => simp [intOf]; omega
              · obtain ⟨j, hj, hm, _⟩ := HFR.out
                exact absurd rfl (hno j hj (by omega) x hm)
    · have hL5 := (HL4.out.below rPair_good hbi).mono rPair_good hbi.size
      have hML : M.length ≤ 1048576 := hMw.1
      go_wp2_with fail
      refine (implRange_c _ M kAb kC wr ⟨a2, c2, rfl, hL5⟩ (by decide) (by decide) hMw.2 (by decide) (by decide) (HTB.out _ hb1i)).mono ?_
      rintro e w5 ⟨v5, F5, rfl, ho5, -, -, hx5⟩
      obtain ⟨Rg, HRg⟩ : ∃ Rg, Hid (Rg = rangeP M kAb kC) := ⟨_, Hid.mk rfl⟩
      rw [← HRg.out] at ho5
      obtain ⟨a5, c5, rfl, hL6⟩ : rdPs w5.heap.size w5 v5 Rg := by
        obtain ⟨a5, c5, rfl, _⟩ := ownS.read oPair_good ho5
        exact ⟨a5, c5, rfl, ownS.leaf oPair_good ho5⟩
      have HL6 := Hid.mk hL6
      have HL7 := Hid.mk ((hL5.below rPair_good hx5).mono rPair_good hx5.size)
      have hb15 := bthen hb1i hx5
      clear ho5 hL5 hL6 hx5 hbi hb1i
      go_wp2_with fail
      go_loopw [11, 12] (fun nv iv wr2 => ∃ j : Nat, j ≤ M.length ∧ iv = .int .i64 j ∧ nv = .int .i64 ((rangeP (M.take j) kAb kC).length : Nat) ∧ Below w5.heap.size w5 wr2) (fun _ iv _ => M.length - (intOf iv).toNat)
      case atStart => exact ⟨0, Nat.zero_le _, rfl, by simp [rangeP], Below.refl _ _⟩
      case round =>
        obtain ⟨j, hj, rfl, rfl, hbj⟩ := hrel
        by_cases hjl : j < M.length
        · obtain ⟨b2, o2, rfl, u0, u1, u2⟩ := pair_cells HL7.out hbj hjl
          have v0 := u0 _ (Below.refl _ _)
          have HY := Hid.mk (fun h => range_yes (f := kAb) (t := kC) hjl h)
          have HN := Hid.mk (fun h => range_no (f := kAb) (t := kC) hjl h)
          have HAT := Hid.mk (fun h => range_at (f := kAb) (t := kC) hjl h)
          have hrl := range_le (l := M) (f := kAb) (t := kC) (k := j)
          obtain ⟨rl, HRL⟩ : ∃ rl, Hid (rl = (rangeP (M.take j) kAb kC).length) := ⟨_, Hid.mk rfl⟩
          rw [← HRL.out] at hrl ⊢
          by_cases hA : kLt M[j].fKey kAb = true
          · have hi2 : inside kAb kC M[j] = false := by unfold inside; rw [hA]; rfl
            have HF : Hid ((rangeP (M.take (j + 1)) kAb kC).length = rl) := by show _ = _; rw [HN.out hi2, HRL.out]
            have hA1 : Op.bytesLess M[j].fKey.toList [97, 98] = true := by simpa [kLt, kAb] using hA
            clear HY HN HAT hi2 hA
            go_wp2_with fail
            go_roundw
            case rel => exact ⟨j + 1, by omega, by go_num, by rw [HF.out], hbj⟩
            case measure => simp [intOf]; omega
          · have hA0 : kLt M[j].fKey kAb = false := Bool.eq_false_iff.2 hA
            have hA1 : Op.bytesLess M[j].fKey.toList [97, 98] = false := by simpa [kLt, kAb] using hA0
            by_cases hB : kLt M[j].fKey kC = true
            · have hi2 : inside kAb kC M[j] = true := by unfold inside; rw [hA0, hB]; simp
              have hB1 : Op.bytesLess M[j].fKey.toList [99] = true := by simpa [kLt, kC] using hB
              have HF : Hid ((rangeP (M.take (j + 1)) kAb kC).length = rl + 1) := by show _ = _; rw [HY.out hi2, HRL.out]; simp
              obtain ⟨hlt3, hat3⟩ := HAT.out hi2
              simp only [← HRL.out, ← HRg.out] at hlt3 hat3
              obtain ⟨b3, o3, rfl, y0, y1, y2⟩ := pair_cells HL6.out hbj hlt3
              rw [hat3] at y0 y1 y2
              have hdec : decide ((Rg.length : Int) ≤ (rl : Int)) = false := decide_eq_false (by omega)
              have hdec1 : decide (Rg.length ≤ rl) = false := decide_eq_false (by omega)
              have hdec2 : decide ((rl : Int) < (Rg.length : Int)) = true := decide_eq_true (by omega)
              have hdec3 : decide (rl < Rg.length) = true := decide_eq_true (by omega)
              clear HY HN HAT hi2 hA hB hA0 hat3
              generalize M[j] = x at *
              go_wp2_with fail
              refine wp_region_held_drew (S := fun W => Below wr.heap.size wr W) (by kernel_rfl) (Below.drew (Below.refl _ _)) (fun hHeld => ?_)
              refine tk 0 q032_3_31_0 (some 134) (v := ?v265) rfl rfl (by kernel_rfl) hHeld (by rfl) (fun _ _ _ x => x) (fun w h => ?y265) ?_; (case y265 => (try dsimp only at h); go_simp; try (with_reducible rfl)); try simp only [Act.put, sa, s0, s1]
              refine tk 1 q032_3_31_1 (some 135) (v := ?v266) rfl rfl (by kernel_rfl) hHeld (by rfl) (fun _ _ _ x => x) (fun w h => ?y266) ?_; (case y266 => (try dsimp only at h); go_simp; try (with_reducible rfl)); try simp only [Act.put, sa, s0, s1]
              refine tk 2 q032_3_31_2 (some 136) (v := ?v267) rfl rfl (by kernel_rfl) hHeld (by rfl) (fun _ _ _ x => x) (fun w h => ?y267) ?_; (case y267 => (try dsimp only at h); go_simp; try (with_reducible rfl)); try simp only [Act.put, sa, s0, s1]
              refine tk 3 q032_3_31_3 (some 137) (v := ?v268) rfl rfl (by kernel_rfl) hHeld (by rfl) (fun _ _ _ x => x) (fun w h => ?y268) ?_; (case y268 => (try dsimp only at h); go_simp; try (with_reducible rfl)); try simp only [Act.put, sa, s0, s1]
              refine tk 4 q032_3_31_4 (some 138) (v := ?v269) rfl rfl (by kernel_rfl) hHeld (by rfl) (fun _ _ _ x => x) (fun w h => ?y269) ?_; (case y269 => (try dsimp only at h); go_simp; try (with_reducible rfl)); try simp only [Act.put, sa, s0, s1]
              refine tk 5 q032_3_31_5 (some 139) (v := ?v270) rfl rfl (by kernel_rfl) hHeld (by rfl) (fun _ _ _ x => x) (fun w h => ?y270) ?_; (case y270 => (try dsimp only at h); go_simp; try (with_reducible rfl)); try simp only [Act.put, sa, s0, s1]
              refine tk 6 q032_3_31_6 (some 140) (v := ?v271) rfl rfl (by kernel_rfl) hHeld (by rfl) (fun _ _ _ x => x) (fun w h => ?y271) ?_; (case y271 => (try dsimp only at h); go_simp; try (with_reducible rfl)); try simp only [Act.put, sa, s0, s1]
              refine tk 7 q032_3_31_7 (some 141) (v := ?v272) rfl rfl (by kernel_rfl) hHeld (by rfl) (fun _ _ _ x => x) (fun w h => ?y272) ?_; (case y272 => (try dsimp only at h); go_simp; try (with_reducible rfl)); try simp only [Act.put, sa, s0, s1]
              refine tk 8 q032_3_31_8 (some 142) (v := ?v273) rfl rfl (by kernel_rfl) hHeld (by rfl) (fun _ _ _ x => x) (fun w h => ?y273) ?_; (case y273 => (try dsimp only at h); go_simp; try (with_reducible rfl)); try simp only [Act.put, sa, s0, s1]
              refine tk 9 q032_3_31_9 (some 143) (v := ?v274) rfl rfl (by kernel_rfl) hHeld (by rfl) (fun _ _ _ x => x) (fun w h => ?y274) ?_; (case y274 => (try dsimp only at h); go_simp; try (with_reducible rfl)); try simp only [Act.put, sa, s0, s1]
              refine tk 10 q032_3_31_10 (some 144) (v := ?v275) rfl rfl (by kernel_rfl) hHeld (by rfl) (fun _ _ _ x => x) (fun w h => ?y275) ?_; (case y275 => (try dsimp only at h); go_simp; try (with_reducible rfl)); try simp only [Act.put, sa, s0, s1]
              refine tk 11 q032_3_31_11 (some 145) (v := ?v276) rfl rfl (by kernel_rfl) hHeld (by rfl) (fun _ _ _ x => x) (fun w h => ?y276) ?_; (case y276 => (try dsimp only at h); go_simp; try (with_reducible rfl)); try simp only [Act.put, sa, s0, s1]
              refine tk 12 q032_3_31_12 (some 146) (v := ?v277) rfl rfl (by kernel_rfl) hHeld (by rfl) (fun _ _ _ x => x) (fun w h => ?y277) ?_; (case y277 => (try dsimp only at h); go_simp; try (with_reducible rfl)); try simp only [Act.put, sa, s0, s1]
              refine tk 13 q032_3_31_13 (some 147) (v := ?v278) rfl rfl (by kernel_rfl) hHeld (by rfl) (fun _ _ _ x => x) (fun w h => ?y278) ?_; (case y278 => (try dsimp only at h); go_simp; try (with_reducible rfl)); try simp only [Act.put, sa, s0, s1]
              refine tk 14 q032_3_31_14 (some 148) (v := ?v279) rfl rfl (by kernel_rfl) hHeld (by rfl) (fun _ _ _ x => x) (fun w h => ?y279) ?_; (case y279 => (try dsimp only at h); go_simp; try (with_reducible rfl)); try simp only [Act.put, sa, s0, s1]
              refine wpAnyH_done (by kernel_rfl) ?_ _
              go_wp2_with fail
              go_roundw
              case rel => exact ⟨j + 1, by omega, by go_num, by rw [HF.out]; go_num, bthen hbj hHeld⟩
              case measure => simp [intOf]; omega
            · have hB0 : kLt M[j].fKey kC = false := Bool.eq_false_iff.2 hB
              have hB1 : Op.bytesLess M[j].fKey.toList [99] = false := by simpa [kLt, kC] using hB0
              have hi2 : inside kAb kC M[j] = false := by unfold inside; rw [hA0, hB0]; rfl
              have HF : Hid ((rangeP (M.take (j + 1)) kAb kC).length = rl) := by show _ = _; rw [HN.out hi2, HRL.out]
              clear HY HN HAT hi2 hA hB hA0 hB0
              go_wp2_with fail
              go_roundw
              case rel => exact ⟨j + 1, by omega, by go_num, by rw [HF.out], hbj⟩
              case measure => simp [intOf]; omega
        · have hjM : j = M.length := by omega
          have HE : Hid ((rangeP (M.take j) kAb kC).length = Rg.length) := by show _ = _; rw [hjM, List.take_length, HRg.out]
          clear hjM
          rw [HE.out]
          go_wp2_with fail
          go_ret
          exact ⟨by simp, bthen hb1 (bthen hb15 hbj)⟩

def rdB (B : Nat) (w : World) (v : Value) (zs : List Int) : Prop := ∃ a c, v = .slice a zs.length c ∧ LeafB B w a c zs

theorem law_FnMerged (cs0 : Value) (m0 : List Int) (w : World) (hr0 : rdB w.heap.size w cs0 m0) (hT : Tabs w) :
    Calls Tryd.prog 3 #[cs0] w fun e w' => e = .returned (.bool true) ∧ Below w.heap.size w w' := by
  obtain ⟨a, c, rfl, h⟩ := hr0
  exact law_FnMerged_r a m0.length c m0 w rfl h.2.2.1 hT

end Go.Proofs.YtiahmcclmlmgpaaDoor
