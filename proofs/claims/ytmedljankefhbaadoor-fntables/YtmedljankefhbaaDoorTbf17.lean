/-
  Part 18 of the texts that the proof leans on.
-/
import Derived.Test.YtmedljankefhbaaDoorTbf12
import Derived.Test.YtmedljankefhbaaDoorTbf16
import Derived.Test.YtmedljankefhbaaDoorTbf14
import Derived.Test.YtmedljankefhbaaDoorTbf8
import Derived.Test.YtmedljankefhbaaDoorTbf10
import Derived.Test.YtmedljankefhbaaDoorTbf0
import Derived.Test.YtmedljankefhbaaDoorRows
import Derived.Test.YtmedljankefhbaaDoorTbf1
import Derived.ProofKit
set_option linter.unusedVariables false
set_option linter.unusedSimpArgs false
set_option maxRecDepth 10000

namespace Go.Proofs.YtmedljankefhbaaDoor
open Go.RowKit Go.Maps

/-! The index as it is read. -/
def mksOf (l : List MPair) (i : Nat) : List (ByteArray × Int) := (List.range i).map fun j => (lastK ByteArray.empty (blk l j), ((outB l j).length : Int))
theorem mksOf_succ (l : List MPair) (i : Nat) : mksOf l (i + 1) = mksOf l i ++ [(lastK ByteArray.empty (blk l i), ((outB l i).length : Int))] := by simp [mksOf, List.range_succ]
theorem mksOf_length (l : List MPair) (i : Nat) : (mksOf l i).length = i := by simp [mksOf]
theorem ixr_text {l : List MPair} (hs : ∀ p, p ∈ l → p.fKey.size ≤ 20 ∧ p.fVal.size ≤ 20) (i : Nat) (hO : (outB l i).length ≤ 1000000000) (F : List Int) :
    strOfNums (getText (idx1 l i ++ F) 0).1 = lastK ByteArray.empty (blk l i) := by
  have hk := lastK_few (l := blk l i) (fun p hp => hs p (blk_mem hp))
  have hkl : (strInts (lastK ByteArray.empty (blk l i))).length ≤ 20 := by rw [strInts_length]; exact hk
  have e0 : idx1 l i ++ F = putNum ((strInts (lastK ByteArray.empty (blk l i))).length : Int) ++ (strInts (lastK ByteArray.empty (blk l i)) ++ (putNum ((outB l i).length : Int) ++ F)) := by
    unfold idx1 putText
    rw [clampN_in (by omega) (by omega), clampN_in (by omega) (by omega), sizeInts]
    simp
  rw [e0, text_head _ _ (by omega)]
  exact strOf_ints _
theorem mxGo_at {l : List MPair} (hs : ∀ p, p ∈ l → p.fKey.size ≤ 20 ∧ p.fVal.size ≤ 20) (n : Nat) (hO : ∀ i, i ≤ n → (outB l i).length ≤ 1000000000) (F : List Int) :
    ∀ (d i f : Nat) (r : List Int), i + d = n → d < f → idxB l n = idxB l i ++ r → mxGo (n : Int) f (r ++ F) false (mksOf l i) = (mksOf l n, F, false) := by
  intro d
  induction d with
  | zero =>
    intro i f r hi hf hr
    obtain ⟨f, rfl⟩ : ∃ g, f = g + 1 := ⟨f - 1, by omega⟩
    have : i = n := by omega
    subst this
    have h2 := congrArg List.length hr
    rw [List.length_append] at h2
    have hr0 : r = [] := List.eq_nil_of_length_eq_zero (by omega)
    rw [mxGo, if_neg (by rw [mksOf_length]; omega), hr0, List.nil_append]
  | succ d ih =>
    intro i f r hi hf hr
    obtain ⟨f, rfl⟩ : ∃ g, f = g + 1 := ⟨f - 1, by omega⟩
    obtain ⟨r2, hr2⟩ := idxB_pre l (i := i + 1) (n := n) (by omega)
    have e : r = idx1 l i ++ r2 := by
      have h2 : idxB l i ++ r = idxB l i ++ (idx1 l i ++ r2) := by rw [← hr, hr2, idxB, List.append_assoc]
      exact List.append_cancel_left h2
    obtain ⟨s1, s2, s3⟩ := ixr_step hs i (hO i (by omega)) (r2 ++ F)
    rw [e, List.append_assoc, mxGo, if_pos ⟨by rw [mksOf_length]; omega, rfl⟩, s1, s2, s3, ixr_text hs i (hO i (by omega)), ← mksOf_succ]
    exact ih (i + 1) f r2 (by omega) (by omega) hr2
theorem mxB_tab {l : List MPair} (h : tabOk l = true) : mxB (putNum (clampN (nBlk l)) ++ idxB l (nBlk l) ++ flt (keysP l)) = (mksOf l (nBlk l), flt (keysP l), false) := by
  have hn := nBlk_le h
  rw [clampN_in (by omega) (by omega), List.append_assoc]
  have g := num_head (N := (nBlk l : Int)) (by omega) (by omega) (idxB l (nBlk l) ++ flt (keysP l))
  have hlong : nBlk l ≤ (idxB l (nBlk l)).length := by
    have key : ∀ n, n ≤ (idxB l n).length := by
      intro n
      induction n with
      | zero => simp
      | succ n ih =>
        have := (putNum_length (clampN (outB l n).length)).1
        rw [idxB, List.length_append]
        unfold idx1
        rw [List.length_append]
        omega
    exact key _
  have r := mxGo_at (tabOk_sizes h) (nBlk l) (fun i hi => by have := outB_little h i hi; omega) (flt (keysP l)) (nBlk l) 0 ((putNum (nBlk l : Int) ++ (idxB l (nBlk l) ++ flt (keysP l))).length + 2) (idxB l (nBlk l)) (by omega) (by simp only [List.length_append]; omega) rfl
  unfold mxB
  rw [g]
  simp only
  rw [restL_pre]
  have hb : badB true false = false := rfl
  have hp : mksOf l 0 = [] := rfl
  rw [hb, ← hp, r]
theorem mxB_of {l : List MPair} (h : tabOk l = true) : mxB (unframe (tabB l) (rd4 (tabB l) ((tabB l).length - 4))).1 = (mksOf l (nBlk l), flt (keysP l), false) := by
  have hO := outB_little h (nBlk l) (Nat.le_refl _)
  have hI := mxB_tab h
  have hIl := idx_little h
  have hIo := idx_ok l
  unfold tabB
  generalize putNum (clampN (nBlk l)) ++ idxB l (nBlk l) ++ flt (keysP l) = ix at *
  generalize outB l (nBlk l) = O at *
  have hr := rd4_at (O ++ frame ix) [] (x := (O.length : Int)) (by omega) (by omega)
  rw [List.append_nil] at hr
  have hu := unframe_at O (four (O.length : Int)) ix hIo (by omega)
  rw [← List.append_assoc] at hu
  have hl : (O ++ frame ix ++ four (O.length : Int)).length - 4 = (O ++ frame ix).length := by simp [four_length]; omega
  rw [hl, hr, hu]
  exact hI

/-! Blocks by their places. -/
theorem frame_long (bs : List Int) : 4 < (frame bs).length := by
  unfold frame
  have := (putNum_length (clampN bs.length)).1
  simp only [List.length_append, four_length]
  omega
theorem outB_lt (l : List MPair) {i j : Nat} (h : i < j) : (outB l i).length < (outB l j).length := by
  obtain ⟨r, hr⟩ := outB_pre l (i := i + 1) (n := j) (by omega)
  have := frame_long (blockB ByteArray.empty (blk l i))
  rw [hr, outB]
  simp only [List.length_append]
  omega
def blOf (l : List MPair) (z : Int) : List MPair := blk l (((List.range (nBlk l)).find? fun j => decide (((outB l j).length : Int) = z)).getD 0)
theorem blOf_at {l : List MPair} {j : Nat} (hj : j < nBlk l) : blOf l ((outB l j).length : Int) = blk l j := by
  unfold blOf
  have h : (List.range (nBlk l)).find? (fun i => decide (((outB l i).length : Int) = ((outB l j).length : Int))) = some j := by
    rw [List.find?_range_eq_some]
    refine ⟨by simp, by simpa using hj, fun i hi => ?_⟩
    have := outB_lt l hi
    simp
    omega
  rw [h]
  rfl
theorem mks_mem {l : List MPair} {m : ByteArray × Int} {n : Nat} (h : m ∈ mksOf l n) : ∃ j, j < n ∧ m = (lastK ByteArray.empty (blk l j), ((outB l j).length : Int)) := by
  unfold mksOf at h
  obtain ⟨j, hj, rfl⟩ := List.mem_map.1 h
  exact ⟨j, List.mem_range.1 hj, rfl⟩
theorem bl_good {l : List MPair} (h : tabOk l = true) : ∀ m, m ∈ mksOf l (nBlk l) → (∃ nx, unframe ((tabB l).take (rd4 (tabB l) ((tabB l).length - 4)).toNat) m.2 = (blockB ByteArray.empty (blOf l m.2), nx, true)) ∧ ∀ x, x ∈ blOf l m.2 → x.fKey.size ≤ 1000000 ∧ x.fVal.size ≤ 1000000 := by
  intro m hm
  obtain ⟨j, hj, rfl⟩ := mks_mem hm
  rw [(ixR_tab h).2]
  show (∃ nx, unframe (outB l (nBlk l)) ((outB l j).length : Int) = (blockB ByteArray.empty (blOf l ((outB l j).length : Int)), nx, true)) ∧ ∀ x, x ∈ blOf l ((outB l j).length : Int) → _
  rw [blOf_at hj]
  refine ⟨?_, fun p hp => by have := tabOk_sizes h p (blk_mem hp); omega⟩
  obtain ⟨r, hr⟩ := outB_pre l (i := j + 1) (n := nBlk l) (by omega)
  have e : outB l (nBlk l) = outB l j ++ (frame (blockB ByteArray.empty (blk l j)) ++ r) := by rw [hr, outB]; simp
  have hbl : (blockB ByteArray.empty (blk l j)).length ≤ 1000000000 := by
    have h1 := outB_little h (j + 1) (by omega)
    rw [outB, List.length_append] at h1
    unfold frame at h1
    simp only [List.length_append] at h1
    omega
  rw [e]
  exact ⟨_, unframe_at (outB l j) r (blockB ByteArray.empty (blk l j)) (blockB_ok _ _) hbl⟩

/-! The key's block. -/
theorem tab_rise {l : List MPair} (h : tabOk l = true) : l.Pairwise (fun x y => kLt x.fKey y.fKey = true) := by
  unfold tabOk pairsOkP at h
  rw [Bool.and_eq_true] at h
  exact (upFrom_iff.1 h.1).2.1
theorem rise_at {l : List MPair} (h : l.Pairwise (fun x y => kLt x.fKey y.fKey = true)) {i j : Nat} (hi : i < l.length) (hj : j < l.length) (hij : i < j) : kLt l[i].fKey l[j].fKey = true := List.pairwise_iff_getElem.1 h i j hi hj hij
theorem rise_uniq {l : List MPair} (h : l.Pairwise (fun x y => kLt x.fKey y.fKey = true)) {x y : MPair} (hx : x ∈ l) (hy : y ∈ l) (e : x.fKey = y.fKey) : x = y := by
  obtain ⟨i, hi, rfl⟩ := List.mem_iff_getElem.1 hx
  obtain ⟨j, hj, rfl⟩ := List.mem_iff_getElem.1 hy
  rcases Nat.lt_trichotomy i j with g | g | g
  · have := rise_at h hi hj g; rw [e, kLt_irrefl] at this; cases this
  · subst g; rfl
  · have := rise_at h hj hi g; rw [e, kLt_irrefl] at this; cases this
theorem lastK_at {l : List MPair} {i : Nat} (hi : 4 * i < l.length) : ∃ (e : Nat) (he : e < l.length), 4 * i ≤ e ∧ e < 4 * i + 4 ∧ (e = 4 * i + 3 ∨ e + 1 = l.length) ∧ lastK ByteArray.empty (blk l i) = l[e].fKey := by
  have hl : (blk l i).length = min 4 (l.length - 4 * i) := by unfold blk; rw [List.length_take, List.length_drop]
  have hne : blk l i ≠ [] := fun h => by rw [h] at hl; simp at hl; omega
  refine ⟨4 * i + (min 4 (l.length - 4 * i) - 1), by omega, by omega, by omega, by omega, ?_⟩
  rw [← List.dropLast_concat_getLast hne, lastK_snoc, List.getLast_eq_getElem]
  congr 1
  simp only [blk, List.getElem_take, List.getElem_drop, List.length_take, List.length_drop]
theorem blk_has {l : List MPair} {t : Nat} (ht : t < l.length) : l[t] ∈ blk l (t / 4) := by
  unfold blk
  refine List.mem_iff_getElem.2 ⟨t - 4 * (t / 4), by rw [List.length_take, List.length_drop]; omega, ?_⟩
  simp only [List.getElem_take, List.getElem_drop]
  congr 1
  omega
theorem fpM_at {l : List MPair} (h : tabOk l = true) {t : Nat} (ht : t < l.length) : fpM (mksOf l (nBlk l)) l[t].fKey = some (lastK ByteArray.empty (blk l (t / 4)), ((outB l (t / 4)).length : Int)) := by
  have hr := tab_rise h
  have hn : t / 4 < nBlk l := by unfold nBlk; omega
  unfold fpM mksOf
  rw [List.find?_map]
  have hf : (List.range (nBlk l)).find? ((fun m : ByteArray × Int => !kLt m.1 l[t].fKey) ∘ fun j => (lastK ByteArray.empty (blk l j), ((outB l j).length : Int))) = some (t / 4) := by
    rw [List.find?_range_eq_some]
    refine ⟨?_, by simpa using hn, fun i hi => ?_⟩
    · obtain ⟨e, he, e1, e2, e3, e4⟩ := lastK_at (l := l) (i := t / 4) (by omega)
      simp only [Function.comp, e4]
      have hle : t ≤ e := by omega
      rcases Nat.lt_or_eq_of_le hle with g | g
      · rw [kLt_asymm (rise_at hr ht he g)]; rfl
      · subst g; rw [kLt_irrefl]; rfl
    · obtain ⟨e, he, e1, e2, e3, e4⟩ := lastK_at (l := l) (i := i) (by omega)
      simp only [Function.comp, e4]
      rw [rise_at hr he ht (by omega)]
      rfl
  rw [hf]
  rfl
theorem firstK_at {l : List MPair} (h : tabOk l = true) {t : Nat} (ht : t < l.length) : firstK (blk l (t / 4)) l[t].fKey = some l[t] := by
  cases hf : firstK (blk l (t / 4)) l[t].fKey with
  | none =>
    unfold firstK at hf
    have := List.find?_eq_none.1 hf _ (blk_has ht)
    simp at this
  | some x =>
    unfold firstK at hf
    have h1 := List.find?_some hf
    have h2 := List.mem_of_find?_eq_some hf
    simp only [decide_eq_true_eq] at h1
    rw [rise_uniq (tab_rise h) (blk_mem h2) (List.getElem_mem ht) h1]

/-! The filter. -/
theorem or_bit (a b k : Nat) : (a ||| b) / 2 ^ k % 2 = 1 ↔ (a / 2 ^ k % 2 = 1 ∨ b / 2 ^ k % 2 = 1) := by
  have h := Nat.testBit_or a b k
  simp only [Nat.testBit_eq_decide_div_mod_eq] at h
  by_cases h1 : a / 2 ^ k % 2 = 1 <;> by_cases h2 : b / 2 ^ k % 2 = 1 <;> simp [h1, h2] at h ⊢ <;> omega
theorem bit_nat {z : Int} (h : 0 ≤ z) (k : Nat) : (z / 2 ^ k % 2 = 1) ↔ (z.toNat / 2 ^ k % 2 = 1) := by
  obtain ⟨a, rfl⟩ : ∃ a : Nat, z = (a : Int) := ⟨z.toNat, by omega⟩
  have e : ((a / 2 ^ k % 2 : Nat) : Int) = (a : Int) / 2 ^ k % 2 := by simp
  rw [Int.toNat_natCast, ← e]
  omega
theorem orB_bit {a b : Int} (ha : 0 ≤ a) (hb : 0 ≤ b) (k : Nat) : (orB a b / 2 ^ k % 2 = 1) ↔ (a / 2 ^ k % 2 = 1 ∨ b / 2 ^ k % 2 = 1) := by
  unfold orB
  rw [bit_nat (by omega), bit_nat ha, bit_nat hb, Int.toNat_natCast]
  exact or_bit _ _ _
theorem hasB_on {f : List Int} (hb : BytesOk f) (hl : f.length = 8) {n : Int} (h0 : 0 ≤ n) (h1 : n < 64) : hasB (bitOn f n) n = true := by
  unfold hasB bitOn
  rw [List.getD_eq_getElem?_getD, List.getElem?_set_self (by omega), Option.getD_some, decide_eq_true_eq]
  have hk : (n % 8).toNat < 8 := by omega
  rw [orB_bit (getD_byte hb _).1 (pow8 hk).1]
  right
  rw [bit_nat (pow8 hk).1]
  generalize (n % 8).toNat = k
  have e : ((2 : Int) ^ k).toNat = 2 ^ k := by
    have : ((2 ^ k : Nat) : Int) = (2 : Int) ^ k := by simp
    rw [← this, Int.toNat_natCast]
  rw [e, Nat.div_self (Nat.pow_pos (by omega))]
theorem hasB_keep {f : List Int} (hb : BytesOk f) (hl : f.length = 8) {n m : Int} (h0 : 0 ≤ n) (h1 : n < 64) (h : hasB f m = true) : hasB (bitOn f n) m = true := by
  unfold hasB bitOn at *
  rw [decide_eq_true_eq] at h ⊢
  by_cases e : (n / 8).toNat = (m / 8).toNat
  · rw [e, List.getD_eq_getElem?_getD, List.getElem?_set_self (by omega), Option.getD_some]
    exact (orB_bit (getD_byte hb _).1 (pow8 (by omega)).1 _).2 (.inl h)
  · rw [List.getD_eq_getElem?_getD, List.getElem?_set_ne e, ← List.getD_eq_getElem?_getD]
    exact h
theorem hasB_add {f : List Int} (hb : BytesOk f) (hl : f.length = 8) (s : ByteArray) {m : Int} (h : hasB f m = true) : hasB (fltAdd f s) m = true := by
  have b1 := mk1_bd s
  have b2 := mk2_bd s
  unfold fltAdd
  exact hasB_keep (bitOn_ok hb) (by rw [bitOn_length]; exact hl) b2.1 b2.2 (hasB_keep hb hl b1.1 b1.2 h)
theorem hasB_fold (ks : List ByteArray) : ∀ {f : List Int}, BytesOk f → f.length = 8 → ∀ {m : Int}, hasB f m = true → hasB (ks.foldl fltAdd f) m = true := by
  induction ks with
  | nil => intro f _ _ m h; exact h
  | cons s ks ih =>
    intro f hb hl m h
    rw [List.foldl_cons]
    exact ih (fltAdd_ok hb) (by rw [fltAdd_length]; exact hl) (hasB_add hb hl s h)
theorem may_fold (ks : List ByteArray) : ∀ {f : List Int}, BytesOk f → f.length = 8 → ∀ s, s ∈ ks → hasB (ks.foldl fltAdd f) (mk1 s) = true ∧ hasB (ks.foldl fltAdd f) (mk2 s) = true := by
  induction ks with
  | nil => intro f _ _ s h; cases h
  | cons t ks ih =>
    intro f hb hl s h
    rw [List.foldl_cons]
    have hb2 := fltAdd_ok (s := t) hb
    have hl2 : (fltAdd f t).length = 8 := by rw [fltAdd_length]; exact hl
    rcases List.mem_cons.1 h with rfl | h
    · have b1 := mk1_bd s
      have b2 := mk2_bd s
      refine ⟨hasB_fold ks hb2 hl2 ?_, hasB_fold ks hb2 hl2 ?_⟩
      · unfold fltAdd; exact hasB_keep (bitOn_ok hb) (by rw [bitOn_length]; exact hl) b2.1 b2.2 (hasB_on hb hl b1.1 b1.2)
      · unfold fltAdd; exact hasB_on (bitOn_ok hb) (by rw [bitOn_length]; exact hl) b2.1 b2.2
    · exact ih hb2 hl2 s h
theorem may_all {ks : List ByteArray} {s : ByteArray} (h : s ∈ ks) : mayP (flt ks) s = true := by
  have hm := may_fold ks (f := List.replicate 8 0) (by intro z hz; rw [List.eq_of_mem_replicate hz]; omega) rfl s h
  unfold mayP flt
  rw [hm.1, hm.2]
  simp

/-! What TableGet finds. -/
theorem fps_yes {l : List MPair} (h : tabOk l = true) {t : Nat} (ht : t < l.length) : fpS (blOf l) (mksOf l (nBlk l)) (flt (keysP l)) l[t].fKey = some l[t] := by
  have hk : l[t].fKey ∈ keysP l := List.mem_map.2 ⟨l[t], List.getElem_mem ht, rfl⟩
  rw [fpS_yes (may_all hk), fpM_at h ht]
  show firstK (blOf l ((outB l (t / 4)).length : Int)) l[t].fKey = some l[t]
  rw [blOf_at (by unfold nBlk; omega)]
  exact firstK_at h ht
theorem fps_none {l : List MPair} {key : ByteArray} (hk : ∀ x, x ∈ l → x.fKey ≠ key) : fpS (blOf l) (mksOf l (nBlk l)) (flt (keysP l)) key = none := by
  cases hm : mayP (flt (keysP l)) key with
  | false => exact fpS_no hm
  | true =>
    rw [fpS_yes hm]
    cases hf : fpM (mksOf l (nBlk l)) key with
    | none => rfl
    | some m =>
      obtain ⟨j, hj, rfl⟩ := mks_mem (List.mem_of_find?_eq_some hf)
      show firstK (blOf l ((outB l j).length : Int)) key = none
      rw [blOf_at hj]
      unfold firstK
      exact List.find?_eq_none.2 (fun x hx => by simpa using hk x (blk_mem hx))

/-! Frames one behind the other. -/
def frs : List (List Int) → List Int
  | [] => []
  | x :: r => frame x ++ frs r
theorem frs_app (a b : List (List Int)) : frs (a ++ b) = frs a ++ frs b := by
  induction a with
  | nil => rfl
  | cons x r ih => rw [List.cons_append, frs, frs, ih, List.append_assoc]
def bods (l : List MPair) (i : Nat) : List (List Int) := (List.range i).map fun j => blockB ByteArray.empty (blk l j)
theorem frs_bods (l : List MPair) (i : Nat) : frs (bods l i) = outB l i := by
  induction i with
  | zero => rfl
  | succ i ih =>
    have e : bods l (i + 1) = bods l i ++ [blockB ByteArray.empty (blk l i)] := by simp [bods, List.range_succ]
    rw [e, frs_app, ih, outB, frs, frs, List.append_nil]
def bodA (l : List MPair) : List (List Int) := bods l (nBlk l) ++ [putNum (clampN (nBlk l)) ++ idxB l (nBlk l) ++ flt (keysP l)]
theorem tab_frs (l : List MPair) : tabB l = frs (bodA l) ++ four (outB l (nBlk l)).length := by
  unfold tabB bodA
  rw [frs_app, frs_bods, frs, frs, List.append_nil]
theorem bodA_ok {l : List MPair} (h : tabOk l = true) : ∀ x, x ∈ bodA l → BytesOk x ∧ x.length ≤ 1000000000 := by
  intro x hx
  unfold bodA at hx
  rcases List.mem_append.1 hx with hx | hx
  · obtain ⟨j, hj, rfl⟩ := List.mem_map.1 hx
    have hj' := List.mem_range.1 hj
    have h1 := outB_little h (j + 1) (by omega)
    rw [outB, List.length_append] at h1
    unfold frame at h1
    simp only [List.length_append] at h1
    exact ⟨blockB_ok _ _, by omega⟩
  · rw [List.mem_singleton] at hx
    subst hx
    have := idx_little h
    exact ⟨idx_ok l, by omega⟩
theorem frame_lay {x : List Int} (h : x.length ≤ 1000000000) : frame x = four (crc x) ++ (putNum (x.length : Int) ++ x) := by
  unfold frame
  rw [clampN_in (by omega) (by omega), List.append_assoc]
theorem frame_size {x : List Int} (h : x.length ≤ 1000000000) : (frame x).length = 4 + (putNum (x.length : Int)).length + x.length := by
  rw [frame_lay h]
  simp only [List.length_append, four_length]
  omega
theorem frs_at (bs : List (List Int)) (t : List Int) (hb : ∀ x, x ∈ bs → BytesOk x ∧ x.length ≤ 1000000000) {i : Nat} (hi : i < bs.length) :
    unframe (frs bs ++ t) ((frs (bs.take i)).length : Nat) = (bs[i], (((frs (bs.take (i + 1))).length : Nat) : Int), true) := by
  have e : frs bs ++ t = frs (bs.take i) ++ (frame bs[i] ++ (frs (bs.drop (i + 1)) ++ t)) := by
    have h1 : bs = bs.take i ++ bs[i] :: bs.drop (i + 1) := by rw [← List.drop_eq_getElem_cons hi, List.take_append_drop]
    have h2 := congrArg frs h1
    rw [frs_app, frs] at h2
    rw [h2]
    simp
  have h2 : (frs (bs.take (i + 1))).length = (frs (bs.take i)).length + (frame bs[i]).length := by
    rw [List.take_succ_eq_append_getElem hi, frs_app, frs, frs, List.append_nil, List.length_append]
  have hx := hb bs[i] (List.getElem_mem hi)
  rw [e, h2]
  exact unframe_at (frs (bs.take i)) (frs (bs.drop (i + 1)) ++ t) bs[i] hx.1 hx.2
theorem unframe_four (y t : List Int) {s : Int} (h0 : 0 ≤ s) (h1 : s < 4294967296) (hl : y.length ≤ 1000000000) (hne : crc y ≠ s) : (unframe (four s ++ (putNum (y.length : Int) ++ (y ++ t))) 0).2.2 = false := by
  have ht := getText_at (four s) y t hl
  have hr := rd4_at [] (putNum (y.length : Int) ++ (y ++ t)) h0 h1
  simp only [List.nil_append, List.length_nil] at hr
  have hlen : 0 + 4 ≤ (four s ++ (putNum (y.length : Int) ++ (y ++ t))).length := by simp only [List.length_append, four_length]; omega
  have hu := unframe_sum (p := 0) hlen (by simpa [four_length] using ht) (by rw [hr]; exact hne)
  have e0 : (((0 : Nat) : Nat) : Int) = 0 := rfl
  rw [e0] at hu
  rw [hu]
theorem four_of {p : List Int} (hp : BytesOk p) (hl : p.length = 4) : ∃ s : Int, 0 ≤ s ∧ s < 4294967296 ∧ p = four s := by
  obtain ⟨a, b, c, d, rfl⟩ : ∃ a b c d, p = [a, b, c, d] := by
    match p, hl with
    | [a, b, c, d], _ => exact ⟨a, b, c, d, rfl⟩
  have ha := hp a (by simp)
  have hb := hp b (by simp)
  have hc := hp c (by simp)
  have hd := hp d (by simp)
  refine ⟨a * 16777216 + b * 65536 + c * 256 + d, by omega, by omega, ?_⟩
  unfold four
  simp only [List.cons.injEq, and_true]
  refine ⟨by omega, by omega, by omega, by omega⟩
theorem set_byte {x : List Int} (hx : BytesOk x) {c : Int} (hc : 0 ≤ c ∧ c ≤ 255) (k : Nat) : BytesOk (x.set k c) := fun z hz => by
  rcases List.mem_or_eq_of_mem_set hz with h | rfl
  · exact hx z h
  · exact hc
theorem set_same {x : List Int} {k : Nat} {c : Int} (hk : k < x.length) (h : x.set k c = x) : c = x.getD k 0 := by
  have h2 := congrArg (fun z : List Int => z.getD k 0) h
  simp only [List.getD_eq_getElem?_getD, List.getElem?_set_self hk, Option.getD_some] at h2
  rw [List.getD_eq_getElem?_getD]
  exact h2
theorem unframe_bad {x t : List Int} {k : Nat} {c : Int} (hx : BytesOk x) (hl : x.length ≤ 1000000000) (hk : k < (frame x).length) (hn : 4 ≤ k → 4 + (putNum (x.length : Int)).length ≤ k) (hc : 0 ≤ c ∧ c ≤ 255) (hne : c ≠ (frame x).getD k 0) :
    (unframe ((frame x).set k c ++ t) 0).2.2 = false := by
  have hcr := crc_bd hx
  rw [frame_size hl] at hk
  rw [frame_lay hl] at hne ⊢
  by_cases h4 : k < 4
  · have hk4 : k < (four (crc x)).length := by rw [four_length]; exact h4
    rw [List.set_append_left _ _ hk4]
    obtain ⟨s, s0, s1, hs⟩ := four_of (set_byte (four_ok hcr.1 hcr.2) hc k) (by rw [List.length_set, four_length])
    rw [hs]
    have := unframe_four x t s0 s1 hl (fun e => by
      rw [← e] at hs
      have h2 := set_same hk4 hs
      apply hne
      rw [List.getD_eq_getElem?_getD, List.getElem?_append_left hk4, ← List.getD_eq_getElem?_getD]
      exact h2)
    simpa using this
  · have hp := hn (by omega)
    obtain ⟨m, rfl⟩ : ∃ m, k = 4 + (putNum (x.length : Int)).length + m := ⟨k - (4 + (putNum (x.length : Int)).length), by omega⟩
    have hm : m < x.length := by omega
    have e1 : (four (crc x) ++ (putNum (x.length : Int) ++ x)).set (4 + (putNum (x.length : Int)).length + m) c = four (crc x) ++ (putNum (x.length : Int) ++ x.set m c) := by
      rw [List.set_append_right _ _ (by rw [four_length]; omega), List.set_append_right _ _ (by rw [four_length]; omega)]
      congr 3
      rw [four_length]
      omega
    have e2 : (four (crc x) ++ (putNum (x.length : Int) ++ x)).getD (4 + (putNum (x.length : Int)).length + m) 0 = x[m] := by
      rw [List.getD_eq_getElem?_getD, List.getElem?_append_right (by rw [four_length]; omega), List.getElem?_append_right (by rw [four_length]; omega), List.getElem?_eq_getElem (by rw [four_length]; omega)]
      simp only [Option.getD_some, four_length]
      congr 1
      omega
    rw [e2] at hne
    rw [e1]
    have hcn : crc (x.set m c) ≠ crc x := by
      have hxe : x = x.take m ++ x[m] :: x.drop (m + 1) := by rw [← List.drop_eq_getElem_cons hm, List.take_append_drop]
      have hse : x.set m c = x.take m ++ c :: x.drop (m + 1) := by rw [List.set_eq_take_append_cons_drop, if_pos hm]
      rw [hse]
      intro e
      rw [hxe] at e
      have hgm := hx x[m] (List.getElem_mem hm)
      have := crc_ne (p := x.take m) (t := x.drop (m + 1)) (c := c) (d := x[m]) (fun z hz => hx z (List.mem_of_mem_take hz)) (fun z hz => hx z (List.mem_of_mem_drop hz)) hc hgm hne
      apply this
      rw [← hxe] at e ⊢
      exact e
    have := unframe_four (x.set m c) t hcr.1 hcr.2 (by rw [List.length_set]; exact hl) hcn
    rw [List.length_set] at this
    simpa using this
theorem turned_no : ∀ (bs cs : List (List Int)) (k : Nat) (c : Int), (∀ x, x ∈ bs → BytesOk x ∧ x.length ≤ 1000000000) → (∀ x, x ∈ cs → BytesOk x ∧ x.length ≤ 1000000000) → k < (frs bs).length → (0 ≤ c ∧ c ≤ 255) → c ≠ (frs bs).getD k 0 →
    (∀ i, (hi : i < bs.length) → (frs (bs.take i)).length + 4 ≤ k → (frs (bs.take i)).length + 4 + (putNum (bs[i].length : Int)).length ≤ k) → (frs bs).set k c ≠ frs cs := by
  intro bs
  induction bs with
  | nil => intro cs k c _ _ hk; simp [frs] at hk
  | cons x r ih =>
    intro cs k c hb hcs hk hc hne hsafe hEq
    have hx := hb x (by simp)
    cases cs with
    | nil =>
      have h2 := congrArg List.length hEq
      rw [List.length_set] at h2
      simp only [frs, List.length_nil] at h2 hk
      omega
    | cons y cs =>
      have hy := hcs y (by simp)
      have uy := unframe_at [] (frs cs) y hy.1 hy.2
      simp only [List.nil_append, List.length_nil] at uy
      rw [frs, frs] at hEq
      rw [frs] at hk hne
      by_cases hkx : k < (frame x).length
      · rw [List.set_append_left _ _ hkx] at hEq
        have h0 := hsafe 0 (by simp)
        simp only [List.take_zero, frs, List.length_nil, Nat.zero_add, List.getElem_cons_zero] at h0
        have hbad := unframe_bad (t := frs r) hx.1 hx.2 hkx h0 hc (fun e => hne (by rw [e, List.getD_eq_getElem?_getD, List.getD_eq_getElem?_getD, List.getElem?_append_left hkx]))
        rw [hEq] at hbad
        have e0 : (((0 : Nat) : Nat) : Int) = 0 := rfl
        rw [e0] at uy
        rw [uy] at hbad
        cases hbad
      · rw [List.set_append_right _ _ (by omega)] at hEq
        have ux := unframe_at [] ((frs r).set (k - (frame x).length) c) x hx.1 hx.2
        simp only [List.nil_append, List.length_nil] at ux
        rw [hEq, uy] at ux
        have hxy : y = x := congrArg Prod.fst ux
        subst hxy
        have hEq2 := List.append_cancel_left hEq
        refine ih cs (k - (frame y).length) c (fun z hz => hb z (by simp [hz])) (fun z hz => hcs z (by simp [hz])) (by rw [List.length_append] at hk; omega) hc ?_ ?_ hEq2
        · intro e
          apply hne
          rw [e, List.getD_eq_getElem?_getD, List.getD_eq_getElem?_getD, List.getElem?_append_right (by omega)]
        · intro i hi h1
          have h2 := hsafe (i + 1) (by simp; omega)
          simp only [List.take_succ_cons, frs, List.length_append, List.getElem_cons_succ] at h2
          have h3 := h2 (by omega)
          omega
theorem tp_turned {l : List MPair} (h : tabOk l = true) {k : Nat} {c : Int} (hk : k < (tabB l).length - 4) (hc : 0 ≤ c ∧ c ≤ 255) (hne : c ≠ (tabB l).getD k 0)
    (hs : ∀ i, (hi : i < (bodA l).length) → (frs ((bodA l).take i)).length + 4 ≤ k → (frs ((bodA l).take i)).length + 4 + (putNum ((bodA l)[i].length : Int)).length ≤ k) : (tpS ((tabB l).set k c)).2 = false := by
  rcases tpS_cases ((tabB l).set k c) with e | ⟨l', h', e', e⟩
  · rw [e]
  · exfalso
    have hkf : k < (frs (bodA l)).length := by rw [tab_frs, List.length_append, four_length] at hk; omega
    rw [tab_frs l, tab_frs l', List.set_append_left _ _ hkf] at e'
    have h2 := (List.append_inj' e' (by simp [four_length])).1
    refine turned_no (bodA l) (bodA l') k c (bodA_ok h) (bodA_ok h') hkf hc ?_ hs h2.symm
    intro e9
    apply hne
    rw [e9, tab_frs l, List.getD_eq_getElem?_getD, List.getD_eq_getElem?_getD, List.getElem?_append_left hkf]


theorem tab_small {l : List MPair} (h : tabOk l = true) : (tabB l).length ≤ 1048576 := by
  have hw := tabOk_w h
  have hn := nBlk_le h
  have hb : ∀ i, (outB l i).length ≤ 8073 * i := by
    intro i
    induction i with
    | zero => simp [outB]
    | succ i ih =>
      have h1 := frame_len (blockB ByteArray.empty (blk l i))
      have h2 := blockB_len ByteArray.empty (blk l i)
      have h3 := blk_weight l i
      have h4 := blk_length (l := l) (i := i)
      simp only [outB, List.length_append]
      omega
  have hx : ∀ i, (idxB l i).length ≤ 8010 * i := by
    intro i
    induction i with
    | zero => simp [idxB]
    | succ i ih =>
      have h1 := putText_len [] (lastK ByteArray.empty (blk l i))
      have h2 := (putNum_length (clampN ((outB l i).length : Int))).2
      have h3 := lastK_wt (blk l i)
      have h4 := blk_weight l i
      simp only [idxB, idx1, List.length_append, List.length_nil] at *
      omega
  have h1 := hb (nBlk l)
  have h2 := hx (nBlk l)
  have h3 := frame_len (putNum (clampN (nBlk l)) ++ idxB l (nBlk l) ++ flt (keysP l))
  have h5 := (putNum_length (clampN (nBlk l))).2
  have h6 := flt_length (keysP l)
  unfold tabB
  simp only [List.length_append, four_length] at *
  omega
theorem tab_long {l : List MPair} (h : tabOk l = true) : 4 < (tabB l).length := by
  have := frame_long (putNum (clampN (nBlk l)) ++ idxB l (nBlk l) ++ flt (keysP l))
  unfold tabB
  simp only [List.length_append, four_length] at *
  omega
theorem tab_bytes {l : List MPair} (h : tabOk l = true) : BytesOk (tabB l) := by
  have h1 := tabP_ok (l := l) (by have := tabOk_w h; omega)
  unfold tabP at h1
  rw [if_pos h] at h1
  exact h1
def tildeK (s : ByteArray) : ByteArray := s ++ ⟨#[126]⟩
theorem keysT_tilde : ∀ s, s ∈ keysL → ∀ t, t ∈ keysL → s ≠ tildeK t := by decide +kernel
theorem tbl_tab {ns : List MNode} (h : TblT ns) (h0 : 0 < ns.length) : tabOk (ns.map MNode.fP) = true := by
  have h1 := h.1
  unfold memOkP at h1
  simp only [Bool.and_eq_true, decide_eq_true_eq] at h1
  unfold tabOk
  rw [Bool.and_eq_true, decide_eq_true_eq, List.length_map]
  exact ⟨h1.1.2, by have h2 : ns.length ≤ 60 := h1.1.1; omega⟩
theorem tbl_tilde {ns : List MNode} (h : TblT ns) : ∀ x, x ∈ ns.map MNode.fP → ∀ y, y ∈ ns.map MNode.fP → x.fKey ≠ tildeK y.fKey := by
  intro x hx y hy
  obtain ⟨a, ha, rfl⟩ := List.mem_map.1 hx
  obtain ⟨b, hb, rfl⟩ := List.mem_map.1 hy
  exact keysT_tilde _ (h.2 a ha) _ (h.2 b hb)
def oneP : MPair := ⟨⟨#[107]⟩, ⟨#[118]⟩, false⟩
theorem one_tab : tabOk [oneP] = true := by decide +kernel
theorem one_tilde : ∀ x, x ∈ [oneP] → ∀ y, y ∈ [oneP] → x.fKey ≠ tildeK y.fKey := by decide +kernel

/-- What the draw answers. -/
def PrsD (w : World) (e : Ending) (w' : World) : Prop := ∃ (a : Option Addr) (c : Nat) (l : List MPair), e = .returned (.slice a l.length c) ∧ LeafL 3 rPair w'.heap.size w' a c l ∧ tabOk l = true ∧ (∀ x, x ∈ l → ∀ y, y ∈ l → x.fKey ≠ tildeK y.fKey) ∧ Below w.heap.size w w'

set_option maxHeartbeats 2000000 in
theorem drawPairs_ok (a : Option Addr) (n cap : Nat) (zs : List Int) (w : World) (hx : zs.length = n) (hlen : n ≤ 1048576) (hr : Rd .u8 w.heap.size w a zs) :
    Calls Tryd.prog 5 #[.slice a n cap] w (PrsD w) := by
  go_enter Tryd.func5, Tryd.ntmps5
  go_wp2_with fail
  refine (l1New_any a n cap zs w hx (by omega) hr).mono ?_
  rintro e w1 ⟨rfl, hc1, hb1⟩
  go_wp2_with fail
  refine (l4ListT_ok 14 hc1 (by omega)).mono ?_
  rintro e w2 ⟨v, l, rfl, ⟨hd, hc2, hg2⟩, ns, rfl, htb⟩
  have hb2 : Below w.heap.size w w2 := hb1.grown hg2 hb1.size (fun k hk => by have h := hb1.size; simp at hk; omega)
  obtain ⟨a2, c2, rfl⟩ := pair_shape hd
  have hL := (pair_read hd).1
  have HTB := Hid.mk htb
  have HL := Hid.mk hL
  clear hd hc1 hc2 hg2 htb hL hb1 hr
  cases ns with
  | nil =>
    have hz : (([] : List MNode).map MNode.fP).length = 0 := rfl
    go_wp2_with fail
    refine bodyPost_ret (v := .slice (some ⟨w2.heap.size, 0, none⟩) 1 1) (by simp [results, Tryd.results5, go_sem, *]) rfl ?_
    have hx3 : Below w2.heap.size w2 (w2.alloc (.cells #[.string ⟨#[107]⟩, .string ⟨#[118]⟩, .bool false] 32)) := (Below.refl _ _).alloc (Nat.le_refl _) _
    refine ⟨some ⟨w2.heap.size, 0, none⟩, 1, [oneP], rfl, ?_, one_tab, one_tilde, bthen hb2 hx3⟩
    refine (pair_read (base := w2.heap.size) (most := 1) (n := 1) (l := [oneP]) ⟨⟨by simp [flatP, prC], .inr ⟨w2.heap.size, 1, _, rfl, Nat.le_refl _, Array.getElem?_push_size, by simp, by simp [maxLen], by simp, by simp [flatP, prC, oneP]⟩⟩, fun x hx => ?_, by simp⟩).1
    rw [List.mem_singleton.1 hx]
    exact ⟨by decide, by decide⟩
  | cons x ns =>
    have hz : 0 < ((x :: ns).map MNode.fP).length := by simp
    obtain ⟨l, hl⟩ : ∃ l, l = (x :: ns).map MNode.fP := ⟨_, rfl⟩
    have HT := Hid.mk (tbl_tab HTB.out (by simp))
    have HD := Hid.mk (tbl_tilde HTB.out)
    rw [← hl] at HT HD HL hz ⊢
    clear hl HTB
    have hz2 : (l.length : Int) ≠ 0 := by omega
    go_wp2_with fail
    go_ret
    exact ⟨a2, c2, l, rfl, HL.out, HT.out, HD.out, hb2⟩



/-- The tables of utf8, that of the sum, and the error are as laid. -/
def Tabs3 (w : World) : Prop := Tabs2 w ∧ ∃ pe, ErrAt w pe
theorem Tabs3.size {w : World} (h : Tabs3 w) : 0 < w.heap.size := h.1.size
theorem Tabs3.below {w w' : World} (h : Tabs3 w) (hb : Below w.heap.size w w') (hB : 0 < w.heap.size) : Tabs3 w' := ⟨h.1.below hb hB, by obtain ⟨pe, h2⟩ := h.2; exact ⟨pe, h2.below hb⟩⟩

theorem rpS_nil {zs : List Int} (h : (rpS zs).2 = true) : zs ≠ [] := by
  intro h0
  subst h0
  cases h
def TiPost (w : World) (r : List MPair × Bool) (e : Ending) (w' : World) : Prop :=
  ∃ (v : Value) (F : List Nat), e = .returned (.tuple #[v, .bool r.2]) ∧ ownS 3 32 oPair w' v r.1 F ∧ F.Nodup ∧ (∀ b, b ∈ F → w.heap.size ≤ b) ∧ Below w.heap.size w w'

set_option maxHeartbeats 8000000 in
theorem implTab_any (a : Option Addr) (n cap : Nat) (zs : List Int) (pe : Addr) (w : World) (hx : zs.length = n) (hlen : n ≤ 1048576) (hcap : n ≤ cap) (hcm : cap ≤ 9223372036854775807) (hb : BytesOk zs) (hr : Rd .u8 w.heap.size w a zs) (hT : Tabs2 w) (hE : ErrAt w pe) :
    Calls Tryd.prog 7 #[.slice a n cap] w (TiPost w (tpS zs)) := by
  have hCr := readPairs_any a n cap zs pe w hx hlen hcap hcm hb hr hT.2 hE
  have HRT := Hid.mk (rp_tp zs)
  have HX := Hid.mk hx
  have HB := Hid.mk hb
  clear hx hb
  go_enter Tryd.func7, Tryd.ntmps7
  go_wp2_with fail
  refine Calls.mono hCr ?_
  rintro e w1 ⟨hb1, ⟨h1, hli, hol, v, rfl, hrow⟩ | ⟨h1, s, rfl⟩⟩
  · have hE1 := hE.below hb1
    have k0 : w1.cell? ⟨0, 0, none⟩ = some (errV pe) := hE1
    have HNE := Hid.mk (rpS_nil h1)
    generalize rpS zs = R at *
    obtain ⟨l, ok⟩ := R
    simp only at h1 hli hol hrow HRT
    subst h1
    obtain ⟨al, cl, rfl, hLl⟩ := rdPs_row hrow
    have hCp := implPut_light al l.length cl l w1 rfl (by omega) hLl hli (hT.1.below hb1) (hT.2.below hb1 hT.2.size)
    unfold errV at k0
    have hCi := is_nil pe w1
    unfold errV at hCi
    clear hCr hLl
    go_wp2_with fail
    refine Calls.mono hCi ?_
    rintro e w1 ⟨rfl, rfl⟩
    go_wp2_with fail
    refine Calls.mono hCp ?_
    rintro e w2 ⟨vt, rfl, hot, hb2⟩
    obtain ⟨at2, ct2, rfl, _, hRt⟩ := own_rd rfl hot
    have hB2 := hb1.trans (hb2.mono hb1.size)
    have hrz := (hr.below hB2).mono hB2.size
    have HTO : Hid (BytesOk (tabP l)) := by
      show BytesOk _
      by_cases h : tabOk l = true
      · exact tabP_ok (by have := tabOk_w h; omega)
      · unfold tabP; rw [if_neg h]; intro z hz; cases hz
    have hCe := bytesEq_any at2 a (tabP l).length n ct2 cap (tabP l) zs w2 w2.heap.size rfl HX.out HTO.out HB.out hRt hrz
    have HRW2 := Hid.mk (row_below hrow hb2 (Nat.zero_le _))
    clear hCp hCi hot hrow k0 hr
    go_wp2_with fail
    refine Calls.mono hCe ?_
    rintro e w3 ⟨rfl, hb3⟩
    have hB3 := hB2.trans (hb3.mono hB2.size)
    have HRW3 := Hid.mk (row_below HRW2.out hb3 (Nat.zero_le _))
    clear hCe hRt hrz
    by_cases hd : tabP l = zs
    · have HF : Hid (tpS zs = (l, true)) := by show _ = _; rw [HRT.out, if_pos ⟨(by first | trivial | rfl), hd, HNE.out⟩]
      rw [decide_eq_true hd]
      obtain ⟨p1, p2, p3⟩ := pairs_own HRW3.out
      have HP1 := Hid.mk p1
      have HP2 := Hid.mk p2
      have HP3 := Hid.mk p3
      clear p1 p2 p3
      go_wp2_with fail
      all_goals (go_ret2; exact ⟨_, _, (by first | (rw [HF.out]; done) | (rw [HF.out]; rfl)), by rw [HF.out]; exact HP1.out, HP2.out, HP3.out, hB3⟩)
    · have HF : Hid (tpS zs = ([], false)) := by show _ = _; rw [HRT.out, if_neg (by rintro ⟨_, h, _⟩; exact hd h)]
      rw [decide_eq_false hd]
      go_wp2_with fail
      all_goals (go_ret2; exact ⟨_, [], (by first | (rw [HF.out]; done) | (rw [HF.out]; rfl)), by rw [HF.out]; exact .inl ⟨rfl, rfl, rfl⟩, List.nodup_nil, (fun b hb => by cases hb), hB3⟩)
  · have hE1 := hE.below hb1
    have k0 : w1.cell? ⟨0, 0, none⟩ = some (errV pe) := hE1
    have HF : Hid (tpS zs = ([], false)) := by show _ = _; rw [HRT.out, if_neg (by rintro ⟨h, _⟩; rw [h1] at h; cases h)]
    have hCi := is_part s pe w1
    unfold errV at k0
    unfold partV errV at hCi
    unfold partV errV
    clear hCr
    go_wp2_with fail
    refine Calls.mono hCi ?_
    rintro e w2 ⟨rfl, hb2⟩
    have hB2 := hb1.trans (hb2.mono hb1.size)
    go_wp2_with fail
    all_goals (go_ret2; exact ⟨_, [], (by first | (rw [HF.out]; done) | (rw [HF.out]; rfl)), by rw [HF.out]; exact .inl ⟨rfl, rfl, rfl⟩, List.nodup_nil, (fun b hb => by cases hb), hB2⟩)


theorem below_of_cur {w W : World} {g : Nat} {w0 : World} (hb : Below w.heap.size w w0) (hg : w.heap.size ≤ g) (h : w0.grownBy W (some g)) : Below w.heap.size w W :=
  hb.grown h hb.size (fun k hk => by simp at hk; omega)


theorem LstD.base {W : World} {base base' : Nat} {v : Value} {ll : List (List MPair)} {vs : List Value} (h : LstD W base v ll vs) (hb : base' ≤ base) : LstD W base' v ll vs :=
  ⟨own_base h.1 hb, fun j h1 h2 => (h.2 j h1 h2).base hb⟩
/-- Within the draw. -/
def InM (w : World) (g B : Nat) (v : Value) (ll : List (List MPair)) (vs : List Value) (W : World) : Prop :=
  LstD W B v ll vs ∧ CurOk W g ∧ Below w.heap.size w W ∧ B ≤ W.heap.size
theorem InM.step {w W W' : World} {g B : Nat} {v : Value} {ll : List (List MPair)} {vs : List Value} (h : InM w g B v ll vs W) (hg : w.heap.size ≤ g) (hB : g < B) (hc : CurOk W' g) (hs : W.grownBy W' (some g)) : InM w g B v ll vs W' :=
  ⟨h.1.grown hs hB, hc, below_of_cur h.2.2.1 hg hs, Nat.le_trans h.2.2.2 hs.size⟩
theorem InM.under {w W W' : World} {g B : Nat} {v : Value} {ll : List (List MPair)} {vs : List Value} (h : InM w g B v ll vs W) (hb : Below W.heap.size W W') : InM w g B v ll vs W' :=
  ⟨h.1.under hb, h.2.1.below hb, bthen h.2.2.1 hb, Nat.le_trans h.2.2.2 hb.size⟩
theorem InM.append {w W W' : World} {g B : Nat} {v v' u : Value} {ll : List (List MPair)} {vs : List Value} {l : List MPair} (h : InM w g B v ll vs W) (hg : w.heap.size ≤ g) (hB : g < B) (hu : PairDrawn W B u l 101) (hgr : W.grownBy W' v.ownBlock) (ho : W'.ownsRow B 24 1 v' (ll.length + 1) (vs ++ [u])) : InM w g B v' (ll ++ [l]) (vs ++ [u]) W' :=
  ⟨h.1.append hu hgr ho, h.2.1.grown hgr (fun k hk => Nat.lt_of_lt_of_le hB (h.1.1.lt k hk).1), h.2.2.1.grown hgr h.2.2.1.size (fun k hk => by have := (h.1.1.lt k hk).1; omega), Nat.le_trans h.2.2.2 hgr.size⟩
abbrev qb8e_8_6_0 : Oper := ⟨some 17, .move (.tmp 0), 24, "laws.go:34", #[], none⟩
abbrev qb8e_8_6_1 : Oper := ⟨some 18, .move (.tmp 5), 3, "laws.go:34", #[], none⟩
abbrev qb8e_8_6_2 : Oper := ⟨some 19, .indexAddr 24 (.tmp 17) (.tmp 18), 0, "laws.go:34", #[⟨0, .data⟩, ⟨1, .data⟩], none⟩
abbrev qb8e_8_6_3 : Oper := ⟨some 20, .load 32 (.tmp 19), 32, "laws.go:34", #[⟨2, .data⟩], none⟩
abbrev qb8e_8_6_4 : Oper := ⟨some 21, .move (.tmp 1), 24, "laws.go:34", #[], none⟩
abbrev qb8e_8_6_5 : Oper := ⟨some 22, .move (.tmp 5), 3, "laws.go:34", #[], none⟩
abbrev qb8e_8_6_6 : Oper := ⟨some 23, .indexAddr 24 (.tmp 21) (.tmp 22), 0, "laws.go:34", #[⟨4, .data⟩, ⟨5, .data⟩], none⟩
abbrev qb8e_8_6_7 : Oper := ⟨some 24, .load 32 (.tmp 23), 32, "laws.go:34", #[⟨6, .data⟩], none⟩
abbrev qb8e_8_6_8 : Oper := ⟨some 25, .binOp .neq 32 (.tmp 20) (.tmp 24) 32, 4, "laws.go:34", #[⟨3, .data⟩, ⟨7, .data⟩], none⟩

/-- The cells of a pair of a list, for whatever comes below. -/
theorem pair_cells {w wr : World} {a : Option Addr} {c k : Nat} {l : List MPair} (h : LeafL 3 rPair w.heap.size w a c l) (hb : Below w.heap.size w wr) (hk : k < l.length) :
    ∃ b o, a = some ⟨b, o, none⟩ ∧ (∀ W, Below wr.heap.size wr W → W.cell? ⟨b, o + k * 3, none⟩ = some (.string l[k].fKey)) ∧ (∀ W, Below wr.heap.size wr W → W.cell? ⟨b, o + k * 3 + 1, none⟩ = some (.string l[k].fVal)) ∧ (∀ W, Below wr.heap.size wr W → W.cell? ⟨b, o + k * 3 + 2, none⟩ = some (.bool l[k].fGone)) := by
  obtain ⟨b, o, e, hB, cs, _, hcell, rfl, _⟩ := (h.2.2.below rPair_good hb) k hk
  have hz : b < wr.heap.size := Nat.lt_of_lt_of_le hB hb.size
  exact ⟨b, o, e, fun W hW => (hW.cell (p := ⟨b, o + k * 3, none⟩) hz).trans (hcell 0 _ rfl), fun W hW => (hW.cell (p := ⟨b, o + k * 3 + 1, none⟩) hz).trans (hcell 1 _ rfl), fun W hW => (hW.cell (p := ⟨b, o + k * 3 + 2, none⟩) hz).trans (hcell 2 _ rfl)⟩

set_option maxHeartbeats 2000000 in
theorem samePairs_yes (a b : Option Addr) (c d : Nat) (l : List MPair) (w : World) (ha : LeafL 3 rPair w.heap.size w a c l) (hb : LeafL 3 rPair w.heap.size w b d l) :
    Calls Tryd.prog 8 #[.slice a l.length c, .slice b l.length d] w fun e w' => e = .returned (.bool true) ∧ Below w.heap.size w w' := by
  have hlc : l.length ≤ 9223372036854775807 := Nat.le_trans ha.1 ha.2.1
  have HA := Hid.mk ha
  have HB := Hid.mk hb
  clear ha hb
  go_enter Tryd.func8, Tryd.ntmps8
  go_wp2_with fail
  go_loopw [5] (fun iv wr => ∃ k : Nat, k ≤ l.length ∧ iv = .int .i64 k ∧ Below w.heap.size w wr) (fun iv _ => l.length - (intOf iv).toNat)
  case atStart => exact ⟨0, Nat.zero_le _, rfl, Below.refl _ _⟩
  case round =>
    obtain ⟨k, hk, rfl, hbk⟩ := hrel
    by_cases hlt : k < l.length
    · obtain ⟨b1, o1, rfl, u0, u1, u2⟩ := pair_cells HA.out hbk hlt
      obtain ⟨b2, o2, rfl, v0, v1, v2⟩ := pair_cells HB.out hbk hlt
      generalize l[k] = x at *
      clear HA HB
      go_wp2_with fail
      refine wp_region_held_drew (S := fun W => Below wr.heap.size wr W) (by kernel_rfl) (Below.drew (Below.refl _ _)) (fun hHeld => ?_)
      refine tk 0 qb8e_8_6_0 (some 17) (v := ?v1) rfl rfl (by kernel_rfl) hHeld (by rfl) (fun _ _ _ x => x) (fun w h => ?y1) ?_; (case y1 => (try dsimp only at h); go_simp; try (with_reducible rfl)); try simp only [Act.put, sa, s0, s1]
      refine tk 1 qb8e_8_6_1 (some 18) (v := ?v2) rfl rfl (by kernel_rfl) hHeld (by rfl) (fun _ _ _ x => x) (fun w h => ?y2) ?_; (case y2 => (try dsimp only at h); go_simp; try (with_reducible rfl)); try simp only [Act.put, sa, s0, s1]
      refine tk 2 qb8e_8_6_2 (some 19) (v := ?v3) rfl rfl (by kernel_rfl) hHeld (by rfl) (fun _ _ _ x => x) (fun w h => ?y3) ?_; (case y3 => (try dsimp only at h); go_simp; try (with_reducible rfl)); try simp only [Act.put, sa, s0, s1]
      refine tk 3 qb8e_8_6_3 (some 20) (v := ?v4) rfl rfl (by kernel_rfl) hHeld (by rfl) (fun _ _ _ x => x) (fun w h => ?y4) ?_; (case y4 => (try dsimp only at h); go_simp; try (with_reducible rfl)); try simp only [Act.put, sa, s0, s1]
      refine tk 4 qb8e_8_6_4 (some 21) (v := ?v5) rfl rfl (by kernel_rfl) hHeld (by rfl) (fun _ _ _ x => x) (fun w h => ?y5) ?_; (case y5 => (try dsimp only at h); go_simp; try (with_reducible rfl)); try simp only [Act.put, sa, s0, s1]
      refine tk 5 qb8e_8_6_5 (some 22) (v := ?v6) rfl rfl (by kernel_rfl) hHeld (by rfl) (fun _ _ _ x => x) (fun w h => ?y6) ?_; (case y6 => (try dsimp only at h); go_simp; try (with_reducible rfl)); try simp only [Act.put, sa, s0, s1]
      refine tk 6 qb8e_8_6_6 (some 23) (v := ?v7) rfl rfl (by kernel_rfl) hHeld (by rfl) (fun _ _ _ x => x) (fun w h => ?y7) ?_; (case y7 => (try dsimp only at h); go_simp; try (with_reducible rfl)); try simp only [Act.put, sa, s0, s1]
      refine tk 7 qb8e_8_6_7 (some 24) (v := ?v8) rfl rfl (by kernel_rfl) hHeld (by rfl) (fun _ _ _ x => x) (fun w h => ?y8) ?_; (case y8 => (try dsimp only at h); go_simp; try (with_reducible rfl)); try simp only [Act.put, sa, s0, s1]
      refine tk 8 qb8e_8_6_8 (some 25) (v := ?v9) rfl rfl (by kernel_rfl) hHeld (by rfl) (fun _ _ _ x => x) (fun w h => ?y9) ?_; (case y9 => (try dsimp only at h); go_simp; try (with_reducible rfl)); try simp only [Act.put, sa, s0, s1]
      refine wpAnyH_done (by kernel_rfl) ?_ _
      go_wp2_with fail
      go_roundw
      case rel => exact ⟨k + 1, by omega, by go_num, bthen hbk hHeld⟩
      case measure => simp [intOf]; omega
    · go_wp2_with fail
      go_ret
      exact ⟨rfl, hbk⟩

end Go.Proofs.YtmedljankefhbaaDoor

namespace Go.Proofs.YtmedljankefhbaaDoor
open Go.RowKit

section
variable {H : Type} {enc : TypeId × Value → H} {w : World} {base fuel : Nat} {spare : Nat → Bool} {held : Bool} {cs : List Value} {x : DataW H × List MemPlace}

theorem openBytes {t e : TypeId} (ht : Tryd.prog.underlying t = some (.slice e)) (he : Tryd.prog.underlying e = some (.int .u8)) (hc : Tryd.prog.cellsOf e = 1) (h : DataW.trod enc Tryd.prog w base spare held fuel t cs = some x) :
    ∃ a c, ∃ zs : List Int, cs = [.slice a zs.length c] ∧ LeafB w.heap.size w a c zs := by
  rcases Go.ChangeShapes.open_ints ht he hc h with ⟨rfl, _⟩ | ⟨a, len, cap, zs, rfl, _, hl, hm, hz, _, hcell, hwf⟩
  · exact ⟨none, 0, [], rfl, by simp, by omega, fun j hj => by simp at hj, fun z hz => by cases hz⟩
  · have hzl : len ≤ zs.length := by rw [hz]; split <;> omega
    refine ⟨some a, cap, zs.take len, by simp [hzl], by simp; omega, by simpa [maxLen] using hm, ?_, ?_⟩
    · intro j hj
      have hj' : j < len := by simp at hj; omega
      obtain ⟨b, off, rfl, hcc⟩ := ints_at hcell (by omega)
      have hcj := hcc j (by omega)
      refine ⟨b, off, rfl, World.block_lt_of_cell? _ _ hcj, ?_⟩
      rw [hcj]
      congr 2
      simp only [List.getD_eq_getElem?_getD, List.getElem?_take, hj', if_true]
    · intro z hz'
      have := hwf z (List.mem_of_mem_take hz')
      simpa [Lit.wf, IntKind.min, IntKind.max, IntKind.signed, IntKind.bits] using this

end

end Go.Proofs.YtmedljankefhbaaDoor
