/-
  Part 3 of the texts that the proof leans on.
-/
import Derived.Test.YtomlpobbhioflaaGreatDoorStn1
import Derived.Lib.ItoaNum
import Derived.Lib.Join
import Derived.Laws.BytesArg
import Derived.Test.YtomlpobbhioflaaGreatDoorRows
import Derived.Test.YtomlpobbhioflaaGreatDoorStn0
import Derived.Test.YtomlpobbhioflaaGreatDoorChecked
import Derived.Lib.ConvBytes
import Derived.Deep.RegionWith
set_option linter.unusedVariables false
set_option linter.unusedSimpArgs false
set_option maxRecDepth 10000

namespace Go.Proofs.YtomlpobbhioflaaGreatDoor
open Go.RowKit
def strB (l : List UInt8) : ByteArray := ⟨l.toArray⟩
theorem strB_data (l : List UInt8) : (strB l).data.toList = l := by simp [strB]
theorem strB_size (l : List UInt8) : (strB l).size = l.length := by simp [strB, ByteArray.size]
theorem strB_app (a b : List UInt8) : strB a ++ strB b = strB (a ++ b) := by
 apply ByteArray.ext
 rw [ByteArray.data_append]
 simp [strB]
theorem strB_nums (l : List Int) : strOfNums l = strB (l.map fun n => UInt8.ofNat n.toNat) := rfl
theorem strB_inj {a b : List UInt8} (h : a = b) : strB a = strB b := by rw [h]
def decD (n : Int) : List UInt8 := Lib.decDigits n.toNat
theorem decD_itoa {n : Int} (h : 0 ≤ n) : Lib.itoa n = decD n := by unfold Lib.itoa decD; rw [if_neg (by omega)]
theorem dec_len (n : Nat) : (Lib.decDigits n).length ≤ n + 1 := by
 induction n using Nat.strongRecOn with
 | _ n ih =>
  rw [Lib.decDigits]
  split
  ·simp
  ·rw [List.length_append]
   have := ih (n / 10) (by omega)
   simp
   omega
theorem decD_len {n : Int} (h : n ≤ 100000) : (decD n).length ≤ 100001 := by
 have := dec_len n.toNat
 unfold decD
 omega
theorem decD_small {n : Int} (h0 : 0 ≤ n) (h : n < 10) : decD n = [UInt8.ofNat (48 + n.toNat)] := by
 unfold decD
 rw [Lib.decDigits, dif_pos (by omega)]
theorem decD_big {n : Int} (h : 10 ≤ n) : decD n = decD (n / 10) ++ [UInt8.ofNat (48 + (n % 10).toNat)] := by
 unfold decD
 rw [Lib.decDigits, dif_neg (by omega), show (n / 10).toNat = n.toNat / 10 by omega, show (n % 10).toNat = n.toNat % 10 by omega]
def hexL : List UInt8 := [48, 49, 50, 51, 52, 53, 54, 55, 56, 57, 97, 98, 99, 100, 101, 102]
def hexD (x : Nat) : UInt8 := hexL.getD x 0
def hexB (b : UInt8) : List UInt8 := [hexD (b.toNat / 16), hexD (b.toNat % 16)]
def hexT (s : ByteArray) : List UInt8 := s.data.toList.flatMap hexB
theorem hexT_len (s : ByteArray) : (hexT s).length = 2 * s.size := by
 unfold hexT
 have h : ∀ l : List UInt8, (l.flatMap hexB).length = 2 * l.length := by
  intro l
  induction l with
  | nil => rfl
  | cons x r ih => rw [List.flatMap_cons, List.length_append, ih]; simp [hexB]; omega
 rw [h, Array.length_toList]
 rfl
def tabW : List UInt8 := [116, 97, 98]
def endW : List UInt8 := [101, 110, 100]
def nextW : List UInt8 := [110, 101, 120, 116, 32]
def logW : List UInt8 := [32, 108, 111, 103, 32]
def lineT (t : MMeta) : List UInt8 := tabW ++ [32] ++ decD t.fNo ++ [32] ++ decD t.fLevel ++ [32] ++ hexT t.fLo ++ [32] ++ hexT t.fHi
def headT (m : MManifest) : List UInt8 := nextW ++ decD m.fNext ++ logW ++ decD m.fLog
def linesT (l : List MMeta) : List UInt8 := l.flatMap fun t => lineT t ++ [10]
def manTextL (m : MManifest) : List UInt8 := headT m ++ [10] ++ linesT m.fTables ++ endW ++ [10]
def manTextP (m : MManifest) : ByteArray := if manOkP m = true then strB (manTextL m) else ⟨#[]⟩
theorem manTextP_yes {m : MManifest} (h : manOkP m = true) : manTextP m = strB (manTextL m) := if_pos h
theorem manTextP_no {m : MManifest} (h : manOkP m = false) : manTextP m = ⟨#[]⟩ := if_neg (by rw [h]; simp)
theorem linesT_take {l : List MMeta} {k : Nat} (h : k < l.length) : linesT (l.take (k + 1)) = linesT (l.take k) ++ lineT l[k] ++ [10] := by
 unfold linesT
 rw [List.take_succ_eq_append_getElem h, List.flatMap_append]
 simp
theorem tabs_all {next : Int} : ∀ {seen l : List MMeta}, tabsFrom next seen l = true → ∀ t, t ∈ l → metaP next t = true
 | _, [], _, t, ht => by cases ht
 | seen, x :: r, h, t, ht => by
  simp only [tabsFrom, Bool.and_eq_true] at h
  rcases List.mem_cons.1 ht with rfl | ht
  ·exact h.1.1.1
  ·exact tabs_all h.2 t ht
structure MetaOk (next : Int) (t : MMeta) : Prop where
 no0 : 1 ≤ t.fNo
 no1 : t.fNo ≤ next - 1
 lv0 : 0 ≤ t.fLevel
 lv1 : t.fLevel ≤ 3
 lo : t.fLo.size ≤ 20
 hi : t.fHi.size ≤ 20
 le : kLe t.fLo t.fHi = true
theorem metaP_facts {next : Int} {t : MMeta} (h : metaP next t = true) : MetaOk next t := by
 simp only [metaP, mKeyP, Bool.and_eq_true, decide_eq_true_eq] at h
 exact ⟨h.1.1.1.1.1, h.1.1.1.1.2, h.1.1.1.2.1, h.1.1.1.2.2, h.1.1.2.2, h.1.2.2, h.2⟩
structure ManFacts (m : MManifest) : Prop where
 nx0 : 1 ≤ m.fNext
 nx1 : m.fNext ≤ 100000
 lg0 : 0 ≤ m.fLog
 lg1 : m.fLog ≤ m.fNext - 1
 len : m.fTables.length ≤ 20
 each : ∀ t, t ∈ m.fTables → MetaOk m.fNext t
theorem manOkP_facts {m : MManifest} (h : manOkP m = true) : ManFacts m := by
 simp only [manOkP, Bool.and_eq_true, decide_eq_true_eq] at h
 exact ⟨h.1.1.1.1, h.1.1.1.2, h.1.1.2.1, h.1.1.2.2, h.1.2, fun t ht => metaP_facts (tabs_all h.2 t ht)⟩
theorem lineT_len {next : Int} {t : MMeta} (h : MetaOk next t) (hn : next ≤ 100000) : (lineT t).length ≤ 300000 := by
 have h1 := decD_len (n := t.fNo) (by have := h.no1; omega)
 have h2 := decD_len (n := t.fLevel) (by have := h.lv1; omega)
 have h3 := hexT_len t.fLo
 have h4 := hexT_len t.fHi
 have h5 := h.lo
 have h6 := h.hi
 simp only [lineT, tabW, List.length_append, List.length_cons, List.length_nil]
 omega
theorem linesT_len {next : Int} {l : List MMeta} (h : ∀ t, t ∈ l → MetaOk next t) (hn : next ≤ 100000) : (linesT l).length ≤ l.length * 300001 := by
 induction l with
 | nil => simp [linesT]
 | cons x r ih =>
  have h1 := lineT_len (h x (List.mem_cons_self ..)) hn
  have h2 := ih (fun t ht => h t (List.mem_cons_of_mem _ ht))
  unfold linesT at h2 ⊢
  rw [List.flatMap_cons]
  simp only [List.length_append, List.length_cons, List.length_nil]
  omega
theorem headT_len {m : MManifest} (h : ManFacts m) : (headT m).length ≤ 300000 := by
 have h1 := decD_len h.nx1
 have h2 := decD_len (n := m.fLog) (by have := h.lg1; have := h.nx1; omega)
 simp only [headT, nextW, logW, List.length_append, List.length_cons, List.length_nil]
 omega
def lineS (m : MManifest) (l : List MMeta) : List (List UInt8) := headT m :: l.map lineT
theorem joinTail_lines (l : List MMeta) : Lib.joinTail [10] (l.map lineT ++ [endW, []]) = (l.flatMap fun t => [10] ++ lineT t) ++ [10] ++ endW ++ [10] := by
 unfold Lib.joinTail
 induction l with
 | nil => rfl
 | cons x r ih => rw [List.map_cons, List.cons_append, List.map_cons, List.flatten_cons, ih, List.flatMap_cons]; simp only [List.append_assoc]
theorem lines_shift (l : List MMeta) : (l.flatMap fun t => [10] ++ lineT t) ++ [(10 : UInt8)] = [10] ++ linesT l := by
 unfold linesT
 induction l with
 | nil => rfl
 | cons x r ih => simp only [List.flatMap_cons, List.append_assoc, ih]
theorem join_lines (m : MManifest) (l : List MMeta) : Lib.join (lineS m l ++ [endW, []]) [10] = headT m ++ [10] ++ linesT l ++ endW ++ [10] := by
 unfold lineS
 rw [List.cons_append, Lib.join_cons, joinTail_lines, lines_shift]
 simp only [List.append_assoc]
theorem join_line (t : MMeta) : Lib.join [tabW, decD t.fNo, decD t.fLevel, hexT t.fLo, hexT t.fHi] [32] = lineT t := by
 rw [Lib.join_cons]
 simp [Lib.joinTail, lineT]
theorem lineS_take {m : MManifest} {l : List MMeta} {k : Nat} (h : k < l.length) : lineS m (l.take (k + 1)) = lineS m (l.take k) ++ [lineT l[k]] := by
 unfold lineS
 rw [List.take_succ_eq_append_getElem h, List.map_append]
 rfl
theorem bytesWorld_below (w : World) (e : TypeId) (s : ByteArray) : Below w.heap.size w (Lib.bytesWorld w e s) := by
 refine ⟨?_, ?_, ?_, by rw [Lib.bytesWorld_size]; omega, fun k hk => Lib.bytesWorld_at_old w e s k hk⟩
 all_goals (unfold Lib.bytesWorld World.freeze; rfl)
theorem byteInts_at {s : ByteArray} {j : Nat} (h : j < (byteInts s).length) : ((s.data.toList.getD j 0).toNat : Int) = (byteInts s)[j] := by
 have hj : j < s.data.toList.length := by simpa [byteInts] using h
 rw [List.getD_eq_getElem?_getD, List.getElem?_eq_getElem hj]
 simp [byteInts]
theorem strBytes (s : ByteArray) (w : World) : ∃ (w1 : World) (cap : Nat), (convert 9 51 (.string s)).run Tryz.prog w = .ok (.slice (some ⟨w.heap.size, 0, none⟩) s.size cap) w1 ∧ Below w.heap.size w w1 ∧ w.heap.size < w1.heap.size ∧
  ∀ j, (h : j < (byteInts s).length) → w1.cell? ⟨w.heap.size, j, none⟩ = some (.int .u8 (byteInts s)[j]) := by
 refine ⟨_, _, Lib.run_convert_string_bytes w 9 51 5 s Tryz.underlying9 Tryz.underlying51 Tryz.underlying5, bytesWorld_below w _ s, by rw [Lib.bytesWorld_size]; omega, fun j h => ?_⟩
 rw [Lib.bytesWorld_cell w _ s j (by rw [← byteInts_length]; exact h), byteInts_at h]
theorem byteInts_ok (s : ByteArray) : BytesOk (byteInts s) := by
 intro z hz
 simp only [byteInts, List.mem_map] at hz
 obtain ⟨b, _, rfl⟩ := hz
 have := b.toNat_lt
 omega
theorem strRd (s : ByteArray) (w : World) : ∃ (w1 : World) (cap : Nat), (convert 9 51 (.string s)).run Tryz.prog w = .ok (.slice (some ⟨w.heap.size, 0, none⟩) s.size cap) w1 ∧ Below w.heap.size w w1 ∧ Rd .u8 w1.heap.size w1 (some ⟨w.heap.size, 0, none⟩) (byteInts s) := by
 obtain ⟨w1, cap, hcv, hb1, hz1, hcl⟩ := strBytes s w
 refine ⟨w1, cap, hcv, hb1, fun j hj => ⟨w.heap.size, 0, rfl, hz1, ?_⟩⟩
 rw [Nat.zero_add, hcl j hj, List.getD_eq_getElem?_getD, List.getElem?_eq_getElem hj]
 rfl
def newN : ByteArray := ⟨#[110, 101, 119]⟩
def curN : ByteArray := ⟨#[99, 117, 114]⟩
def manB (M : MManifest) : List Int := byteInts (manTextP M)
theorem dec_short (k : Nat) : ∀ n : Nat, n < 10 ^ (k + 1) → (Lib.decDigits n).length ≤ k + 1 := by
 induction k with
 | zero =>
  intro n h
  rw [Lib.decDigits, dif_pos (by simpa using h)]
  simp
 | succ k ih =>
  intro n h
  rw [Lib.decDigits]
  split
  ·simp
  ·have := ih (n / 10) (by rw [Nat.pow_succ] at h; omega)
   rw [List.length_append]
   simp
   omega
theorem decD_short {n : Int} (h : n ≤ 100000) : (decD n).length ≤ 6 := dec_short 5 n.toNat (by omega)
theorem manB_len {M : MManifest} (h : manOkP M = true) : (manB M).length ≤ 1048576 := by
 have hf := manOkP_facts h
 have hd : (headT M).length ≤ 30 := by
  have h1 := decD_short hf.nx1
  have h2 := decD_short (n := M.fLog) (by have := hf.lg1; have := hf.nx1; omega)
  simp only [headT, nextW, logW, List.length_append, List.length_cons, List.length_nil]
  omega
 have hl : ∀ t, t ∈ M.fTables → (lineT t).length ≤ 200 := by
  intro t ht
  have h0 := hf.each t ht
  have h1 := decD_short (n := t.fNo) (by have := h0.no1; have := hf.nx1; omega)
  have h2 := decD_short (n := t.fLevel) (by have := h0.lv1; omega)
  have h3 := hexT_len t.fLo
  have h4 := hexT_len t.fHi
  have h5 := h0.lo
  have h6 := h0.hi
  simp only [lineT, tabW, List.length_append, List.length_cons, List.length_nil]
  omega
 have hls : ∀ l : List MMeta, (∀ t, t ∈ l → (lineT t).length ≤ 200) → (linesT l).length ≤ l.length * 201 := by
  intro l
  induction l with
  | nil => intro _; simp [linesT]
  | cons x r ih =>
   intro hh
   have h1 := hh x (List.mem_cons_self ..)
   have h2 := ih (fun t ht => hh t (List.mem_cons_of_mem _ ht))
   unfold linesT at h2 ⊢
   rw [List.flatMap_cons]
   simp only [List.length_append, List.length_cons, List.length_nil]
   omega
 have h3 := hls _ hl
 have h4 := hf.len
 unfold manB
 rw [byteInts_length, manTextP_yes h, strB_size]
 simp only [manTextL, endW, List.length_append, List.length_cons, List.length_nil]
 omega
def instR (m : MDisk) (M : MManifest) : MDisk × Int :=
 if manOkP M = true ∧ (switchP m newN (manB M) curN).2 = 0 then switchP m newN (manB M) curN
 else (m, if manOkP M = true then (switchP m newN (manB M) curN).2 else 1)
def instD (m : MDisk) (M : MManifest) : MDisk := (instR m M).1
def instC (m : MDisk) (M : MManifest) : Int := (instR m M).2
theorem inst_no {m : MDisk} {M : MManifest} (h : manOkP M = false) : instR m M = (m, 1) := by
 unfold instR
 rw [if_neg (by rw [h]; simp), if_neg (by rw [h]; simp)]
theorem inst_bad {m : MDisk} {M : MManifest} (h : manOkP M = true) (h2 : (switchP m newN (manB M) curN).2 ≠ 0) : instR m M = (m, (switchP m newN (manB M) curN).2) := by
 unfold instR
 rw [if_neg (fun hh => h2 hh.2), if_pos h]
theorem inst_good {m : MDisk} {M : MManifest} (h : manOkP M = true) (h2 : (switchP m newN (manB M) curN).2 = 0) : instR m M = ((switchP m newN (manB M) curN).1, 0) := by
 unfold instR
 rw [if_pos ⟨h, h2⟩, ← h2]
theorem switch_form {m : MDisk} {t : ByteArray} {b : List Int} {s : ByteArray} (h : diskOk m = false) : (switchP m t b s).2 = 1 := by
 have hc : callP m t = 1 := by unfold callP; rw [h]; rfl
 have hr : removeP m t = m := by unfold removeP; rw [if_neg (by rw [hc]; decide)]
 have hcc : createC m t = 1 := by unfold createC; rw [if_neg (by rw [hc]; decide), if_neg (by rw [hc]; decide)]
 unfold switchP
 rw [hr, swR]
 have h0 : swC m t b s 0 = 1 := hcc
 rw [if_neg (by rw [h0]; decide)]
 exact h0
def putR (m : MDisk) (t : ByteArray) (b : List Int) (s : ByteArray) : MDisk × Int := swR (removeP m t) t b s 3 0
theorem putR_steps (m : MDisk) (t : ByteArray) (b : List Int) (s : ByteArray) :
  (createC (removeP m t) t ≠ 0 → putR m t b s = (createP (removeP m t) t, createC (removeP m t) t)) ∧
  (createC (removeP m t) t = 0 → appendC (createP (removeP m t) t) t b ≠ 0 → putR m t b s = (appendP (createP (removeP m t) t) t b, appendC (createP (removeP m t) t) t b)) ∧
  (createC (removeP m t) t = 0 → appendC (createP (removeP m t) t) t b = 0 → putR m t b s = (syncP (appendP (createP (removeP m t) t) t b) t, callP (appendP (createP (removeP m t) t) t b) t)) := by
 have e0 : swC (removeP m t) t b s 0 = createC (removeP m t) t := rfl
 have e1 : swC (removeP m t) t b s 1 = appendC (createP (removeP m t) t) t b := rfl
 have e2 : swC (removeP m t) t b s 2 = callP (appendP (createP (removeP m t) t) t b) t := rfl
 refine ⟨fun h => ?_, fun h h2 => ?_, fun h h2 => ?_⟩
 ·unfold putR
  rw [swR, if_neg (by rw [e0]; exact h)]
  rfl
 ·unfold putR
  rw [swR, if_pos (by rw [e0]; exact h), swR, if_neg (by rw [e1]; exact h2)]
  rfl
 ·unfold putR
  rw [swR, if_pos (by rw [e0]; exact h), swR, if_pos (by rw [e1]; exact h2), swR]
  by_cases h3 : callP (appendP (createP (removeP m t) t) t b) t = 0
  ·rw [if_pos (by rw [e2]; exact h3), swR, h3]
   rfl
  ·rw [if_neg (by rw [e2]; exact h3)]
   rfl
theorem putR_small {m : MDisk} {t : ByteArray} {b : List Int} {s : ByteArray} (h : wDisk m ≤ 1048576) : wDisk (putR m t b s).1 ≤ 1048576 := swR_small (small_remove h) 3 0
theorem switch_put (m : MDisk) (t : ByteArray) (b : List Int) (s : ByteArray) :
  ((putR m t b s).2 ≠ 0 → switchP m t b s = putR m t b s) ∧
  ((putR m t b s).2 = 0 → renameC (putR m t b s).1 t s ≠ 0 → switchP m t b s = (renameP (putR m t b s).1 t s, renameC (putR m t b s).1 t s)) ∧
  ((putR m t b s).2 = 0 → renameC (putR m t b s).1 t s = 0 → switchP m t b s = (syncDirP (renameP (putR m t b s).1 t s), syncDirC (renameP (putR m t b s).1 t s))) := by
 unfold putR switchP
 generalize removeP m t = mr
 have key : ∀ (f k : Nat), (swR mr t b s f k).2 ≠ 0 → swR mr t b s (f + 2) k = swR mr t b s f k := by
  intro f
  induction f with
  | zero => intro k h; exact absurd rfl h
  | succ f ih =>
   intro k h
   rw [swR] at h ⊢
   conv => rhs; rw [swR]
   by_cases hc : swC mr t b s k = 0
   ·rw [if_pos hc] at h ⊢
    rw [if_pos hc]
    exact ih (k + 1) h
   ·rw [if_neg hc, if_neg hc]
 have good : ∀ (f k : Nat), (swR mr t b s f k).2 = 0 → (swR mr t b s f k).1 = swD mr t b s (f + k) ∧ swR mr t b s (f + 2) k = swR mr t b s 2 (f + k) := by
  intro f
  induction f with
  | zero => intro k h; exact ⟨by rw [Nat.zero_add]; rfl, by rw [Nat.zero_add, Nat.zero_add]⟩
  | succ f ih =>
   intro k h
   rw [swR] at h
   by_cases hc : swC mr t b s k = 0
   ·rw [if_pos hc] at h
    obtain ⟨h1, h2⟩ := ih (k + 1) h
    rw [swR, if_pos hc, show f + 1 + k = f + (k + 1) from by omega]
    refine ⟨h1, ?_⟩
    rw [show f + 1 + 2 = (f + 2) + 1 from by omega, swR, if_pos hc]
    exact h2
   ·rw [if_neg hc] at h
    exact absurd h hc
 refine ⟨fun h => key 3 0 h, fun h h2 => ?_, fun h h2 => ?_⟩
 ·obtain ⟨h3, h4⟩ := good 3 0 h
  rw [h3] at h2 ⊢
  rw [h4, swR, if_neg (show swC mr t b s (3 + 0) ≠ 0 from h2)]
  rfl
 ·obtain ⟨h3, h4⟩ := good 3 0 h
  rw [h3] at h2 ⊢
  rw [h4, swR, if_pos (show swC mr t b s (3 + 0) = 0 from h2), swR]
  by_cases h5 : swC mr t b s (3 + 0 + 1) = 0
  ·rw [if_pos h5, swR]
   have : syncDirC (renameP (swD mr t b s (3 + 0)) t s) = 0 := h5
   rw [this]
   rfl
  ·rw [if_neg h5]
   rfl
def newDisk : MDisk := ⟨[], [], [], 1⟩
def logB : ByteArray := strB ([108, 111, 103, 45] ++ decD 1)
def man1 : MManifest := ⟨2, 1, []⟩
def logD : MDisk := createP newDisk logB
def stoD : MDisk := instD logD man1
def IdsP (m : MDisk) : Prop := ∀ x, x ∈ m.fInodes → x.fId ≠ 0
theorem ids_ok {m : MDisk} (h : diskOk m = true) : IdsP m := fun x hx => by
 have := (diskOk_iff.1 h).each x hx
 omega
theorem ids_remove {m : MDisk} {s : ByteArray} (h : IdsP m) : IdsP (removeP m s) := by
 unfold removeP
 split
 ·rename_i hc
  exact ids_ok (remove_ok (call_good hc).1)
 ·exact h
theorem ids_create {m : MDisk} {s : ByteArray} (h : IdsP m) : IdsP (createP m s) := by
 unfold createP
 split
 ·rename_i hc
  exact ids_ok hc.2
 ·exact h
theorem ids_append {m : MDisk} {s : ByteArray} {b : List Int} (h : IdsP m) : IdsP (appendP m s b) := by
 unfold appendP
 split
 ·rename_i hc
  exact ids_ok hc.2
 ·exact h
theorem ids_sync {m : MDisk} {s : ByteArray} (h : IdsP m) : IdsP (syncP m s) := by
 unfold syncP
 split
 ·intro n hn
  rcases updI_mem (show n ∈ updI m.fInodes (fileAt m s) sureI from hn) with hn | ⟨x, hx, rfl⟩
  ·exact h n hn
  ·exact h x hx
 ·exact h
theorem ids_rename {m : MDisk} {s t : ByteArray} (h : IdsP m) : IdsP (renameP m s t) := by
 unfold renameP
 split
 ·rename_i hc
  unfold renameC at hc
  split at hc
  ·rename_i ht
   exact ids_ok (rename_ok hc ht)
  ·cases hc
 ·exact h
theorem ids_syncDir {m : MDisk} (h : IdsP m) : IdsP (syncDirP m) := by
 unfold syncDirP
 split
 ·rename_i hc
  exact ids_ok (syncDir_ok hc)
 ·exact h
theorem ids_swD {m : MDisk} {t : ByteArray} {b : List Int} {s : ByteArray} (h : IdsP m) (k : Nat) : IdsP (swD m t b s k) := by
 match k with
 | 0 => exact h
 | 1 => exact ids_create h
 | 2 => exact ids_append (ids_create h)
 | 3 => exact ids_sync (ids_append (ids_create h))
 | 4 => exact ids_rename (ids_sync (ids_append (ids_create h)))
 | _ + 5 => exact ids_syncDir (ids_rename (ids_sync (ids_append (ids_create h))))
theorem ids_swR {m : MDisk} {t : ByteArray} {b : List Int} {s : ByteArray} (h : IdsP m) : ∀ f k, IdsP (swR m t b s f k).1
 | 0, k => ids_swD h k
 | f + 1, k => by
  rw [swR]
  split
  ·exact ids_swR h f (k + 1)
  ·exact ids_swD h (k + 1)
theorem ids_inst {m : MDisk} {M : MManifest} (h : IdsP m) : IdsP (instD m M) := by
 have h2 : IdsP (switchP m newN (manB M) curN).1 := ids_swR (ids_remove h) 5 0
 unfold instD instR
 split
 ·exact h2
 ·exact h
theorem new_ids : IdsP newDisk := fun x hx => by cases hx
theorem new_small : wDisk newDisk ≤ 1048576 := by simp [wDisk, newDisk, sumW]
theorem log_ids : IdsP logD := ids_create new_ids
theorem log_small : wDisk logD ≤ 1048576 := small_create new_small
theorem man1_small : wManifest man1 ≤ 1048576 := by simp [wManifest, man1, sumW]
theorem sto_ids : IdsP stoD := ids_inst log_ids
theorem sto_small : wDisk stoD ≤ 1048576 := by
 have h := switch_small (t := newN) (b := manB man1) (s := curN) log_small
 unfold stoD instD instR
 split
 ·exact h
 ·exact log_small
theorem logB_size : logB.size ≤ 1048576 := by
 have h : decD 1 = [49] := decD_small (by omega) (by omega)
 unfold logB
 rw [strB_size, h]
 simp
theorem Tryz.info5 : (Tryz.prog.info? 5).map (fun i => (i.zero, i.size, i.bytes)) = some (some (.int .u8 0), 1, 1) := by kernel_rfl
set_option maxHeartbeats 400000 in
theorem eqByteS_any (a b : Option Addr) (n m ca cb : Nat) (xs ys : List Int) (w : World) (B : Nat) (hx : xs.length = n) (hy : ys.length = m) (hlen : n ≤ 140737488351232) (hra : Rd .u8 B w a xs) (hrb : Rd .u8 B w b ys) :
  Calls Tryz.prog 111 #[.slice a n ca, .slice b m cb] w fun e w' => e = .returned (.bool (decide (xs = ys))) ∧ ∃ d, w' = w.drewN d := by
 have HX : Hid (xs.length = n) := hx
 have HY : Hid (ys.length = m) := hy
 clear hx hy
 by_cases hnm : n = m
 ·subst hnm
  go_enter Tryz.func111, Tryz.ntmps111
  go_wp2
  go_loopw [5] (fun i wr => ∃ k : Nat, k ≤ n ∧ i = .int .i64 k ∧ xs.take k = ys.take k ∧ ∃ d, wr = w.drewN d) (fun i _ => n - (intOf i).toNat)
  case atStart => exact ⟨0, Nat.zero_le _, rfl, rfl, 0, rfl⟩
  case round =>
   obtain ⟨k, hk, rfl, he, d, rfl⟩ := hrel
   by_cases hlt : k < n
   ·obtain ⟨b1, o1, rfl, _, hc1⟩ := hra k (by rw [HX.out]; exact hlt)
    obtain ⟨b2, o2, rfl, _, hc2⟩ := hrb k (by rw [HY.out]; exact hlt)
    have HE : Hid (xs.take k = ys.take k) := he
    clear he hra hrb
    generalize hX : xs.getD k 0 = x at hc1
    generalize hY : ys.getD k 0 = y at hc2
    have HXk : Hid (xs.getD k 0 = x) := hX
    have HYk : Hid (ys.getD k 0 = y) := hY
    clear hX hY
    by_cases hxy : x = y
    ·have hb : (x != y) = false := by simp [hxy]
     go_wp2
     go_quiet (fail)
     go_wp2
     go_roundw
     case rel => exact ⟨k + 1, by omega, by go_num, take_eq_succ HX.out HY.out hlt HE.out (by rw [HXk.out, HYk.out, hxy]), _, rfl⟩
     case measure => simp [intOf]; omega
    ·have hb : (x != y) = true := by simp [hxy]
     go_wp2
     go_quiet (fail)
     go_wp2
     go_ret
     have hne : xs ≠ ys := fun h => hxy (by rw [← HXk.out, ← HYk.out, h])
     exact ⟨by simp [hne], d + nq, by simp⟩
   ·go_wp2
    go_ret
    have hkn : k = n := by omega
    subst hkn
    rw [List.take_of_length_le (by rw [HX.out]; exact Nat.le_refl _), List.take_of_length_le (by rw [HY.out]; exact Nat.le_refl _)] at he
    exact ⟨by simp [he], _, rfl⟩
 ·go_enter Tryz.func111, Tryz.ntmps111
  have hne : ((n : Int) == (m : Int)) = false := by simp; omega
  go_wp2
  go_ret
  have hne : xs ≠ ys := fun h => hnm (by rw [← HX.out, ← HY.out, h])
  exact ⟨by simp [hne], 0, rfl⟩
set_option maxHeartbeats 400000 in
theorem markByteS_own (g n cap base : Nat) (xs : List Int) (q : Int) (w : World) (hq : 0 ≤ q) (hq2 : q ≤ 140737488351232) (hlen : n ≤ 140737488351232) (hn : xs.length = n)
  (hown : w.ownsRow base 5 1 (.slice (some ⟨g, 0, none⟩) n cap) n (xs.map (Value.int .u8))) :
  Calls Tryz.prog 93 #[.slice (some ⟨g, 0, none⟩) n cap, .int .i64 q] w fun e w' => e = .returned (.int .i64 (q + n)) ∧
   w'.ownsRow base 5 1 (.slice (some ⟨g, 0, none⟩) n cap) n ((marks q n).map (Value.int .u8)) ∧ w.grownBy w' (some g) := by
 have HN : Hid (xs.length = n) := hn
 clear hn
 go_enter Tryz.func93, Tryz.ntmps93
 go_wp2
 go_loopw [1, 5] (fun kk i wr => ∃ k : Nat, k ≤ n ∧ i = .int .i64 k ∧ kk = .int .i64 (q + k) ∧ wr.ownsRow base 5 1 (.slice (some ⟨g, 0, none⟩) n cap) n (((marks q n).take k ++ xs.drop k).map (Value.int .u8)) ∧ w.grownBy wr (some g)) (fun _ i _ => n - (intOf i).toNat)
 case atStart => exact ⟨0, Nat.zero_le _, rfl, by simp, by simpa using hown, World.grownBy.refl _ _⟩
 case round =>
  obtain ⟨k, hk, rfl, rfl, hownk, hgk⟩ := hrel
  clear hown
  by_cases hlt : k < n
  ·have hc2 : ∃ v, wr.cell? ⟨g, k, none⟩ = some v := by rw [hownk.cellAt k (by omega)]; exact ⟨_, List.getElem?_eq_getElem (by simp [marks_length]; have := HN.out; omega)⟩
   obtain ⟨v, hc2⟩ := hc2
   have hf2 := hownk.frozenAt k
   go_wp2
   go_roundw
   case rel =>
    have hst := hownk.stored k (.int .u8 ((q + k) % 256))
    refine ⟨k + 1, by omega, by go_num, by go_num, ?_, grown_trans hgk hst.2⟩
    rw [← mark_step HN.out hlt]
    exact hst.1
   case measure => simp [intOf]; omega
  ·go_wp2
   go_ret
   have hkn : k = n := by omega
   subst hkn
   refine ⟨rfl, ?_, hgk⟩
   have h := hownk
   rw [List.take_of_length_le (by rw [marks_length]; exact Nat.le_refl _), List.drop_of_length_le (by rw [HN.out]; exact Nat.le_refl _), List.append_nil] at h
   exact h
set_option maxHeartbeats 400000 in
theorem heldByteS_yes (a : Option Addr) (n cap : Nat) (q : Int) (w : World) (B : Nat) (hq : 0 ≤ q) (hq2 : q ≤ 140737488351232) (hlen : n ≤ 140737488351232) (hra : Rd .u8 B w a (marks q n)) :
  Calls Tryz.prog 95 #[.slice a n cap, .int .i64 q] w fun e w' => e = .returned (.int .i64 (q + n)) ∧ w' = w := by
 go_enter Tryz.func95, Tryz.ntmps95
 go_wp2
 go_loop [1, 5] (fun kk i => ∃ k : Nat, k ≤ n ∧ i = .int .i64 k ∧ kk = .int .i64 (q + k)) (fun _ i => n - (intOf i).toNat)
 case atStart => exact ⟨0, Nat.zero_le _, rfl, by simp⟩
 case round =>
  obtain ⟨k, hk, rfl, rfl⟩ := hrel
  by_cases hlt : k < n
  ·obtain ⟨b1, o1, rfl, _, hc1⟩ := hra k (by rw [marks_length]; exact hlt)
   rw [marks_getD q n k hlt] at hc1
   clear hra
   go_wp2
   go_round
   case rel => exact ⟨k + 1, by omega, by go_num, by go_num⟩
   case measure => simp [intOf]; omega
  ·go_wp2
   go_ret
   have hkn : k = n := by omega
   subst hkn
   exact ⟨rfl, rfl⟩
set_option maxHeartbeats 400000 in
theorem markByteS_nil (n cap : Nat) (q : Int) (w : World) (hn : n = 0) :
  Calls Tryz.prog 93 #[.slice none n cap, .int .i64 q] w fun e w' => e = .returned (.int .i64 q) ∧ w' = w := by
 subst hn
 go_enter Tryz.func93, Tryz.ntmps93
 go_wp2
 refine wp_loop_rounds 1 ?_
 rw [rounds_succ]
 go_wp2
 go_ret
 exact ⟨rfl, rfl⟩
theorem markByteS_gen (a : Option Addr) (n cap base : Nat) (xs : List Int) (q : Int) (w : World) (hq : 0 ≤ q) (hq2 : q ≤ 140737488351232) (hlen : n ≤ 140737488351232) (hn : xs.length = n)
  (hown : w.ownsRow base 5 1 (.slice a n cap) n (xs.map (Value.int .u8))) :
  Calls Tryz.prog 93 #[.slice a n cap, .int .i64 q] w fun e w' => e = .returned (.int .i64 (q + n)) ∧
   w'.ownsRow base 5 1 (.slice a n cap) n ((marks q n).map (Value.int .u8)) ∧ w.grownBy w' (Value.ownBlock (.slice a n cap)) := by
 cases a with
 | none =>
  have h0 : n = 0 := by
   rcases hown.2 with ⟨_, h⟩ | ⟨g, c, cur, h, _⟩
   ·exact h
   ·simp at h
  refine (markByteS_nil n cap q w h0).mono ?_
  rintro e w' ⟨rfl, rfl⟩
  subst h0
  have hx : xs = [] := List.eq_nil_of_length_eq_zero hn
  subst hx
  exact ⟨by simp, hown, World.grownBy.refl _ _⟩
 | some ad =>
  rcases hown.2 with ⟨h, _⟩ | ⟨g, c, cur, h, _⟩
  ·simp at h
  ·simp only [Value.slice.injEq, Option.some.injEq, true_and] at h
   obtain ⟨rfl, rfl⟩ := h
   exact markByteS_own g n cap base xs q w hq hq2 hlen hn hown
set_option maxHeartbeats 1000000 in
theorem eqInode_yes (cs1 cs2 : List Value) (m : MInode) (w : World) (hr1 : rInode w.heap.size w cs1 m) (hr2 : rInode w.heap.size w cs2 m) (hsz : wInode m ≤ 1099511627776) :
  Calls Tryz.prog 89 #[.agg cs1.toArray, .agg cs2.toArray] w fun e w' => e = .returned (.bool true) ∧ Below w.heap.size w w' := by
 obtain ⟨a1, c1, rfl, h0, h1, h2, _⟩ := hr1
 obtain ⟨b1, d1, rfl, g0, g1, g2, _⟩ := hr2
 have hsz' : m.fData.length ≤ 1099511627776 := hsz
 clear hsz
 have hbA : ∀ o1 o2, Below w.heap.size w ((w.alloc o1).alloc o2) := fun o1 o2 => ((Below.refl _ _).alloc (Nat.le_refl _) o1).alloc (by simp) o2
 go_enter Tryz.func89, Tryz.ntmps89
 have hC1 := fun (W : World) (hb : Below w.heap.size w W) => eqByteS_any a1 b1 _ _ c1 d1 m.fData m.fData W w.heap.size rfl rfl (by omega) (h1.2.2.1.below hb) (g1.2.2.1.below hb)
 go_wp2_with fail
 refine Calls.mono (hC1 _ ?_) ?_
 ·exact (hbA _ _)
 rintro e w1 ⟨rfl, d, hw1⟩
 rw [decide_eq_true trivial]
 have hB1 : Below w.heap.size w w1 := by rw [hw1]; exact below_drewN (hbA _ _) d
 subst hw1
 clear hC1
 go_wp2_with fail
 go_ret
 exact ⟨rfl, hB1⟩
set_option maxHeartbeats 1000000 in
theorem eqInodeS_yes (a b : Option Addr) (n ca cb : Nat) (l : List MInode) (w : World) (hx : l.length = n) (hra : LeafL 3 rInode w.heap.size w a ca l) (hrb : LeafL 3 rInode w.heap.size w b cb l) (hsz : n + sumW wInode l ≤ 1099511627776) :
  Calls Tryz.prog 46 #[.slice a n ca, .slice b n cb] w fun e w' => e = .returned (.bool true) ∧ Below w.heap.size w w' := by
 have HX := Hid.mk hx
 clear hx
 replace hra := hra.2.2
 replace hrb := hrb.2.2
 go_enter Tryz.func46, Tryz.ntmps46
 go_wp2_with fail
 go_loopw [5] (fun i wr => ∃ k : Nat, k ≤ n ∧ i = .int .i64 k ∧ Below w.heap.size w wr) (fun i _ => n - (intOf i).toNat)
 case atStart => exact ⟨0, Nat.zero_le _, rfl, Below.refl _ _⟩
 case round =>
  obtain ⟨k, hk, rfl, hbk⟩ := hrel
  by_cases hlt : k < n
  ·have hkl : k < l.length := by rw [HX.out]; exact hlt
   have hwk := sumW_le (f := wInode) hkl
   obtain ⟨bA, oA, rfl, hBA, csA, hlA, hcA, hrA⟩ := (hra.below rInode_good hbk) k hkl
   obtain ⟨bB, oB, rfl, hBB, csB, hlB, hcB, hrB⟩ := (hrb.below rInode_good hbk) k hkl
   have hrA' := rInode_good.mono hrA hbk.size
   have hrB' := rInode_good.mono hrB hbk.size
   generalize l[k] = m at *
   obtain ⟨a1, c1, rfl, h0, h1, h2, _⟩ := hrA
   obtain ⟨b1, d1, rfl, g0, g1, g2, _⟩ := hrB
   have k0 := hcA 0 _ rfl
   have j0 := hcB 0 _ rfl
   have k1 := hcA 1 _ rfl
   have j1 := hcB 1 _ rfl
   have k2 := hcA 2 _ rfl
   have j2 := hcB 2 _ rfl
   rw [Nat.add_zero] at k0 j0
   have hm : wInode m ≤ 1099511627776 := by omega
   clear hcA hcB hlA hlB hra hrb hwk
   go_wp2_with fail
   go_region_with (go_at_call 89; refine (eqInode_yes _ _ m _ (by exact hrA') (by exact hrB') hm).mono ?_; rintro e w1 ⟨rfl, hb1⟩)
   all_goals
    have hb2 : Below w.heap.size w w1 := Below.trans hbk (Below.mono (Below.trans (Below.drew (Below.refl _ _)) hb1) hbk.size)
    go_wp2_with fail
    go_roundw
    case rel => exact ⟨k + 1, by omega, by go_num, hb2⟩
    case measure => simp [intOf]; omega
  ·go_wp2_with fail
   go_ret
   exact ⟨rfl, hbk⟩
set_option maxHeartbeats 1000000 in
theorem eqEntry_yes (cs1 cs2 : List Value) (m : MEntry) (w : World) (hr1 : rEntry w.heap.size w cs1 m) (hr2 : rEntry w.heap.size w cs2 m) (hsz : wEntry m ≤ 1099511627776) :
  Calls Tryz.prog 90 #[.agg cs1.toArray, .agg cs2.toArray] w fun e w' => e = .returned (.bool true) ∧ Below w.heap.size w w' := by
 obtain ⟨rfl, h0, h1, _⟩ := hr1
 obtain ⟨rfl, g0, g1, _⟩ := hr2
 have hsz' : m.fName.size ≤ 1099511627776 := hsz
 clear hsz
 have hbA : ∀ o1 o2, Below w.heap.size w ((w.alloc o1).alloc o2) := fun o1 o2 => ((Below.refl _ _).alloc (Nat.le_refl _) o1).alloc (by simp) o2
 go_enter Tryz.func90, Tryz.ntmps90
 go_wp2_with fail
 go_ret
 exact ⟨rfl, (hbA _ _)⟩
set_option maxHeartbeats 1000000 in
theorem eqEntryS_yes (a b : Option Addr) (n ca cb : Nat) (l : List MEntry) (w : World) (hx : l.length = n) (hra : LeafL 2 rEntry w.heap.size w a ca l) (hrb : LeafL 2 rEntry w.heap.size w b cb l) (hsz : n + sumW wEntry l ≤ 1099511627776) :
  Calls Tryz.prog 47 #[.slice a n ca, .slice b n cb] w fun e w' => e = .returned (.bool true) ∧ Below w.heap.size w w' := by
 have HX := Hid.mk hx
 clear hx
 replace hra := hra.2.2
 replace hrb := hrb.2.2
 go_enter Tryz.func47, Tryz.ntmps47
 go_wp2_with fail
 go_loopw [5] (fun i wr => ∃ k : Nat, k ≤ n ∧ i = .int .i64 k ∧ Below w.heap.size w wr) (fun i _ => n - (intOf i).toNat)
 case atStart => exact ⟨0, Nat.zero_le _, rfl, Below.refl _ _⟩
 case round =>
  obtain ⟨k, hk, rfl, hbk⟩ := hrel
  by_cases hlt : k < n
  ·have hkl : k < l.length := by rw [HX.out]; exact hlt
   have hwk := sumW_le (f := wEntry) hkl
   obtain ⟨bA, oA, rfl, hBA, csA, hlA, hcA, hrA⟩ := (hra.below rEntry_good hbk) k hkl
   obtain ⟨bB, oB, rfl, hBB, csB, hlB, hcB, hrB⟩ := (hrb.below rEntry_good hbk) k hkl
   have hrA' := rEntry_good.mono hrA hbk.size
   have hrB' := rEntry_good.mono hrB hbk.size
   generalize l[k] = m at *
   obtain ⟨rfl, h0, h1, _⟩ := hrA
   obtain ⟨rfl, g0, g1, _⟩ := hrB
   have k0 := hcA 0 _ rfl
   have j0 := hcB 0 _ rfl
   have k1 := hcA 1 _ rfl
   have j1 := hcB 1 _ rfl
   rw [Nat.add_zero] at k0 j0
   have hm : wEntry m ≤ 1099511627776 := by omega
   clear hcA hcB hlA hlB hra hrb hwk
   go_wp2_with fail
   go_region_with (go_at_call 90; refine (eqEntry_yes _ _ m _ (by exact hrA') (by exact hrB') hm).mono ?_; rintro e w1 ⟨rfl, hb1⟩)
   all_goals
    have hb2 : Below w.heap.size w w1 := Below.trans hbk (Below.mono (Below.trans (Below.drew (Below.refl _ _)) hb1) hbk.size)
    go_wp2_with fail
    go_roundw
    case rel => exact ⟨k + 1, by omega, by go_num, hb2⟩
    case measure => simp [intOf]; omega
  ·go_wp2_with fail
   go_ret
   exact ⟨rfl, hbk⟩
set_option maxHeartbeats 1000000 in
theorem eqDisk_yes (cs1 cs2 : List Value) (m : MDisk) (w : World) (hr1 : rDisk w.heap.size w cs1 m) (hr2 : rDisk w.heap.size w cs2 m) (hsz : wDisk m ≤ 1099511627776) :
  Calls Tryz.prog 17 #[.agg cs1.toArray, .agg cs2.toArray] w fun e w' => e = .returned (.bool true) ∧ Below w.heap.size w w' := by
 obtain ⟨a0, c0, a1, c1, a2, c2, rfl, h0, h1, h2, h3, _⟩ := hr1
 obtain ⟨b0, d0, b1, d1, b2, d2, rfl, g0, g1, g2, g3, _⟩ := hr2
 have hsz' : (m.fInodes.length + sumW wInode m.fInodes) + (m.fNames.length + sumW wEntry m.fNames) + (m.fSafe.length + sumW wEntry m.fSafe) ≤ 1099511627776 := hsz
 clear hsz
 have hbA : ∀ o1 o2, Below w.heap.size w ((w.alloc o1).alloc o2) := fun o1 o2 => ((Below.refl _ _).alloc (Nat.le_refl _) o1).alloc (by simp) o2
 go_enter Tryz.func17, Tryz.ntmps17
 have hC1 := fun (W : World) (hb : Below w.heap.size w W) => eqInodeS_yes a0 b0 _ c0 d0 m.fInodes W rfl (LeafL.mono rInode_good (h0.below rInode_good hb) hb.size) (LeafL.mono rInode_good (g0.below rInode_good hb) hb.size) (by omega)
 go_wp2_with fail
 refine Calls.mono (hC1 _ ?_) ?_
 ·exact (hbA _ _)
 rintro e w1 ⟨rfl, hx1⟩
 obtain ⟨hc1, hf1⟩ := bcell hx1
 have hz1 : w.heap.size + 1 + 1 ≤ w1.heap.size := by have h := hx1.size; first | omega | (simp at h; omega)
 have hy1a : w.heap.size < w1.heap.size := by omega
 have hy1b : w.heap.size + 1 < w1.heap.size := by omega
 have hB1 : Below w.heap.size w w1 := Below.trans (hbA _ _) (hx1.mono (by first | (simp; omega) | simp | omega))
 clear hC1
 have hC2 := fun (W : World) (hb : Below w.heap.size w W) => eqEntryS_yes a1 b1 _ c1 d1 m.fNames W rfl (LeafL.mono rEntry_good (h1.below rEntry_good hb) hb.size) (LeafL.mono rEntry_good (g1.below rEntry_good hb) hb.size) (by omega)
 go_wp2_with fail
 refine Calls.mono (hC2 _ ?_) ?_
 ·exact hB1
 rintro e w2 ⟨rfl, hx2⟩
 obtain ⟨hc2, hf2⟩ := bcell hx2
 have hz2 : w.heap.size + 1 + 1 ≤ w2.heap.size := by have h := hx2.size; first | omega | (simp at h; omega)
 have hy2a : w.heap.size < w2.heap.size := by omega
 have hy2b : w.heap.size + 1 < w2.heap.size := by omega
 have hB2 : Below w.heap.size w w2 := Below.trans hB1 (hx2.mono (by first | (simp; omega) | simp | omega))
 clear hC2
 have hC3 := fun (W : World) (hb : Below w.heap.size w W) => eqEntryS_yes a2 b2 _ c2 d2 m.fSafe W rfl (LeafL.mono rEntry_good (h2.below rEntry_good hb) hb.size) (LeafL.mono rEntry_good (g2.below rEntry_good hb) hb.size) (by omega)
 go_wp2_with fail
 refine Calls.mono (hC3 _ ?_) ?_
 ·exact hB2
 rintro e w3 ⟨rfl, hx3⟩
 obtain ⟨hc3, hf3⟩ := bcell hx3
 have hz3 : w.heap.size + 1 + 1 ≤ w3.heap.size := by have h := hx3.size; first | omega | (simp at h; omega)
 have hy3a : w.heap.size < w3.heap.size := by omega
 have hy3b : w.heap.size + 1 < w3.heap.size := by omega
 have hB3 : Below w.heap.size w w3 := Below.trans hB2 (hx3.mono (by first | (simp; omega) | simp | omega))
 clear hC3
 go_wp2_with fail
 go_ret
 exact ⟨rfl, hB3⟩
structure Turn (F : List Nat) (w w' : World) : Prop where
 os : w'.os = w.os
 tape : w'.tape = w.tape
 output : w'.output = w.output
 size : w.heap.size ≤ w'.heap.size
 block : ∀ b, b < w.heap.size → b ∉ F → w'.heap[b]? = w.heap[b]?
theorem Turn.refl (F : List Nat) (w : World) : Turn F w w := ⟨rfl, rfl, rfl, Nat.le_refl _, fun _ _ _ => rfl⟩
theorem Turn.trans {F : List Nat} {a b c : World} (h : Turn F a b) (k : Turn F b c) : Turn F a c :=
 ⟨k.os.trans h.os, k.tape.trans h.tape, k.output.trans h.output, Nat.le_trans h.size k.size, fun i hi hF => (k.block i (Nat.lt_of_lt_of_le hi h.size) hF).trans (h.block i hi hF)⟩
theorem Turn.mono {F G : List Nat} {a b : World} (h : Turn F a b) (hF : ∀ k, k ∈ F → k ∈ G) : Turn G a b :=
 ⟨h.os, h.tape, h.output, h.size, fun i hi hG => h.block i hi (fun hk => hG (hF i hk))⟩
theorem Turn.ofBelow {F : List Nat} {a b : World} (h : Below a.heap.size a b) : Turn F a b := ⟨h.os, h.tape, h.output, h.size, fun i hi _ => h.block i hi⟩
theorem Turn.below {F : List Nat} {B : Nat} {a b : World} (h : Turn F a b) (hF : ∀ k, k ∈ F → B ≤ k) (hB : B ≤ a.heap.size) : Below B a b :=
 ⟨h.os, h.tape, h.output, h.size, fun i hi => h.block i (Nat.lt_of_lt_of_le hi hB) (fun hk => by have := hF i hk; omega)⟩
theorem Turn.setCell {F : List Nat} {a b : World} (h : Turn F a b) {p : Addr} (hp : p.block ∈ F) (u : Value) : Turn F a (b.setCell p u) := by
 refine h.trans ⟨?_, ?_, ?_, by simp, fun i hi hF => heap_setCell_other b p i u (fun e => hF (e ▸ hp))⟩
 all_goals
  have hb := (Below.refl 0 b).setCell (p := p) (Nat.zero_le _) u
 ·exact hb.os
 ·exact hb.tape
 ·exact hb.output
theorem Turn.ofGrown {F : List Nat} {a b : World} {r : Option Nat} (h : a.grownBy b r) (hr : ∀ k, r = some k → k ∈ F) : Turn F a b :=
 ⟨h.os, h.tape, h.output, h.size, fun i hi hF => h.block i hi (fun e => hF (hr i e.symm))⟩
theorem Turn.cell {F : List Nat} {w w' : World} (h : Turn F w w') {p : Addr} (hp : p.block < w.heap.size) (hF : p.block ∉ F) : w'.cell? p = w.cell? p := World.cell?_of_block (w := w) (h.block p.block hp hF)
theorem below_same {w w' : World} (h : w' = w) : Below w.heap.size w w' := by subst h; exact Below.refl _ _
theorem bthen {w w1 w2 : World} (h : Below w.heap.size w w1) (hx : Below w1.heap.size w1 w2) : Below w.heap.size w w2 := h.trans (hx.mono h.size)
theorem Turn.after {F : List Nat} {w w1 w2 : World} (h : Below w.heap.size w w1) (hx : Turn F w1 w2) : Turn F w w2 := (Turn.ofBelow h).trans hx
theorem Turn.under {F : List Nat} {w w1 w2 : World} (h : Below w.heap.size w w1) (hx : Turn F w1 w2) (hF : ∀ k, k ∈ F → w.heap.size ≤ k) : Below w.heap.size w w2 := h.trans (hx.below hF h.size)
theorem turnOwn {a b : World} {r : Option Nat} (h : a.grownBy b r) : Turn r.toList a b := Turn.ofGrown h (fun k hk => by simp [hk])
def Bx (w : World) (b : Nat) (vs : List Value) : Prop := b < w.heap.size ∧ ∀ i u, vs[i]? = some u → w.cell? ⟨b, i, none⟩ = some u
theorem Bx.new (w : World) (vs : List Value) (t : TypeId) : Bx (w.alloc (.cells vs.toArray t)) w.heap.size vs := by
 refine ⟨by simp, fun i u hu => ?_⟩
 rw [cell_of_row (w.alloc (.cells vs.toArray t)) w.heap.size i vs.toArray t (0, 0) (by show (w.heap.push _)[w.heap.size]? = _; rw [Array.getElem?_push_size])]
 simpa using hu
theorem Bx.alloc {w : World} {b : Nat} {vs : List Value} (h : Bx w b vs) (o : Obj) : Bx (w.alloc o) b vs :=
 ⟨by have := h.1; simp; omega, fun i u hu => by
  have hb := (Below.refl w.heap.size w).alloc (Nat.le_refl _) o
  exact (hb.cell (p := ⟨b, i, none⟩) h.1).trans (h.2 i u hu)⟩
theorem Bx.drewN {w : World} {b : Nat} {vs : List Value} (h : Bx w b vs) (d : Nat) : Bx (w.drewN d) b vs := h
theorem Bx.drew {w : World} {b : Nat} {vs : List Value} (h : Bx w b vs) : Bx w.drew b vs := h
theorem Bx.below {B : Nat} {w w' : World} {b : Nat} {vs : List Value} (h : Bx w b vs) (hb : Below B w w') (hB : b < B) : Bx w' b vs :=
 ⟨Nat.lt_of_lt_of_le h.1 hb.size, fun i u hu => (hb.cell (p := ⟨b, i, none⟩) hB).trans (h.2 i u hu)⟩
theorem Bx.under {w w' : World} {b : Nat} {vs : List Value} (h : Bx w b vs) (hb : Below w.heap.size w w') : Bx w' b vs := h.below hb h.1
theorem Bx.turn {F : List Nat} {w w' : World} {b : Nat} {vs : List Value} (h : Bx w b vs) (ht : Turn F w w') (hF : b ∉ F) : Bx w' b vs :=
 ⟨Nat.lt_of_lt_of_le h.1 ht.size, fun i u hu => (ht.cell (p := ⟨b, i, none⟩) h.1 hF).trans (h.2 i u hu)⟩
def seg (size : Nat) (cur : Array Value) (j : Nat) : List Value := (cur.toList.drop (j * size)).take size
theorem seg_get {size : Nat} {cur : Array Value} {j i : Nat} (hi : i < size) : (seg size cur j)[i]? = cur[j * size + i]? := by
 unfold seg
 rw [List.getElem?_take, if_pos hi, List.getElem?_drop]
 simp
theorem seg_set {size : Nat} {cur : Array Value} {k i : Nat} (hi : i < size) (u : Value) : seg size (cur.setIfInBounds (k * size + i) u) k = (seg size cur k).set i u := by
 unfold seg
 rw [Array.toList_setIfInBounds]
 apply List.ext_getElem?
 intro j
 simp only [List.getElem?_take, List.getElem?_drop, List.getElem?_set, List.length_take, List.length_drop]
 by_cases hj : j < size
 ·by_cases hij : i = j
  ·subst hij
   by_cases hb : k * size + i < cur.toList.length
   ·have hb' : i < min size (cur.toList.length - k * size) := by omega
    rw [if_pos hj, if_pos rfl, if_pos rfl, if_pos hb, if_pos hb']
   ·have hb' : ¬ i < min size (cur.toList.length - k * size) := by omega
    rw [if_pos hj, if_pos rfl, if_pos rfl, if_neg hb, if_neg hb']
  ·rw [if_pos hj, if_neg (by omega), if_neg hij, if_pos hj]
 ·rw [if_neg hj, if_neg hj]
  split
  ·split
   ·omega
   ·rfl
  ·rfl
theorem seg_set_other {size : Nat} {cur : Array Value} {k i j : Nat} (hi : i < size) (hjk : j ≠ k) (u : Value) : seg size (cur.setIfInBounds (k * size + i) u) j = seg size cur j := by
 unfold seg
 rw [Array.toList_setIfInBounds]
 apply List.ext_getElem?
 intro x
 simp only [List.getElem?_take, List.getElem?_drop, List.getElem?_set]
 by_cases hx : x < size
 ·rw [if_pos hx, if_pos hx, if_neg]
  intro h
  rcases Nat.lt_or_gt_of_ne hjk with h1 | h1
  ·have := Nat.mul_le_mul_right size h1
   rw [Nat.succ_mul] at this
   omega
  ·have := Nat.mul_le_mul_right size h1
   rw [Nat.succ_mul] at this
   omega
 ·rw [if_neg hx, if_neg hx]
structure OwnRow {α : Type} (size : Nat) (e : TypeId) (O : ORep α) (w : World) (g cap : Nat) (l : List α) (cur : Array Value) (Fs : List (List Nat)) : Prop where
 heap : w.heap[g]? = some (.cells cur e (0, 0))
 le : l.length ≤ cap
 max : cap ≤ maxLen
 fit : cur.size = cap * size
 flen : Fs.length = l.length
 each : ∀ j, (h : j < l.length) → O w (seg size cur j) l[j] (Fs.getD j [])
 nodup : (g :: Fs.flatten).Nodup
theorem ownS.open {α : Type} {size : Nat} {e : TypeId} {O : ORep α} {w : World} {v : Value} {l : List α} {F : List Nat} (h : ownS size e O w v l F) (hN : F.Nodup) :
  (v = .slice none 0 0 ∧ l = [] ∧ F = []) ∨ ∃ g cap cur Fs, v = .slice (some ⟨g, 0, none⟩) l.length cap ∧ OwnRow size e O w g cap l cur Fs ∧ F = g :: Fs.flatten := by
 rcases h with h | ⟨g, cap, cur, Fs, h1, h2, h3, h4, h5, h6, h7, rfl⟩
 ·exact .inl h
 ·exact .inr ⟨g, cap, cur, Fs, h1, ⟨h2, h3, h4, h5, h6, h7, hN⟩, rfl⟩
theorem OwnRow.shut {α : Type} {size : Nat} {e : TypeId} {O : ORep α} {w : World} {g cap : Nat} {l : List α} {cur : Array Value} {Fs : List (List Nat)} (h : OwnRow size e O w g cap l cur Fs) :
  ownS size e O w (.slice (some ⟨g, 0, none⟩) l.length cap) l (g :: Fs.flatten) :=
 .inr ⟨g, cap, cur, Fs, rfl, h.heap, h.le, h.max, h.fit, h.flen, h.each, rfl⟩
theorem OwnRow.lt {α : Type} {size : Nat} {e : TypeId} {O : ORep α} {w : World} {g cap : Nat} {l : List α} {cur : Array Value} {Fs : List (List Nat)} (h : OwnRow size e O w g cap l cur Fs) : g < w.heap.size := (Array.getElem?_eq_some_iff.1 h.heap).1
structure Edit (size : Nat) (e : TypeId) (g k : Nat) (F : List Nat) (cur : Array Value) (w w' : World) (cs : List Value) : Prop where
 row : ∃ cur' : Array Value, w'.heap[g]? = some (.cells cur' e (0, 0)) ∧ cur'.size = cur.size ∧ (∀ j, j ≠ k → seg size cur' j = seg size cur j) ∧ seg size cur' k = cs
 turn : Turn (g :: F) w w'
theorem Edit.start {α : Type} {size : Nat} {e : TypeId} {O : ORep α} {w : World} {g cap : Nat} {l : List α} {cur : Array Value} {Fs : List (List Nat)} (h : OwnRow size e O w g cap l cur Fs) (k : Nat) (F : List Nat) : Edit size e g k F cur w w (seg size cur k) :=
 ⟨⟨cur, h.heap, rfl, fun _ _ => rfl, rfl⟩, Turn.refl _ _⟩
theorem Edit.set {size : Nat} {e : TypeId} {g k : Nat} {F : List Nat} {cur : Array Value} {w w' : World} {cs : List Value} (h : Edit size e g k F cur w w' cs) {i : Nat} (hi : i < size) (u : Value) :
  Edit size e g k F cur w (w'.setCell ⟨g, k * size + i, none⟩ u) (cs.set i u) := by
 obtain ⟨⟨cur', c1, c2, c3, c4⟩, ht⟩ := h
 refine ⟨⟨_, heap_setCell_same w' g _ cur' e u c1, by simpa using c2, fun j hj => ?_, ?_⟩, ht.setCell (by simp) u⟩
 ·rw [seg_set_other hi hj]; exact c3 j hj
 ·rw [seg_set hi, c4]
theorem Edit.keep {size : Nat} {e : TypeId} {g k : Nat} {F : List Nat} {cur : Array Value} {w w1 w2 : World} {cs : List Value} (h : Edit size e g k F cur w w1 cs) (ht : Turn F w1 w2) (hg : g ∉ F) :
  Edit size e g k F cur w w2 cs := by
 obtain ⟨⟨cur', c1, c2, c3, c4⟩, ht'⟩ := h
 exact ⟨⟨cur', by rw [ht.block g (Array.getElem?_eq_some_iff.1 c1).1 hg]; exact c1, c2, c3, c4⟩, ht'.trans (ht.mono (fun k hk => List.mem_cons_of_mem _ hk))⟩
theorem Edit.cellAt {size : Nat} {e : TypeId} {g k : Nat} {F : List Nat} {cur : Array Value} {w w' : World} {cs : List Value} (h : Edit size e g k F cur w w' cs) {i : Nat} (hi : i < size) {u : Value} (hu : cs[i]? = some u) :
  w'.cell? ⟨g, k * size + i, none⟩ = some u := by
 obtain ⟨⟨cur', c1, c2, c3, c4⟩, _⟩ := h
 rw [cell_of_row w' g _ cur' e (0, 0) c1, ← seg_get hi, c4, hu]
theorem Edit.free {size : Nat} {e : TypeId} {g k : Nat} {F : List Nat} {cur : Array Value} {w w' : World} {cs : List Value} (h : Edit size e g k F cur w w' cs) (j : Nat) :
  w'.frozen? ⟨g, j, none⟩ = false := by
 obtain ⟨⟨cur', c1, c2, c3, c4⟩, _⟩ := h
 exact frozen_of_row w' g j cur' e c1
theorem nodup_getD_disj {Fs : List (List Nat)} (h : Fs.flatten.Nodup) {j k : Nat} (hj : j < Fs.length) (hk : k < Fs.length) (hjk : j ≠ k) : ∀ b, b ∈ Fs.getD j [] → b ∉ Fs.getD k [] := by
 intro b hb hb'
 rw [List.getD_eq_getElem?_getD, List.getElem?_eq_getElem hj] at hb
 rw [List.getD_eq_getElem?_getD, List.getElem?_eq_getElem hk] at hb'
 have hp := (List.pairwise_flatten.1 h).2
 have hb : b ∈ Fs[j] := hb
 have hb' : b ∈ Fs[k] := hb'
 rcases Nat.lt_or_gt_of_ne hjk with h1 | h1
 ·exact (List.pairwise_iff_getElem.1 hp j k hj hk h1) b hb b hb' rfl
 ·exact (List.pairwise_iff_getElem.1 hp k j hk hj h1) b hb' b hb rfl
theorem OwnRow.edit {α : Type} {size : Nat} {e : TypeId} {O : ORep α} {R : Rep α} (hO : O.Good R size) {w w' : World} {g cap k : Nat} {l : List α} {cur : Array Value} {Fs : List (List Nat)} {cs : List Value} {m' : α}
  (h : OwnRow size e O w g cap l cur Fs) (hk : k < l.length) (he : Edit size e g k (Fs.getD k []) cur w w' cs) (ho : O w' cs m' (Fs.getD k [])) :
  (∃ cur', OwnRow size e O w' g cap (l.set k m') cur' Fs) ∧ Turn (g :: Fs.flatten) w w' := by
 obtain ⟨⟨cur', c1, c2, c3, c4⟩, ht⟩ := he
 have hsub : ∀ b, b ∈ g :: Fs.getD k [] → b ∈ g :: Fs.flatten := by
  intro b hb
  rcases List.mem_cons.1 hb with rfl | hb
  ·simp
  ·exact List.mem_cons_of_mem _ (mem_flatten_getD (by rw [h.flen]; exact hk) hb)
 refine ⟨⟨cur', c1, by simpa using h.le, h.max, by rw [c2, h.fit], by simpa using h.flen, ?_, h.nodup⟩, ht.mono hsub⟩
 intro j hj
 have hj' : j < l.length := by simpa using hj
 by_cases hjk : j = k
 ·subst hjk
  rw [c4]
  simpa using ho
 ·rw [c3 j hjk, List.getElem_set_ne (fun e => hjk e.symm)]
  refine hO.frame (h.each j hj') (fun b hb => ht.block b (hO.lt (h.each j hj') b hb) ?_)
  intro hm
  have hbf := mem_flatten_getD (by rw [h.flen]; exact hj') hb
  rcases List.mem_cons.1 hm with rfl | hm
  ·exact (List.nodup_cons.1 h.nodup).1 hbf
  ·exact nodup_getD_disj (List.nodup_cons.1 h.nodup).2 (by rw [h.flen]; exact hj') (by rw [h.flen]; exact hk) hjk b hb hm
theorem OwnRow.part {α : Type} {size : Nat} {e : TypeId} {O : ORep α} {w : World} {g cap : Nat} {l : List α} {cur : Array Value} {Fs : List (List Nat)} (h : OwnRow size e O w g cap l cur Fs) {k : Nat} (hk : k < l.length) :
  g ∉ Fs.getD k [] ∧ (Fs.getD k []).Nodup := by
 have hk' : k < Fs.length := by rw [h.flen]; exact hk
 have hn := List.nodup_cons.1 h.nodup
 refine ⟨fun hm => hn.1 (mem_flatten_getD hk' hm), ?_⟩
 rw [List.getD_eq_getElem?_getD, List.getElem?_eq_getElem hk']
 exact (List.pairwise_flatten.1 hn.2).1 _ (List.getElem_mem hk')
def hdS {α : Type} (hd : α → Int → Int → Prop) : List α → Int → Int → Prop
 | [], q, q' => q' = q
 | x :: r, q, q' => ∃ q1, hd x q q1 ∧ hdS hd r q1 q'
theorem hdS_snoc {α : Type} {hd : α → Int → Int → Prop} {l : List α} {x : α} {q q1 q2 : Int} (h : hdS hd l q q1) (hx : hd x q1 q2) : hdS hd (l ++ [x]) q q2 := by
 induction l generalizing q with
 | nil => simp only [hdS] at h; subst h; exact ⟨q2, hx, rfl⟩
 | cons y r ih => obtain ⟨q3, h1, h2⟩ := h; exact ⟨q3, h1, ih h2⟩
theorem hdS_end {α : Type} {hd : α → Int → Int → Prop} {cnt : α → Nat} (hc : ∀ m q q', hd m q q' → q' = q + cnt m) {l : List α} {q q' : Int} (h : hdS hd l q q') : q' = q + sumW cnt l := by
 induction l generalizing q with
 | nil => simp only [hdS] at h; subst h; simp [sumW]
 | cons y r ih => obtain ⟨q3, h1, h2⟩ := h; have h3 := hc _ _ _ h1; have h4 := ih h2; simp only [sumW]; omega
theorem sumW_cnt_le {α : Type} {f g : α → Nat} (h : ∀ x, f x ≤ 32 * (1 + g x)) (l : List α) : sumW f l ≤ 32 * (l.length + sumW g l) := by
 induction l with
 | nil => simp [sumW]
 | cons x r ih => have := h x; simp only [sumW, List.length_cons]; omega
theorem set_mid {α : Type} {l l' : List α} {k : Nat} (hl : l'.length = k) (hk : k < l.length) (m' : α) : (l' ++ l.drop k).set k m' = (l' ++ [m']) ++ l.drop (k + 1) := by
 rw [List.set_append_right _ _ (by omega), hl, Nat.sub_self, List.drop_eq_getElem_cons hk, List.set_cons_zero, List.append_assoc]
 rfl
theorem get_mid {α : Type} {l l' : List α} {k : Nat} (hl : l'.length = k) (hk : k < l.length) (h : k < (l' ++ l.drop k).length) : (l' ++ l.drop k)[k] = l[k] := by
 rw [List.getElem_append_right (by omega)]
 simp [hl]
def mtLoop : Nat → Int → ByteArray → ByteArray
 | 0, _, o => o
 | f + 1, k, o => if k ≤ 0 then o else mtLoop f (k / 10) (strOfNums [48 + k % 10] ++ o)
def mtext (q : Int) : ByteArray := if q ≤ 0 then strOfNums [109, 48] else strOfNums [109] ++ mtLoop (q.toNat + 1) q ByteArray.empty
theorem mtLoop_step {f : Nat} {k : Int} {o : ByteArray} (h : 0 < k) : mtLoop (f + 1) k o = mtLoop f (k / 10) (strOfNums [48 + k % 10] ++ o) := by
 rw [mtLoop, if_neg (by omega)]
theorem mtLoop_done {f : Nat} {k : Int} {o : ByteArray} (h : k ≤ 0) : mtLoop f k o = o := by
 cases f with
 | zero => rfl
 | succ f => rw [mtLoop, if_pos h]
set_option maxHeartbeats 400000 in
theorem markText_any (q : Int) (w : World) (hq : 0 ≤ q) (hq2 : q ≤ 140737488351232) :
  Calls Tryz.prog 94 #[.int .i64 q] w fun e w' => e = .returned (.string (mtext q)) ∧ Below w.heap.size w w' := by
 by_cases h0 : q ≤ 0
 ·have HV : Hid (mtext q = strOfNums [109, 48]) := if_pos h0
  go_enter Tryz.func94, Tryz.ntmps94
  go_wp2
  go_ret
  exact ⟨by rw [HV.out]; rfl, Below.refl _ _⟩
 ·have HV : Hid (mtext q = strOfNums [109] ++ mtLoop (q.toNat + 1) q ByteArray.empty) := if_neg h0
  go_enter Tryz.func94, Tryz.ntmps94
  go_wp2
  go_loopw [0, 3] (fun kk oo wr => ∃ (f : Nat) (k : Int) (o : ByteArray), kk = .int .i64 k ∧ oo = .string o ∧ 0 ≤ k ∧ k ≤ q ∧ k.toNat < f ∧ o.size + f = q.toNat + 1 ∧ mtLoop f k o = mtLoop (q.toNat + 1) q ByteArray.empty ∧ Below w.heap.size w wr) (fun kk _ _ => (intOf kk).toNat)
  case atStart => exact ⟨q.toNat + 1, q, ByteArray.empty, rfl, rfl, hq, by omega, by omega, by simp, rfl, Below.refl _ _⟩
  case round =>
   obtain ⟨f, k, o, rfl, rfl, hk0, hkq, hkf, hof, hm, hbk⟩ := hrel
   have HM := Hid.mk hm
   clear hm
   by_cases hlt : 0 < k
   ·have hconv : (convert 51 9 (.slice (some ⟨wr.heap.size, 0, none⟩) 1 1)).run Tryz.prog (wr.alloc (.cells #[.int .u8 (48 + k % 10)] 5)) = .ok (.string (strOfNums [48 + k % 10])) (wr.alloc (.cells #[.int .u8 (48 + k % 10)] 5)) :=
     run_convert_bytes_arg _ 51 5 Tryz.underlying51 Tryz.underlying5 wr.heap.size 0 1 1 [48 + k % 10] rfl (fun i hi => by
      have h0 : i = 0 := by omega
      subst h0
      simp) 9 Tryz.underlying9
    obtain ⟨f', rfl⟩ : ∃ f', f = f' + 1 := ⟨f - 1, by omega⟩
    have HS := Hid.mk (mtLoop_step (f := f') (o := o) hlt)
    have HZ : Hid ((strOfNums [48 + k % 10] ++ o).size = 1 + o.size) := by
     show (strOfNums [48 + k % 10] ++ o).size = 1 + o.size
     rw [ByteArray.size_append, strOfNums_size]
     rfl
    have hz1 : (strOfNums [48 + k % 10]).size = 1 := strOfNums_size _
    generalize strOfNums [48 + k % 10] = d1 at hconv HS HZ hz1
    go_wp2
    go_roundw
    case rel => exact ⟨f', k / 10, d1 ++ o, by go_num, rfl, by omega, by omega, by omega, by rw [HZ.out]; omega, by rw [← HS.out]; exact HM.out, hbk.alloc hbk.size _⟩
    case measure => simp [intOf]; omega
   ·have hk00 : k ≤ 0 := by omega
    have HD := Hid.mk (mtLoop_done (f := f) (o := o) hk00)
    go_wp2
    go_ret
    exact ⟨by rw [HV.out, ← HM.out, HD.out]; rfl, hbk⟩
theorem mtLoop_size (f : Nat) (k : Int) (o : ByteArray) : (mtLoop f k o).size ≤ o.size + f := by
 induction f generalizing k o with
 | zero => simp [mtLoop]
 | succ f ih =>
  rw [mtLoop]
  split
  ·omega
  ·refine Nat.le_trans (ih _ _) ?_
   rw [ByteArray.size_append, strOfNums_size]
   simp
   omega
theorem mtext_size (q : Int) : (mtext q).size ≤ q.toNat + 2 := by
 unfold mtext
 split
 ·rw [strOfNums_size]; simp
 ·rw [ByteArray.size_append, strOfNums_size]
  have := mtLoop_size (q.toNat + 1) q ByteArray.empty
  simp at this ⊢
  omega
def rdB (B : Nat) (w : World) (v : Value) (zs : List Int) : Prop := ∃ a c, v = .slice a zs.length c ∧ LeafB B w a c zs
theorem rdB.below {B : Nat} {w w' : World} {v : Value} {zs : List Int} (h : rdB B w v zs) (hb : Below B w w') : rdB B w' v zs := by
 obtain ⟨a, c, e, h1⟩ := h
 exact ⟨a, c, e, h1.below hb⟩
theorem rdB.mono {B B' : Nat} {w : World} {v : Value} {zs : List Int} (h : rdB B w v zs) (hB : B ≤ B') : rdB B' w v zs := by
 obtain ⟨a, c, e, h1⟩ := h
 exact ⟨a, c, e, h1.mono hB⟩
theorem markByteS_o (v : Value) (zs : List Int) (F : List Nat) (q : Int) (w : World) (hq : 0 ≤ q) (hq2 : q + zs.length ≤ 70368744177664) (ho : ownB 5 w v zs F) :
  Calls Tryz.prog 93 #[v, .int .i64 q] w fun e w' => e = .returned (.int .i64 (q + zs.length)) ∧ ownB 5 w' v (marks q zs.length) F ∧ Turn F w w' := by
 obtain ⟨a, c, rfl, hc, hcm, hrd, hby⟩ := ho.read
 obtain ⟨h1, h2, rfl⟩ := ho
 refine (markByteS_gen a zs.length c 0 zs q w hq (by omega) (by omega) rfl h1).mono ?_
 rintro e w' ⟨rfl, hown, hg⟩
 refine ⟨rfl, ⟨own_congr hown (marks_length _ _).symm rfl, ?_, rfl⟩, Turn.ofGrown hg (fun k hk => by simp [hk])⟩
 intro z hz
 obtain ⟨j, hj, rfl⟩ := List.mem_iff_getElem.1 hz
 have := marks_getD q zs.length j (by simpa [marks_length] using hj)
 rw [List.getD_eq_getElem?_getD, List.getElem?_eq_getElem hj] at this
 simp only [Option.getD_some] at this
 rw [this]
 omega
theorem heldByteS_o (a : Option Addr) (n c : Nat) (zs : List Int) (q : Int) (w : World) (hn : zs.length = n) (hq : 0 ≤ q) (hq2 : q + n ≤ 70368744177664) (hr : LeafB w.heap.size w a c zs) (hz : zs = marks q n) :
  Calls Tryz.prog 95 #[.slice a n c, .int .i64 q] w fun e w' => e = .returned (.int .i64 (q + n)) ∧ w' = w :=
 heldByteS_yes a n c q w w.heap.size hq (by omega) (by omega) (by rw [← hz]; exact hr.2.2.1)
end Go.Proofs.YtomlpobbhioflaaGreatDoor
