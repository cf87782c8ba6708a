/-
  Part 16 of the texts that the proof leans on.
-/
import Derived.Test.YtddejboifpepcaaGreatDoorInp11
import Derived.Test.YtddejboifpepcaaGreatDoorInp13
import Derived.Test.YtddejboifpepcaaGreatDoorInp5
import Derived.Test.YtddejboifpepcaaGreatDoorInp14
import Derived.Test.YtddejboifpepcaaGreatDoorInp1
import Derived.Test.YtddejboifpepcaaGreatDoorInp3
import Derived.Test.YtddejboifpepcaaGreatDoorInp12
set_option linter.unusedVariables false
set_option linter.unusedSimpArgs false
set_option maxRecDepth 10000

namespace Go.Proofs.YtddejboifpepcaaGreatDoor
open Go.RowKit
def newN : ByteArray := ⟨#[110, 101, 119]⟩
def curN : ByteArray := ⟨#[99, 117, 114]⟩
def manB (M : MManifest) : List Int := byteInts (manTextP M)
theorem dec_short (k : Nat) : ∀ n : Nat, n < 10 ^ (k + 1) → (Lib.decDigits n).length ≤ k + 1 := by
 induction k with
 | zero =>
  intro n h
  rw [Lib.decDigits, dif_pos (by simpa using h)]
  simp
 | succ k ih =>
  intro n h
  rw [Lib.decDigits]
  split
  ·simp
  ·have := ih (n / 10) (by rw [Nat.pow_succ] at h; omega)
   rw [List.length_append]
   simp
   omega
theorem decD_short {n : Int} (h : n ≤ 100000) : (decD n).length ≤ 6 := dec_short 5 n.toNat (by omega)
theorem manB_len {M : MManifest} (h : manOkP M = true) : (manB M).length ≤ 1048576 := by
 have hf := manOkP_facts h
 have hd : (headT M).length ≤ 30 := by
  have h1 := decD_short hf.nx1
  have h2 := decD_short (n := M.fLog) (by have := hf.lg1; have := hf.nx1; omega)
  simp only [headT, nextW, logW, List.length_append, List.length_cons, List.length_nil]
  omega
 have hl : ∀ t, t ∈ M.fTables → (lineT t).length ≤ 200 := by
  intro t ht
  have h0 := hf.each t ht
  have h1 := decD_short (n := t.fNo) (by have := h0.no1; have := hf.nx1; omega)
  have h2 := decD_short (n := t.fLevel) (by have := h0.lv1; omega)
  have h3 := hexT_len t.fLo
  have h4 := hexT_len t.fHi
  have h5 := h0.lo
  have h6 := h0.hi
  simp only [lineT, tabW, List.length_append, List.length_cons, List.length_nil]
  omega
 have hls : ∀ l : List MMeta, (∀ t, t ∈ l → (lineT t).length ≤ 200) → (linesT l).length ≤ l.length * 201 := by
  intro l
  induction l with
  | nil => intro _; simp [linesT]
  | cons x r ih =>
   intro hh
   have h1 := hh x (List.mem_cons_self ..)
   have h2 := ih (fun t ht => hh t (List.mem_cons_of_mem _ ht))
   unfold linesT at h2 ⊢
   rw [List.flatMap_cons]
   simp only [List.length_append, List.length_cons, List.length_nil]
   omega
 have h3 := hls _ hl
 have h4 := hf.len
 unfold manB
 rw [byteInts_length, manTextP_yes h, strB_size]
 simp only [manTextL, endW, List.length_append, List.length_cons, List.length_nil]
 omega
def instR (m : MDisk) (M : MManifest) : MDisk × Int :=
 if manOkP M = true ∧ (switchP m newN (manB M) curN).2 = 0 then switchP m newN (manB M) curN
 else (m, if manOkP M = true then (switchP m newN (manB M) curN).2 else 1)
def instD (m : MDisk) (M : MManifest) : MDisk := (instR m M).1
def instC (m : MDisk) (M : MManifest) : Int := (instR m M).2
theorem inst_no {m : MDisk} {M : MManifest} (h : manOkP M = false) : instR m M = (m, 1) := by
 unfold instR
 rw [if_neg (by rw [h]; simp), if_neg (by rw [h]; simp)]
theorem inst_bad {m : MDisk} {M : MManifest} (h : manOkP M = true) (h2 : (switchP m newN (manB M) curN).2 ≠ 0) : instR m M = (m, (switchP m newN (manB M) curN).2) := by
 unfold instR
 rw [if_neg (fun hh => h2 hh.2), if_pos h]
theorem inst_good {m : MDisk} {M : MManifest} (h : manOkP M = true) (h2 : (switchP m newN (manB M) curN).2 = 0) : instR m M = ((switchP m newN (manB M) curN).1, 0) := by
 unfold instR
 rw [if_pos ⟨h, h2⟩, ← h2]
theorem switch_form {m : MDisk} {t : ByteArray} {b : List Int} {s : ByteArray} (h : diskOk m = false) : (switchP m t b s).2 = 1 := by
 have hc : callP m t = 1 := by unfold callP; rw [h]; rfl
 have hr : removeP m t = m := by unfold removeP; rw [if_neg (by rw [hc]; decide)]
 have hcc : createC m t = 1 := by unfold createC; rw [if_neg (by rw [hc]; decide), if_neg (by rw [hc]; decide)]
 unfold switchP
 rw [hr, swR]
 have h0 : swC m t b s 0 = 1 := hcc
 rw [if_neg (by rw [h0]; decide)]
 exact h0
theorem boundInstall_0 (m : MDisk) (M : MManifest) (hw : wDisk m ≤ 1048576) (hw1 : wManifest M ≤ 1048576) : wDisk (instD m M) ≤ 1099511627776 := by
 have h := switch_small (t := newN) (b := manB M) (s := curN) hw
 unfold instD instR
 split
 ·omega
 ·show wDisk m ≤ _; omega
def putR (m : MDisk) (t : ByteArray) (b : List Int) (s : ByteArray) : MDisk × Int := swR (removeP m t) t b s 3 0
theorem putR_steps (m : MDisk) (t : ByteArray) (b : List Int) (s : ByteArray) :
  (createC (removeP m t) t ≠ 0 → putR m t b s = (createP (removeP m t) t, createC (removeP m t) t)) ∧
  (createC (removeP m t) t = 0 → appendC (createP (removeP m t) t) t b ≠ 0 → putR m t b s = (appendP (createP (removeP m t) t) t b, appendC (createP (removeP m t) t) t b)) ∧
  (createC (removeP m t) t = 0 → appendC (createP (removeP m t) t) t b = 0 → putR m t b s = (syncP (appendP (createP (removeP m t) t) t b) t, callP (appendP (createP (removeP m t) t) t b) t)) := by
 have e0 : swC (removeP m t) t b s 0 = createC (removeP m t) t := rfl
 have e1 : swC (removeP m t) t b s 1 = appendC (createP (removeP m t) t) t b := rfl
 have e2 : swC (removeP m t) t b s 2 = callP (appendP (createP (removeP m t) t) t b) t := rfl
 refine ⟨fun h => ?_, fun h h2 => ?_, fun h h2 => ?_⟩
 ·unfold putR
  rw [swR, if_neg (by rw [e0]; exact h)]
  rfl
 ·unfold putR
  rw [swR, if_pos (by rw [e0]; exact h), swR, if_neg (by rw [e1]; exact h2)]
  rfl
 ·unfold putR
  rw [swR, if_pos (by rw [e0]; exact h), swR, if_pos (by rw [e1]; exact h2), swR]
  by_cases h3 : callP (appendP (createP (removeP m t) t) t b) t = 0
  ·rw [if_pos (by rw [e2]; exact h3), swR, h3]
   rfl
  ·rw [if_neg (by rw [e2]; exact h3)]
   rfl
theorem putR_small {m : MDisk} {t : ByteArray} {b : List Int} {s : ByteArray} (h : wDisk m ≤ 1048576) : wDisk (putR m t b s).1 ≤ 1048576 := swR_small (small_remove h) 3 0
theorem switch_put (m : MDisk) (t : ByteArray) (b : List Int) (s : ByteArray) :
  ((putR m t b s).2 ≠ 0 → switchP m t b s = putR m t b s) ∧
  ((putR m t b s).2 = 0 → renameC (putR m t b s).1 t s ≠ 0 → switchP m t b s = (renameP (putR m t b s).1 t s, renameC (putR m t b s).1 t s)) ∧
  ((putR m t b s).2 = 0 → renameC (putR m t b s).1 t s = 0 → switchP m t b s = (syncDirP (renameP (putR m t b s).1 t s), syncDirC (renameP (putR m t b s).1 t s))) := by
 unfold putR switchP
 generalize removeP m t = mr
 have key : ∀ (f k : Nat), (swR mr t b s f k).2 ≠ 0 → swR mr t b s (f + 2) k = swR mr t b s f k := by
  intro f
  induction f with
  | zero => intro k h; exact absurd rfl h
  | succ f ih =>
   intro k h
   rw [swR] at h ⊢
   conv => rhs; rw [swR]
   by_cases hc : swC mr t b s k = 0
   ·rw [if_pos hc] at h ⊢
    rw [if_pos hc]
    exact ih (k + 1) h
   ·rw [if_neg hc, if_neg hc]
 have good : ∀ (f k : Nat), (swR mr t b s f k).2 = 0 → (swR mr t b s f k).1 = swD mr t b s (f + k) ∧ swR mr t b s (f + 2) k = swR mr t b s 2 (f + k) := by
  intro f
  induction f with
  | zero => intro k h; exact ⟨by rw [Nat.zero_add]; rfl, by rw [Nat.zero_add, Nat.zero_add]⟩
  | succ f ih =>
   intro k h
   rw [swR] at h
   by_cases hc : swC mr t b s k = 0
   ·rw [if_pos hc] at h
    obtain ⟨h1, h2⟩ := ih (k + 1) h
    rw [swR, if_pos hc, show f + 1 + k = f + (k + 1) from by omega]
    refine ⟨h1, ?_⟩
    rw [show f + 1 + 2 = (f + 2) + 1 from by omega, swR, if_pos hc]
    exact h2
   ·rw [if_neg hc] at h
    exact absurd h hc
 refine ⟨fun h => key 3 0 h, fun h h2 => ?_, fun h h2 => ?_⟩
 ·obtain ⟨h3, h4⟩ := good 3 0 h
  rw [h3] at h2 ⊢
  rw [h4, swR, if_neg (show swC mr t b s (3 + 0) ≠ 0 from h2)]
  rfl
 ·obtain ⟨h3, h4⟩ := good 3 0 h
  rw [h3] at h2 ⊢
  rw [h4, swR, if_pos (show swC mr t b s (3 + 0) = 0 from h2), swR]
  by_cases h5 : swC mr t b s (3 + 0 + 1) = 0
  ·rw [if_pos h5, swR]
   have : syncDirC (renameP (swD mr t b s (3 + 0)) t s) = 0 := h5
   rw [this]
   rfl
  ·rw [if_neg h5]
   rfl
def B2 (W : World) (b : Nat) (cs ms : List Value) : Prop := Bw W b 34 cs ∧ Bw W (b + 1) 40 ms
theorem B2.under {w W : World} {b : Nat} {cs ms : List Value} (h : B2 w b cs ms) (hb : Below w.heap.size w W) : B2 W b cs ms := ⟨h.1.under hb, h.2.under hb⟩
theorem B2.turn {w W : World} {b : Nat} {cs ms : List Value} {G : List Nat} (h : B2 w b cs ms) (hT : Turn G w W) (h0 : b ∉ G) (h1 : b + 1 ∉ G) : B2 W b cs ms := ⟨h.1.turn hT h0, h.2.turn hT h1⟩
theorem strRdB (s : ByteArray) (w : World) (hs : s.size ≤ 1048576) : ∃ (w1 : World) (cap : Nat), (convert 9 63 (.string s)).run Tryz.prog w = .ok (.slice (some ⟨w.heap.size, 0, none⟩) s.size cap) w1 ∧ Below w.heap.size w w1 ∧ rdB w1.heap.size w1 (.slice (some ⟨w.heap.size, 0, none⟩) s.size cap) (byteInts s) := by
 have hcv := Lib.run_convert_string_bytes (P := Tryz.prog) w 9 63 5 s Tryz.underlying9 Tryz.underlying63 Tryz.underlying5
 obtain ⟨w1, cap, h1, h2, h3⟩ := strRd s w
 rw [hcv] at h1
 have he := h1
 simp only [Result.ok.injEq, Value.slice.injEq, true_and] at he
 obtain ⟨rfl, rfl⟩ := he
 refine ⟨_, _, hcv, h2, ⟨_, _, by rw [byteInts_length], ?_, ?_, h3, byteInts_ok s⟩⟩
 ·rw [byteInts_length]
  exact grownCap_ge w s.size 0 _
 ·have := grownCap_le_maxLen w s.size 0 5 (by unfold maxLen; omega)
  unfold maxLen at this
  omega
abbrev qf54_10_3_0 : Oper := ⟨some 14, .load 34 (.tmp 2), 34, "l06_manifest.go:188", #[], none⟩
abbrev qf54_10_3_1 : Oper := ⟨some 15, .load 40 (.tmp 3), 40, "l06_manifest.go:188", #[], none⟩
abbrev qf54_10_3_8 : Oper := ⟨some 6, .alloc 34, 0, "l06_manifest.go:188", #[], none⟩
abbrev qf54_10_3_2 : Oper := ⟨some 16, .call { callee := .value (.func 37), args := #[.tmp 15], argTypes := #[40] }, 9, "l06_manifest.go:188", #[⟨1, .data⟩], none⟩
abbrev qf54_10_3_3 : Oper := ⟨some 17, .convert 9 63 (.tmp 16), 63, "l06_manifest.go:188", #[⟨2, .data⟩], none⟩
abbrev qf54_10_3_4 : Oper := ⟨some 18, .call { callee := .value (.func 36), args := #[.tmp 14, .const (.string { data := #[110, 101, 119] }), .tmp 17, .const (.string { data := #[99, 117, 114] })], argTypes := #[34, 9, 63, 9] }, 35, "l06_manifest.go:188", #[⟨0, .data⟩, ⟨3, .data⟩, ⟨2, .chain⟩], none⟩
abbrev qf54_10_3_5 : Oper := ⟨some 13, .move (.tmp 18), 35, "l06_manifest.go:188", #[⟨4, .data⟩], none⟩
abbrev qf54_10_3_6 : Oper := ⟨some 19, .extract (.tmp 13) 0, 34, "l06_manifest.go:188", #[⟨5, .data⟩], none⟩
abbrev qf54_10_3_7 : Oper := ⟨some 20, .extract (.tmp 13) 1, 3, "l06_manifest.go:188", #[⟨5, .data⟩, { on := 9, ground := Ground.gcOnly Departure.lateStores }], none⟩
abbrev qf54_10_3_9 : Oper := ⟨none, .store 34 (.tmp 6) (.tmp 19), 0, "l06_manifest.go:188", #[⟨8, .data⟩, ⟨6, .data⟩, ⟨4, .chain⟩, ⟨0, .phase⟩, ⟨1, .phase⟩, ⟨2, .phase⟩, ⟨3, .phase⟩, ⟨4, .phase⟩, ⟨5, .phase⟩, ⟨6, .phase⟩, { on := 7, ground := Ground.textOnly Departure.lateStores }, ⟨8, .phase⟩], none⟩
abbrev qf54_10_3_10 : Oper := ⟨some 7, .assign (.tmp 20), 3, "l06_manifest.go:188", #[⟨7, .data⟩, ⟨9, .chain⟩, ⟨0, .phase⟩, ⟨1, .phase⟩, ⟨2, .phase⟩, ⟨3, .phase⟩, ⟨4, .phase⟩, ⟨5, .phase⟩, ⟨6, .phase⟩, ⟨7, .phase⟩, ⟨8, .phase⟩, ⟨9, .phase⟩], none⟩
set_option maxHeartbeats 8000000 in
theorem implInstall_c (cs : List Value) (m : MDisk) (ms : List Value) (M : MManifest) (w : World) (hr : rDisk w.heap.size w cs m) (hrm : rManifest w.heap.size w ms M) (hw : wDisk m ≤ 1048576) (hw1 : wManifest M ≤ 1048576) (hT : Pow w) :
  Calls Tryz.prog 10 #[.agg cs.toArray, .agg ms.toArray] w fun e w' => ∃ (cs' : List Value) (F0 : List Nat), e = .returned (.tuple #[.agg cs'.toArray, .int .i64 (instC m M)]) ∧ oDisk w' cs' (instD m M) F0 ∧ F0.Nodup ∧ (∀ b, b ∈ F0 → w.heap.size ≤ b) ∧ Below w.heap.size w w' := by
 have HPW := Hid.mk hT
 clear hT
 have hq := hr
 obtain ⟨a0, c0, a1, c1, a2, c2, rfl, hI, hNm, hSf, hnx, _⟩ := hq
 have HW := Hid.mk hw
 have HR := Hid.mk hr
 have hq2 := hrm
 obtain ⟨t2, k2, rfl, hmf0, hmf1, hLm, _⟩ := hq2
 have HWM := Hid.mk hw1
 have HRM := Hid.mk hrm
 clear hr hI hNm hSf hw hrm hLm hw1
 obtain ⟨wq, hwq⟩ : ∃ wq, wq = ((w.alloc (.cells #[.slice a0 m.fInodes.length c0, .slice a1 m.fNames.length c1, .slice a2 m.fSafe.length c2, .int .i64 m.fNext] 34)).alloc (.cells #[.int .i64 M.fNext, .int .i64 M.fLog, .slice t2 M.fTables.length k2] 40)).alloc (.cells #[.slice none 0 0, .slice none 0 0, .slice none 0 0, .int .i64 0] 34) := ⟨_, rfl⟩
 have hzq : wq.heap.size = w.heap.size + 3 := by rw [hwq]; simp
 have hbW : Below w.heap.size w wq := by rw [hwq]; exact (((Below.refl _ _).alloc (Nat.le_refl _) _).alloc (by simp) _).alloc (by simp; omega) _
 have hbd : B2 wq w.heap.size [.slice a0 m.fInodes.length c0, .slice a1 m.fNames.length c1, .slice a2 m.fSafe.length c2, .int .i64 m.fNext] [.int .i64 M.fNext, .int .i64 M.fLog, .slice t2 M.fTables.length k2] := by rw [hwq]; exact ⟨((Bw.new _ _ _).alloc _).alloc _, (Bw.new' _ _ _ (by simp)).alloc _⟩
 have hbr : Bw wq (w.heap.size + 1 + 1) 34 [.slice none 0 0, .slice none 0 0, .slice none 0 0, .int .i64 0] := by rw [hwq]; exact Bw.new' _ _ _ (by simp)
 go_enter Tryz.func10, Tryz.ntmps10
 go_wp2_with fail
 rw [← hwq]
 clear hwq
 refine (implManOk_c _ M wq (rManifest_good.mono (rManifest_good.below HRM.out hbW) hbW.size) HWM.out).mono ?_
 rintro e w1 ⟨rfl, hx1⟩
 have hb1 := bthen hbW hx1
 have hd1 := hbd.under hx1
 have hr1 := hbr.under hx1
 have hz1 := hx1.size
 by_cases hM : manOkP M = true
 rotate_left
 ·rw [Bool.eq_false_iff.2 hM]
  have HRES := Hid.mk (inst_no (m := m) (Bool.eq_false_iff.2 hM))
  have hdl := (hd1.1).lt
  obtain ⟨x0, x1, x2, x3⟩ := hd1.1.c4
  go_wp2_with fail
  refine (copyDisk_any _ m w1 (rDisk_good.mono (rDisk_good.below HR.out (hb1)) (hb1).size) HW.out).mono ?_
  rintro e w7 ⟨cs7, F7, rfl, ho7, hN7, hge7, hx7⟩
  obtain ⟨q0, qp0, q1, qp1, q2, qp2, E0, E1, E2, rfl, _, _, _, _, rfl⟩ := oDisk_cells ho7
  have hr7 := (hr1).under hx7
  have hz7 := hx7.size
  have hzz := (hr1).lt
  have hgF : ∀ b, b ∈ E0 ++ E1 ++ E2 ++ [] → w.heap.size + 3 ≤ b := fun b hb => by have := hge7 b hb; omega
  have HGF := Hid.mk hgF
  have HNF := Hid.mk hN7
  obtain ⟨u0, uf0, u1, uf1, u2, uf2, u3, uf3⟩ := hr7.c8
  have hul := hr7.lt
  have hT := turn4 w7 (w.heap.size + 1 + 1) (.slice q0 m.fInodes.length qp0) (.slice q1 m.fNames.length qp1) (.slice q2 m.fSafe.length qp2) (.int .i64 m.fNext)
  have HBF : Hid (Below w.heap.size w ((((w7.setCell ⟨w.heap.size + 1 + 1, 0, none⟩ (.slice q0 m.fInodes.length qp0)).setCell ⟨w.heap.size + 1 + 1, 1, none⟩ (.slice q1 m.fNames.length qp1)).setCell ⟨w.heap.size + 1 + 1, 2, none⟩ (.slice q2 m.fSafe.length qp2)).setCell ⟨w.heap.size + 1 + 1, 3, none⟩ (.int .i64 m.fNext))) := (bthen (hb1) hx7).trans (hT.below (fun k hk => by simp at hk; omega) (bthen (hb1) hx7).size)
  have HOF : Hid (oDisk ((((w7.setCell ⟨w.heap.size + 1 + 1, 0, none⟩ (.slice q0 m.fInodes.length qp0)).setCell ⟨w.heap.size + 1 + 1, 1, none⟩ (.slice q1 m.fNames.length qp1)).setCell ⟨w.heap.size + 1 + 1, 2, none⟩ (.slice q2 m.fSafe.length qp2)).setCell ⟨w.heap.size + 1 + 1, 3, none⟩ (.int .i64 m.fNext)) [.slice q0 m.fInodes.length qp0, .slice q1 m.fNames.length qp1, .slice q2 m.fSafe.length qp2, .int .i64 m.fNext] m _) := oDisk_good.frame ho7 (fun b hb => hT.block b (oDisk_good.lt ho7 b hb) (by intro h; simp at h; have := hgF b hb; omega))
  clear hT
  go_wp2_with fail
  refine bodyPost_ret (v := .tuple #[.agg #[.slice q0 m.fInodes.length qp0, .slice q1 m.fNames.length qp1, .slice q2 m.fSafe.length qp2, .int .i64 m.fNext], .int .i64 1]) (by simp [results, Tryz.results10, go_sem, *]) rfl ?_
  exact ⟨[.slice q0 m.fInodes.length qp0, .slice q1 m.fNames.length qp1, .slice q2 m.fSafe.length qp2, .int .i64 m.fNext], E0 ++ E1 ++ E2 ++ [], by rw [show instC m M = 1 from congrArg (fun r => r.2) HRES.out], by rw [show instD m M = m from congrArg (fun r => r.1) HRES.out]; exact HOF.out, HNF.out, (fun b hb => by have := HGF.out b hb; omega), HBF.out⟩
 rw [hM]
 have HM := Hid.mk hM
 clear hM
 have hlB : (manB M).length ≤ 1048576 := manB_len HM.out
 have hlT : (manTextP M).size ≤ 1048576 := by have h := hlB; unfold manB at h; rw [byteInts_length] at h; exact h
 obtain ⟨w2, hw2⟩ : ∃ w2, w2 = w1 := ⟨_, rfl⟩
 rw [← hw2] at hb1 hd1 hr1 hz1 ⊢
 have hb2 := hb1
 have hd2 := hd1
 have hr2 := hr1
 clear hw2 hx1
 have HBAD := Hid.mk (inst_bad (m := m) HM.out)
 have HGOOD := Hid.mk (inst_good (m := m) HM.out)
 obtain ⟨R5, hR5⟩ : ∃ R5, R5 = (switchP m newN (manB M) curN) := ⟨_, rfl⟩
 have HR5 := Hid.mk hR5
 have hwR : wDisk R5.1 ≤ 1048576 := by rw [hR5]; exact switch_small HW.out
 rw [← hR5] at HBAD HGOOD
 clear hR5
 obtain ⟨d5, c5⟩ := R5
 have hd2l := hd2.1.lt
 have hd2m := hd2.2.lt
 have p0 : ∀ W, B2 W w.heap.size [.slice a0 m.fInodes.length c0, .slice a1 m.fNames.length c1, .slice a2 m.fSafe.length c2, .int .i64 m.fNext] [.int .i64 M.fNext, .int .i64 M.fLog, .slice t2 M.fTables.length k2] → W.cell? ⟨w.heap.size, 0, none⟩ = some (.slice a0 m.fInodes.length c0) := fun W h => h.1.cell 0 _ rfl
 have p1 : ∀ W, B2 W w.heap.size [.slice a0 m.fInodes.length c0, .slice a1 m.fNames.length c1, .slice a2 m.fSafe.length c2, .int .i64 m.fNext] [.int .i64 M.fNext, .int .i64 M.fLog, .slice t2 M.fTables.length k2] → W.cell? ⟨w.heap.size, 1, none⟩ = some (.slice a1 m.fNames.length c1) := fun W h => h.1.cell 1 _ rfl
 have p2 : ∀ W, B2 W w.heap.size [.slice a0 m.fInodes.length c0, .slice a1 m.fNames.length c1, .slice a2 m.fSafe.length c2, .int .i64 m.fNext] [.int .i64 M.fNext, .int .i64 M.fLog, .slice t2 M.fTables.length k2] → W.cell? ⟨w.heap.size, 2, none⟩ = some (.slice a2 m.fSafe.length c2) := fun W h => h.1.cell 2 _ rfl
 have p3 : ∀ W, B2 W w.heap.size [.slice a0 m.fInodes.length c0, .slice a1 m.fNames.length c1, .slice a2 m.fSafe.length c2, .int .i64 m.fNext] [.int .i64 M.fNext, .int .i64 M.fLog, .slice t2 M.fTables.length k2] → W.cell? ⟨w.heap.size, 3, none⟩ = some (.int .i64 m.fNext) := fun W h => h.1.cell 3 _ rfl
 have r0 : ∀ W, B2 W w.heap.size [.slice a0 m.fInodes.length c0, .slice a1 m.fNames.length c1, .slice a2 m.fSafe.length c2, .int .i64 m.fNext] [.int .i64 M.fNext, .int .i64 M.fLog, .slice t2 M.fTables.length k2] → W.cell? ⟨w.heap.size + 1, 0, none⟩ = some (.int .i64 M.fNext) := fun W h => h.2.cell 0 _ rfl
 have r1 : ∀ W, B2 W w.heap.size [.slice a0 m.fInodes.length c0, .slice a1 m.fNames.length c1, .slice a2 m.fSafe.length c2, .int .i64 m.fNext] [.int .i64 M.fNext, .int .i64 M.fLog, .slice t2 M.fTables.length k2] → W.cell? ⟨w.heap.size + 1, 1, none⟩ = some (.int .i64 M.fLog) := fun W h => h.2.cell 1 _ rfl
 have r2 : ∀ W, B2 W w.heap.size [.slice a0 m.fInodes.length c0, .slice a1 m.fNames.length c1, .slice a2 m.fSafe.length c2, .int .i64 m.fNext] [.int .i64 M.fNext, .int .i64 M.fLog, .slice t2 M.fTables.length k2] → W.cell? ⟨w.heap.size + 1, 2, none⟩ = some (.slice t2 M.fTables.length k2) := fun W h => h.2.cell 2 _ rfl
 go_wp2_with fail
 refine Code.wp_mono (Q := fun e a' w' => e = .normal ∧ ∃ (y0 y1 y8 y9 y10 y11 y12 y13 y14 y15 y16 y17 y18 y19 y20 y21 y22 y23 y24 y25 y26 : Value) (g : Nat) (z0 z1 z2 : Option Addr) (zp0 zp1 zp2 : Nat) (F5 : List Nat), a' = { tmps := #[y0, y1, .pointer (some ⟨w.heap.size, 0, none⟩), .pointer (some ⟨w.heap.size + 1, 0, none⟩), .pointer (some ⟨w.heap.size + 1 + 1, 0, none⟩), .int .i64 0, .pointer (some ⟨g, 0, none⟩), .int .i64 c5, y8, y9, y10, y11, y12, y13, y14, y15, y16, y17, y18, y19, y20, y21, y22, y23, y24, y25, y26], defers := [] } ∧ w.heap.size + 3 ≤ g ∧ Bw w' g 34 [.slice z0 d5.fInodes.length zp0, .slice z1 d5.fNames.length zp1, .slice z2 d5.fSafe.length zp2, .int .i64 d5.fNext] ∧ oDisk w' [.slice z0 d5.fInodes.length zp0, .slice z1 d5.fNames.length zp1, .slice z2 d5.fSafe.length zp2, .int .i64 d5.fNext] d5 F5 ∧ F5.Nodup ∧ (∀ b, b ∈ F5 → w.heap.size + 3 ≤ b ∧ b ≠ g) ∧ Bw w' w.heap.size 34 [.slice a0 m.fInodes.length c0, .slice a1 m.fNames.length c1, .slice a2 m.fSafe.length c2, .int .i64 m.fNext] ∧ Bw w' (w.heap.size + 1 + 1) 34 [.slice none 0 0, .slice none 0 0, .slice none 0 0, .int .i64 0] ∧ Below w.heap.size w w') ?mono ?reg
 case reg =>
  refine wp_region_held_drew (S := fun W => B2 W w.heap.size [.slice a0 m.fInodes.length c0, .slice a1 m.fNames.length c1, .slice a2 m.fSafe.length c2, .int .i64 m.fNext] [.int .i64 M.fNext, .int .i64 M.fLog, .slice t2 M.fTables.length k2]) (by kernel_rfl) (hd2.under (Below.drew (Below.refl _ _))) (fun hHeld => ?_)
  obtain ⟨wS, hwS⟩ : ∃ wS, wS = w2.drew := ⟨_, rfl⟩
  have hbS : Below w2.heap.size w2 wS := by rw [hwS]; exact Below.drew (Below.refl _ _)
  have hrS := hr2.under hbS
  have hdwS : B2 wS w.heap.size [.slice a0 m.fInodes.length c0, .slice a1 m.fNames.length c1, .slice a2 m.fSafe.length c2, .int .i64 m.fNext] [.int .i64 M.fNext, .int .i64 M.fLog, .slice t2 M.fTables.length k2] := hd2.under hbS
  have hbwS := bthen hb2 hbS
  rw [← hwS] at hHeld ⊢
  clear hwS
  refine uq 0 qf54_10_3_0 14 hHeld ?_
  refine uq 1 qf54_10_3_1 15 hHeld ?_
  refine arR [2, 8] ?_
  refine (AllReadyH.cons (o := qf54_10_3_2) rfl (fun K hK => ?_) (AllReadyH.cons (o := qf54_10_3_8) rfl (fun K hK => ?_) AllReadyH.nil))
  ·go_simp
   have hfw2 := (show Below wS.heap.size wS wS from Below.refl _ _)
   refine Calls.mono (implManText_c _ M wS (rManifest_good.mono (rManifest_good.below HRM.out (bthen hbwS hfw2)) (bthen hbwS hfw2).size) HWM.out (HPW.out.below (bthen hbwS hfw2))) ?_
   rintro e wE2 ⟨rfl, hx2e⟩
   have hop2 : Below wS.heap.size wS wE2 := hx2e
   have hdwE2 := hdwS.under hop2
   go_wp2_with fail
   refine hK.out _ _ (hdwE2) (fun hHeld => ?_)
   clear hK K
   try simp only[Act.put,sa,s0,s1]
   refine arR [3, 8] ?_
   refine (AllReadyH.cons (o := qf54_10_3_3) rfl (fun K hK => ?_) (AllReadyH.cons (o := qf54_10_3_8) rfl (fun K hK => ?_) AllReadyH.nil))
   ·skip
    obtain ⟨wE3, cap3, hcv3, hx3e, hrd3⟩ := strRdB (manTextP M) wE2 hlT
    have hop3 : Below wE2.heap.size wE2 wE3 := hx3e
    have hdwE3 := hdwE2.under hop3
    go_simp
    refine hK.out _ _ (hdwE3) (fun hHeld => ?_)
    clear hK K
    try simp only[Act.put,sa,s0,s1]
    refine arR [4, 8] ?_
    refine (AllReadyH.cons (o := qf54_10_3_4) rfl (fun K hK => ?_) (AllReadyH.cons (o := qf54_10_3_8) rfl (fun K hK => ?_) AllReadyH.nil))
    ·go_simp
     have hfw4 := (show Below wS.heap.size wS wE3 from bthen (bthen (Below.refl _ _) hop2) hop3)
     have hfw3 := (show Below wE3.heap.size wE3 wE3 from Below.refl _ _)
     have hb5S : w2.heap.size ≤ wE3.heap.size := Nat.le_trans hbS.size hfw4.size
     refine Calls.mono (switch_any _ m newN _ (manB M) curN wE3 (rDisk_good.mono (rDisk_good.below HR.out (bthen hbwS hfw4)) (bthen hbwS hfw4).size) HW.out (by decide) (by decide) ((hrd3.below hfw3).mono hfw3.size) hlB) ?_
     rw [← HR5.out]
     rintro e wE4 ⟨cs5, F5, rfl, ho5, hN5, hge5, hx5⟩
     dsimp only at ho5
     obtain ⟨z0, zp0, z1, zp1, z2, zp2, E0, E1, E2, rfl, _, _, _, _, rfl⟩ := oDisk_cells ho5
     have hop4 : Below wE3.heap.size wE3 wE4 := hx5
     have hdwE4 := hdwE3.under hop4
     go_wp2_with fail
     refine hK.out _ _ (hdwE4) (fun hHeld => ?_)
     clear hK K
     try simp only[Act.put,sa,s0,s1]
     refine uq 5 qf54_10_3_5 13 hHeld ?_
     refine uq 6 qf54_10_3_6 19 hHeld ?_
     refine uq 7 qf54_10_3_7 20 hHeld ?_
     refine ar1 8 qf54_10_3_8 fun K hK => ?_
     ·go_simp
      obtain ⟨wE8, hq8⟩ : ∃ q, q = wE4.alloc (.cells #[.slice none 0 0, .slice none 0 0, .slice none 0 0, .int .i64 0] 34) := ⟨_, rfl⟩
      have hop8 : Below wE4.heap.size wE4 wE8 := by rw [hq8]; exact (Below.refl _ _).alloc (Nat.le_refl _) _
      have hdwE8 := hdwE4.under hop8
      obtain ⟨g8, HG8⟩ : ∃ z, Hid (z = wE4.heap.size) := ⟨_, Hid.mk rfl⟩
      have HB8 : Hid (Bw wE8 g8 34 [.slice none 0 0, .slice none 0 0, .slice none 0 0, .int .i64 0]) := by unfold Hid; rw [HG8.out, hq8]; exact Bw.new _ _ _
      have hgp2 : w2.heap.size ≤ g8 := by rw [HG8.out]; exact Nat.le_trans hbS.size (Below.size (show Below wS.heap.size wS wE4 from bthen (bthen (bthen (Below.refl _ _) hop2) hop3) hop4))
      have hgp : w.heap.size + 3 ≤ g8 := by have := hr2.lt; omega
      rw [← HG8.out]
      rw [← hq8]
      clear hq8
      refine hK.out _ _ (hdwE8) (fun hHeld => ?_)
      clear hK K
      try simp only[Act.put,sa,s0,s1]
      refine ar1 9 qf54_10_3_9 fun K hK => ?_
      ·skip
       have hb8 := HB8.out.under (show Below wE8.heap.size wE8 wE8 from Below.refl _ _)
       obtain ⟨s0, sf0, s1, sf1, s2, sf2, s3, sf3⟩ := hb8.c8
       have hl8 := hb8.lt
       go_simp
       obtain ⟨wE9, hq9⟩ : ∃ q, q = ((((wE8.setCell ⟨g8, 0, none⟩ (.slice z0 d5.fInodes.length zp0)).setCell ⟨g8, 1, none⟩ (.slice z1 d5.fNames.length zp1)).setCell ⟨g8, 2, none⟩ (.slice z2 d5.fSafe.length zp2)).setCell ⟨g8, 3, none⟩ (.int .i64 d5.fNext)) := ⟨_, rfl⟩
       have hT9 : Turn [g8] wE8 wE9 := by rw [hq9]; exact turn4 _ _ _ _ _ _
       have hbx : Bw wE9 g8 34 [.slice z0 d5.fInodes.length zp0, .slice z1 d5.fNames.length zp1, .slice z2 d5.fSafe.length zp2, .int .i64 d5.fNext] := by rw [hq9]; exact hb8.put4 rfl _ _ _ _
       have hdwE9 : B2 wE9 w.heap.size [.slice a0 m.fInodes.length c0, .slice a1 m.fNames.length c1, .slice a2 m.fSafe.length c2, .int .i64 m.fNext] [.int .i64 M.fNext, .int .i64 M.fLog, .slice t2 M.fTables.length k2] := hdwE8.turn hT9 (by simp; omega) (by simp; omega)
       have hfp := (show Below wS.heap.size wS wE8 from bthen (bthen (bthen (bthen (Below.refl _ _) hop2) hop3) hop4) hop8)
       have hpS := (show Below wE4.heap.size wE4 wE8 from bthen (Below.refl _ _) hop8)
       have hgo := (show Below wE8.heap.size wE8 wE8 from Below.refl _ _)
       rw [← hq9]
       clear hq9 hb8 s0 s1 s2 s3 sf0 sf1 sf2 sf3
       refine hK.out _ _ (hdwE9) (fun hHeld => ?_)
       clear hK K
       try simp only[Act.put,sa,s0,s1]
       refine uq 10 qf54_10_3_10 7 hHeld ?_
       refine wpAnyH_done (by kernel_rfl) ?_ _
       have hbp := bthen hbS hfp
       have hbp2 := bthen hb2 hbp
       have hgne : ∀ b, b ∈ E0 ++ E1 ++ E2 ++ [] → b ≠ g8 := fun b hb h => by have h1 := hge5 b hb; have h2 := oDisk_good.lt ho5 b hb; have h3 := HB8.out.lt; have h4 := HG8.out; have h5 := hop2.size; have h6 := hop3.size; have h7 := hop8.size; omega
       have ho59 : oDisk wE9 [.slice z0 d5.fInodes.length zp0, .slice z1 d5.fNames.length zp1, .slice z2 d5.fSafe.length zp2, .int .i64 d5.fNext] d5 (E0 ++ E1 ++ E2 ++ []) := oDisk_good.frame (oDisk_good.frame ho5 (fun b hb => hpS.block b (oDisk_good.lt ho5 b hb))) (fun b hb => hT9.block b (by have := oDisk_good.lt ho5 b hb; have := hpS.size; omega) (by intro h; simp at h; exact hgne b hb h))
       exact ⟨rfl, _, _, _, _, _, _, _, _, _, _, _, _, _, _, _, _, _, _, _, _, _, g8, _, _, _, _, _, _, _, rfl, hgp, hbx, ho59, hN5, (fun b hb => ⟨by have h1 := hge5 b hb; have h2 := hb5S; have h3 := hr2.lt; omega, hgne b hb⟩), hdwE9.1, (hr2.under hbp).turn hT9 (by simp; omega), hbp2.trans (hT9.below (fun k hk => by simp at hk; omega) hbp2.size)⟩
    ·go_simp
     obtain ⟨wE8, hq8⟩ : ∃ q, q = wE3.alloc (.cells #[.slice none 0 0, .slice none 0 0, .slice none 0 0, .int .i64 0] 34) := ⟨_, rfl⟩
     have hop8 : Below wE3.heap.size wE3 wE8 := by rw [hq8]; exact (Below.refl _ _).alloc (Nat.le_refl _) _
     have hdwE8 := hdwE3.under hop8
     obtain ⟨g8, HG8⟩ : ∃ z, Hid (z = wE3.heap.size) := ⟨_, Hid.mk rfl⟩
     have HB8 : Hid (Bw wE8 g8 34 [.slice none 0 0, .slice none 0 0, .slice none 0 0, .int .i64 0]) := by unfold Hid; rw [HG8.out, hq8]; exact Bw.new _ _ _
     have hgp2 : w2.heap.size ≤ g8 := by rw [HG8.out]; exact Nat.le_trans hbS.size (Below.size (show Below wS.heap.size wS wE3 from bthen (bthen (Below.refl _ _) hop2) hop3))
     have hgp : w.heap.size + 3 ≤ g8 := by have := hr2.lt; omega
     rw [← HG8.out]
     rw [← hq8]
     clear hq8
     refine hK.out _ _ (hdwE8) (fun hHeld => ?_)
     clear hK K
     try simp only[Act.put,sa,s0,s1]
     refine ar1 4 qf54_10_3_4 fun K hK => ?_
     ·go_simp
      have hfw4 := (show Below wS.heap.size wS wE8 from bthen (bthen (bthen (Below.refl _ _) hop2) hop3) hop8)
      have hfw3 := (show Below wE3.heap.size wE3 wE8 from bthen (Below.refl _ _) hop8)
      have hb5S : w2.heap.size ≤ wE8.heap.size := Nat.le_trans hbS.size hfw4.size
      refine Calls.mono (switch_any _ m newN _ (manB M) curN wE8 (rDisk_good.mono (rDisk_good.below HR.out (bthen hbwS hfw4)) (bthen hbwS hfw4).size) HW.out (by decide) (by decide) ((hrd3.below hfw3).mono hfw3.size) hlB) ?_
      rw [← HR5.out]
      rintro e wE4 ⟨cs5, F5, rfl, ho5, hN5, hge5, hx5⟩
      dsimp only at ho5
      obtain ⟨z0, zp0, z1, zp1, z2, zp2, E0, E1, E2, rfl, _, _, _, _, rfl⟩ := oDisk_cells ho5
      have hop4 : Below wE8.heap.size wE8 wE4 := hx5
      have hdwE4 := hdwE8.under hop4
      go_wp2_with fail
      refine hK.out _ _ (hdwE4) (fun hHeld => ?_)
      clear hK K
      try simp only[Act.put,sa,s0,s1]
      refine uq 5 qf54_10_3_5 13 hHeld ?_
      refine uq 6 qf54_10_3_6 19 hHeld ?_
      refine uq 7 qf54_10_3_7 20 hHeld ?_
      refine ar1 9 qf54_10_3_9 fun K hK => ?_
      ·skip
       have hb8 := HB8.out.under (show Below wE8.heap.size wE8 wE4 from bthen (Below.refl _ _) hop4)
       obtain ⟨s0, sf0, s1, sf1, s2, sf2, s3, sf3⟩ := hb8.c8
       have hl8 := hb8.lt
       go_simp
       obtain ⟨wE9, hq9⟩ : ∃ q, q = ((((wE4.setCell ⟨g8, 0, none⟩ (.slice z0 d5.fInodes.length zp0)).setCell ⟨g8, 1, none⟩ (.slice z1 d5.fNames.length zp1)).setCell ⟨g8, 2, none⟩ (.slice z2 d5.fSafe.length zp2)).setCell ⟨g8, 3, none⟩ (.int .i64 d5.fNext)) := ⟨_, rfl⟩
       have hT9 : Turn [g8] wE4 wE9 := by rw [hq9]; exact turn4 _ _ _ _ _ _
       have hbx : Bw wE9 g8 34 [.slice z0 d5.fInodes.length zp0, .slice z1 d5.fNames.length zp1, .slice z2 d5.fSafe.length zp2, .int .i64 d5.fNext] := by rw [hq9]; exact hb8.put4 rfl _ _ _ _
       have hdwE9 : B2 wE9 w.heap.size [.slice a0 m.fInodes.length c0, .slice a1 m.fNames.length c1, .slice a2 m.fSafe.length c2, .int .i64 m.fNext] [.int .i64 M.fNext, .int .i64 M.fLog, .slice t2 M.fTables.length k2] := hdwE4.turn hT9 (by simp; omega) (by simp; omega)
       have hfp := (show Below wS.heap.size wS wE4 from bthen (bthen (bthen (bthen (Below.refl _ _) hop2) hop3) hop8) hop4)
       have hpS := (show Below wE4.heap.size wE4 wE4 from Below.refl _ _)
       have hgo := (show Below wE8.heap.size wE8 wE4 from bthen (Below.refl _ _) hop4)
       rw [← hq9]
       clear hq9 hb8 s0 s1 s2 s3 sf0 sf1 sf2 sf3
       refine hK.out _ _ (hdwE9) (fun hHeld => ?_)
       clear hK K
       try simp only[Act.put,sa,s0,s1]
       refine uq 10 qf54_10_3_10 7 hHeld ?_
       refine wpAnyH_done (by kernel_rfl) ?_ _
       have hbp := bthen hbS hfp
       have hbp2 := bthen hb2 hbp
       have hgne : ∀ b, b ∈ E0 ++ E1 ++ E2 ++ [] → b ≠ g8 := fun b hb h => by have h1 := hge5 b hb; have h2 := oDisk_good.lt ho5 b hb; have h3 := HB8.out.lt; have h4 := HG8.out; have h5 := hop2.size; have h6 := hop3.size; have h7 := hop8.size; omega
       have ho59 : oDisk wE9 [.slice z0 d5.fInodes.length zp0, .slice z1 d5.fNames.length zp1, .slice z2 d5.fSafe.length zp2, .int .i64 d5.fNext] d5 (E0 ++ E1 ++ E2 ++ []) := oDisk_good.frame (oDisk_good.frame ho5 (fun b hb => hpS.block b (oDisk_good.lt ho5 b hb))) (fun b hb => hT9.block b (by have := oDisk_good.lt ho5 b hb; have := hpS.size; omega) (by intro h; simp at h; exact hgne b hb h))
       exact ⟨rfl, _, _, _, _, _, _, _, _, _, _, _, _, _, _, _, _, _, _, _, _, _, g8, _, _, _, _, _, _, _, rfl, hgp, hbx, ho59, hN5, (fun b hb => ⟨by have h1 := hge5 b hb; have h2 := hb5S; have h3 := hr2.lt; omega, hgne b hb⟩), hdwE9.1, (hr2.under hbp).turn hT9 (by simp; omega), hbp2.trans (hT9.below (fun k hk => by simp at hk; omega) hbp2.size)⟩
   ·go_simp
    obtain ⟨wE8, hq8⟩ : ∃ q, q = wE2.alloc (.cells #[.slice none 0 0, .slice none 0 0, .slice none 0 0, .int .i64 0] 34) := ⟨_, rfl⟩
    have hop8 : Below wE2.heap.size wE2 wE8 := by rw [hq8]; exact (Below.refl _ _).alloc (Nat.le_refl _) _
    have hdwE8 := hdwE2.under hop8
    obtain ⟨g8, HG8⟩ : ∃ z, Hid (z = wE2.heap.size) := ⟨_, Hid.mk rfl⟩
    have HB8 : Hid (Bw wE8 g8 34 [.slice none 0 0, .slice none 0 0, .slice none 0 0, .int .i64 0]) := by unfold Hid; rw [HG8.out, hq8]; exact Bw.new _ _ _
    have hgp2 : w2.heap.size ≤ g8 := by rw [HG8.out]; exact Nat.le_trans hbS.size (Below.size (show Below wS.heap.size wS wE2 from bthen (Below.refl _ _) hop2))
    have hgp : w.heap.size + 3 ≤ g8 := by have := hr2.lt; omega
    rw [← HG8.out]
    rw [← hq8]
    clear hq8
    refine hK.out _ _ (hdwE8) (fun hHeld => ?_)
    clear hK K
    try simp only[Act.put,sa,s0,s1]
    refine ar1 3 qf54_10_3_3 fun K hK => ?_
    ·skip
     obtain ⟨wE3, cap3, hcv3, hx3e, hrd3⟩ := strRdB (manTextP M) wE8 hlT
     have hop3 : Below wE8.heap.size wE8 wE3 := hx3e
     have hdwE3 := hdwE8.under hop3
     go_simp
     refine hK.out _ _ (hdwE3) (fun hHeld => ?_)
     clear hK K
     try simp only[Act.put,sa,s0,s1]
     refine ar1 4 qf54_10_3_4 fun K hK => ?_
     ·go_simp
      have hfw4 := (show Below wS.heap.size wS wE3 from bthen (bthen (bthen (Below.refl _ _) hop2) hop8) hop3)
      have hfw3 := (show Below wE3.heap.size wE3 wE3 from Below.refl _ _)
      have hb5S : w2.heap.size ≤ wE3.heap.size := Nat.le_trans hbS.size hfw4.size
      refine Calls.mono (switch_any _ m newN _ (manB M) curN wE3 (rDisk_good.mono (rDisk_good.below HR.out (bthen hbwS hfw4)) (bthen hbwS hfw4).size) HW.out (by decide) (by decide) ((hrd3.below hfw3).mono hfw3.size) hlB) ?_
      rw [← HR5.out]
      rintro e wE4 ⟨cs5, F5, rfl, ho5, hN5, hge5, hx5⟩
      dsimp only at ho5
      obtain ⟨z0, zp0, z1, zp1, z2, zp2, E0, E1, E2, rfl, _, _, _, _, rfl⟩ := oDisk_cells ho5
      have hop4 : Below wE3.heap.size wE3 wE4 := hx5
      have hdwE4 := hdwE3.under hop4
      go_wp2_with fail
      refine hK.out _ _ (hdwE4) (fun hHeld => ?_)
      clear hK K
      try simp only[Act.put,sa,s0,s1]
      refine uq 5 qf54_10_3_5 13 hHeld ?_
      refine uq 6 qf54_10_3_6 19 hHeld ?_
      refine uq 7 qf54_10_3_7 20 hHeld ?_
      refine ar1 9 qf54_10_3_9 fun K hK => ?_
      ·skip
       have hb8 := HB8.out.under (show Below wE8.heap.size wE8 wE4 from bthen (bthen (Below.refl _ _) hop3) hop4)
       obtain ⟨s0, sf0, s1, sf1, s2, sf2, s3, sf3⟩ := hb8.c8
       have hl8 := hb8.lt
       go_simp
       obtain ⟨wE9, hq9⟩ : ∃ q, q = ((((wE4.setCell ⟨g8, 0, none⟩ (.slice z0 d5.fInodes.length zp0)).setCell ⟨g8, 1, none⟩ (.slice z1 d5.fNames.length zp1)).setCell ⟨g8, 2, none⟩ (.slice z2 d5.fSafe.length zp2)).setCell ⟨g8, 3, none⟩ (.int .i64 d5.fNext)) := ⟨_, rfl⟩
       have hT9 : Turn [g8] wE4 wE9 := by rw [hq9]; exact turn4 _ _ _ _ _ _
       have hbx : Bw wE9 g8 34 [.slice z0 d5.fInodes.length zp0, .slice z1 d5.fNames.length zp1, .slice z2 d5.fSafe.length zp2, .int .i64 d5.fNext] := by rw [hq9]; exact hb8.put4 rfl _ _ _ _
       have hdwE9 : B2 wE9 w.heap.size [.slice a0 m.fInodes.length c0, .slice a1 m.fNames.length c1, .slice a2 m.fSafe.length c2, .int .i64 m.fNext] [.int .i64 M.fNext, .int .i64 M.fLog, .slice t2 M.fTables.length k2] := hdwE4.turn hT9 (by simp; omega) (by simp; omega)
       have hfp := (show Below wS.heap.size wS wE4 from bthen (bthen (bthen (bthen (Below.refl _ _) hop2) hop8) hop3) hop4)
       have hpS := (show Below wE4.heap.size wE4 wE4 from Below.refl _ _)
       have hgo := (show Below wE8.heap.size wE8 wE4 from bthen (bthen (Below.refl _ _) hop3) hop4)
       rw [← hq9]
       clear hq9 hb8 s0 s1 s2 s3 sf0 sf1 sf2 sf3
       refine hK.out _ _ (hdwE9) (fun hHeld => ?_)
       clear hK K
       try simp only[Act.put,sa,s0,s1]
       refine uq 10 qf54_10_3_10 7 hHeld ?_
       refine wpAnyH_done (by kernel_rfl) ?_ _
       have hbp := bthen hbS hfp
       have hbp2 := bthen hb2 hbp
       have hgne : ∀ b, b ∈ E0 ++ E1 ++ E2 ++ [] → b ≠ g8 := fun b hb h => by have h1 := hge5 b hb; have h2 := oDisk_good.lt ho5 b hb; have h3 := HB8.out.lt; have h4 := HG8.out; have h5 := hop2.size; have h6 := hop3.size; have h7 := hop8.size; omega
       have ho59 : oDisk wE9 [.slice z0 d5.fInodes.length zp0, .slice z1 d5.fNames.length zp1, .slice z2 d5.fSafe.length zp2, .int .i64 d5.fNext] d5 (E0 ++ E1 ++ E2 ++ []) := oDisk_good.frame (oDisk_good.frame ho5 (fun b hb => hpS.block b (oDisk_good.lt ho5 b hb))) (fun b hb => hT9.block b (by have := oDisk_good.lt ho5 b hb; have := hpS.size; omega) (by intro h; simp at h; exact hgne b hb h))
       exact ⟨rfl, _, _, _, _, _, _, _, _, _, _, _, _, _, _, _, _, _, _, _, _, _, g8, _, _, _, _, _, _, _, rfl, hgp, hbx, ho59, hN5, (fun b hb => ⟨by have h1 := hge5 b hb; have h2 := hb5S; have h3 := hr2.lt; omega, hgne b hb⟩), hdwE9.1, (hr2.under hbp).turn hT9 (by simp; omega), hbp2.trans (hT9.below (fun k hk => by simp at hk; omega) hbp2.size)⟩
  ·go_simp
   obtain ⟨wE8, hq8⟩ : ∃ q, q = wS.alloc (.cells #[.slice none 0 0, .slice none 0 0, .slice none 0 0, .int .i64 0] 34) := ⟨_, rfl⟩
   have hop8 : Below wS.heap.size wS wE8 := by rw [hq8]; exact (Below.refl _ _).alloc (Nat.le_refl _) _
   have hdwE8 := hdwS.under hop8
   obtain ⟨g8, HG8⟩ : ∃ z, Hid (z = wS.heap.size) := ⟨_, Hid.mk rfl⟩
   have HB8 : Hid (Bw wE8 g8 34 [.slice none 0 0, .slice none 0 0, .slice none 0 0, .int .i64 0]) := by unfold Hid; rw [HG8.out, hq8]; exact Bw.new _ _ _
   have hgp2 : w2.heap.size ≤ g8 := by rw [HG8.out]; exact Nat.le_trans hbS.size (Below.size (show Below wS.heap.size wS wS from Below.refl _ _))
   have hgp : w.heap.size + 3 ≤ g8 := by have := hr2.lt; omega
   rw [← HG8.out]
   rw [← hq8]
   clear hq8
   refine hK.out _ _ (hdwE8) (fun hHeld => ?_)
   clear hK K
   try simp only[Act.put,sa,s0,s1]
   refine ar1 2 qf54_10_3_2 fun K hK => ?_
   ·go_simp
    have hfw2 := (show Below wS.heap.size wS wE8 from bthen (Below.refl _ _) hop8)
    refine Calls.mono (implManText_c _ M wE8 (rManifest_good.mono (rManifest_good.below HRM.out (bthen hbwS hfw2)) (bthen hbwS hfw2).size) HWM.out (HPW.out.below (bthen hbwS hfw2))) ?_
    rintro e wE2 ⟨rfl, hx2e⟩
    have hop2 : Below wE8.heap.size wE8 wE2 := hx2e
    have hdwE2 := hdwE8.under hop2
    go_wp2_with fail
    refine hK.out _ _ (hdwE2) (fun hHeld => ?_)
    clear hK K
    try simp only[Act.put,sa,s0,s1]
    refine ar1 3 qf54_10_3_3 fun K hK => ?_
    ·skip
     obtain ⟨wE3, cap3, hcv3, hx3e, hrd3⟩ := strRdB (manTextP M) wE2 hlT
     have hop3 : Below wE2.heap.size wE2 wE3 := hx3e
     have hdwE3 := hdwE2.under hop3
     go_simp
     refine hK.out _ _ (hdwE3) (fun hHeld => ?_)
     clear hK K
     try simp only[Act.put,sa,s0,s1]
     refine ar1 4 qf54_10_3_4 fun K hK => ?_
     ·go_simp
      have hfw4 := (show Below wS.heap.size wS wE3 from bthen (bthen (bthen (Below.refl _ _) hop8) hop2) hop3)
      have hfw3 := (show Below wE3.heap.size wE3 wE3 from Below.refl _ _)
      have hb5S : w2.heap.size ≤ wE3.heap.size := Nat.le_trans hbS.size hfw4.size
      refine Calls.mono (switch_any _ m newN _ (manB M) curN wE3 (rDisk_good.mono (rDisk_good.below HR.out (bthen hbwS hfw4)) (bthen hbwS hfw4).size) HW.out (by decide) (by decide) ((hrd3.below hfw3).mono hfw3.size) hlB) ?_
      rw [← HR5.out]
      rintro e wE4 ⟨cs5, F5, rfl, ho5, hN5, hge5, hx5⟩
      dsimp only at ho5
      obtain ⟨z0, zp0, z1, zp1, z2, zp2, E0, E1, E2, rfl, _, _, _, _, rfl⟩ := oDisk_cells ho5
      have hop4 : Below wE3.heap.size wE3 wE4 := hx5
      have hdwE4 := hdwE3.under hop4
      go_wp2_with fail
      refine hK.out _ _ (hdwE4) (fun hHeld => ?_)
      clear hK K
      try simp only[Act.put,sa,s0,s1]
      refine uq 5 qf54_10_3_5 13 hHeld ?_
      refine uq 6 qf54_10_3_6 19 hHeld ?_
      refine uq 7 qf54_10_3_7 20 hHeld ?_
      refine ar1 9 qf54_10_3_9 fun K hK => ?_
      ·skip
       have hb8 := HB8.out.under (show Below wE8.heap.size wE8 wE4 from bthen (bthen (bthen (Below.refl _ _) hop2) hop3) hop4)
       obtain ⟨s0, sf0, s1, sf1, s2, sf2, s3, sf3⟩ := hb8.c8
       have hl8 := hb8.lt
       go_simp
       obtain ⟨wE9, hq9⟩ : ∃ q, q = ((((wE4.setCell ⟨g8, 0, none⟩ (.slice z0 d5.fInodes.length zp0)).setCell ⟨g8, 1, none⟩ (.slice z1 d5.fNames.length zp1)).setCell ⟨g8, 2, none⟩ (.slice z2 d5.fSafe.length zp2)).setCell ⟨g8, 3, none⟩ (.int .i64 d5.fNext)) := ⟨_, rfl⟩
       have hT9 : Turn [g8] wE4 wE9 := by rw [hq9]; exact turn4 _ _ _ _ _ _
       have hbx : Bw wE9 g8 34 [.slice z0 d5.fInodes.length zp0, .slice z1 d5.fNames.length zp1, .slice z2 d5.fSafe.length zp2, .int .i64 d5.fNext] := by rw [hq9]; exact hb8.put4 rfl _ _ _ _
       have hdwE9 : B2 wE9 w.heap.size [.slice a0 m.fInodes.length c0, .slice a1 m.fNames.length c1, .slice a2 m.fSafe.length c2, .int .i64 m.fNext] [.int .i64 M.fNext, .int .i64 M.fLog, .slice t2 M.fTables.length k2] := hdwE4.turn hT9 (by simp; omega) (by simp; omega)
       have hfp := (show Below wS.heap.size wS wE4 from bthen (bthen (bthen (bthen (Below.refl _ _) hop8) hop2) hop3) hop4)
       have hpS := (show Below wE4.heap.size wE4 wE4 from Below.refl _ _)
       have hgo := (show Below wE8.heap.size wE8 wE4 from bthen (bthen (bthen (Below.refl _ _) hop2) hop3) hop4)
       rw [← hq9]
       clear hq9 hb8 s0 s1 s2 s3 sf0 sf1 sf2 sf3
       refine hK.out _ _ (hdwE9) (fun hHeld => ?_)
       clear hK K
       try simp only[Act.put,sa,s0,s1]
       refine uq 10 qf54_10_3_10 7 hHeld ?_
       refine wpAnyH_done (by kernel_rfl) ?_ _
       have hbp := bthen hbS hfp
       have hbp2 := bthen hb2 hbp
       have hgne : ∀ b, b ∈ E0 ++ E1 ++ E2 ++ [] → b ≠ g8 := fun b hb h => by have h1 := hge5 b hb; have h2 := oDisk_good.lt ho5 b hb; have h3 := HB8.out.lt; have h4 := HG8.out; have h5 := hop2.size; have h6 := hop3.size; have h7 := hop8.size; omega
       have ho59 : oDisk wE9 [.slice z0 d5.fInodes.length zp0, .slice z1 d5.fNames.length zp1, .slice z2 d5.fSafe.length zp2, .int .i64 d5.fNext] d5 (E0 ++ E1 ++ E2 ++ []) := oDisk_good.frame (oDisk_good.frame ho5 (fun b hb => hpS.block b (oDisk_good.lt ho5 b hb))) (fun b hb => hT9.block b (by have := oDisk_good.lt ho5 b hb; have := hpS.size; omega) (by intro h; simp at h; exact hgne b hb h))
       exact ⟨rfl, _, _, _, _, _, _, _, _, _, _, _, _, _, _, _, _, _, _, _, _, _, g8, _, _, _, _, _, _, _, rfl, hgp, hbx, ho59, hN5, (fun b hb => ⟨by have h1 := hge5 b hb; have h2 := hb5S; have h3 := hr2.lt; omega, hgne b hb⟩), hdwE9.1, (hr2.under hbp).turn hT9 (by simp; omega), hbp2.trans (hT9.below (fun k hk => by simp at hk; omega) hbp2.size)⟩
 case mono =>
  rintro e a' wJ ⟨rfl, y0, y1, y8, y9, y10, y11, y12, y13, y14, y15, y16, y17, y18, y19, y20, y21, y22, y23, y24, y25, y26, g, z0, z1, z2, zp0, zp1, zp2, F5, rfl, hg, hbx, ho5, hN5, hgF5, hdJ, hrJ, hBJ⟩
  have hxl := hbx.lt
  have hdlJ := hdJ.lt
  have hrl := hrJ.lt
  clear p0 p1 p2 p3 r0 r1 r2
  by_cases hcz : c5 = 0
  rotate_left
  ·have HRES : Hid (instR m M = (m, c5)) := HBAD.out hcz
   have hcd : decide (c5 = 0) = false := decide_eq_false hcz
   have hdl := (hdJ).lt
   obtain ⟨x0, x1, x2, x3⟩ := hdJ.c4
   go_wp2_with fail
   refine (copyDisk_any _ m wJ (rDisk_good.mono (rDisk_good.below HR.out (hBJ)) (hBJ).size) HW.out).mono ?_
   rintro e w7 ⟨cs7, F7, rfl, ho7, hN7, hge7, hx7⟩
   obtain ⟨q0, qp0, q1, qp1, q2, qp2, E0, E1, E2, rfl, _, _, _, _, rfl⟩ := oDisk_cells ho7
   have hr7 := (hrJ).under hx7
   have hz7 := hx7.size
   have hzz := (hrJ).lt
   have hgF : ∀ b, b ∈ E0 ++ E1 ++ E2 ++ [] → w.heap.size + 3 ≤ b := fun b hb => by have := hge7 b hb; omega
   have HGF := Hid.mk hgF
   have HNF := Hid.mk hN7
   obtain ⟨u0, uf0, u1, uf1, u2, uf2, u3, uf3⟩ := hr7.c8
   have hul := hr7.lt
   have hT := turn4 w7 (w.heap.size + 1 + 1) (.slice q0 m.fInodes.length qp0) (.slice q1 m.fNames.length qp1) (.slice q2 m.fSafe.length qp2) (.int .i64 m.fNext)
   have HBF : Hid (Below w.heap.size w ((((w7.setCell ⟨w.heap.size + 1 + 1, 0, none⟩ (.slice q0 m.fInodes.length qp0)).setCell ⟨w.heap.size + 1 + 1, 1, none⟩ (.slice q1 m.fNames.length qp1)).setCell ⟨w.heap.size + 1 + 1, 2, none⟩ (.slice q2 m.fSafe.length qp2)).setCell ⟨w.heap.size + 1 + 1, 3, none⟩ (.int .i64 m.fNext))) := (bthen (hBJ) hx7).trans (hT.below (fun k hk => by simp at hk; omega) (bthen (hBJ) hx7).size)
   have HOF : Hid (oDisk ((((w7.setCell ⟨w.heap.size + 1 + 1, 0, none⟩ (.slice q0 m.fInodes.length qp0)).setCell ⟨w.heap.size + 1 + 1, 1, none⟩ (.slice q1 m.fNames.length qp1)).setCell ⟨w.heap.size + 1 + 1, 2, none⟩ (.slice q2 m.fSafe.length qp2)).setCell ⟨w.heap.size + 1 + 1, 3, none⟩ (.int .i64 m.fNext)) [.slice q0 m.fInodes.length qp0, .slice q1 m.fNames.length qp1, .slice q2 m.fSafe.length qp2, .int .i64 m.fNext] m _) := oDisk_good.frame ho7 (fun b hb => hT.block b (oDisk_good.lt ho7 b hb) (by intro h; simp at h; have := hgF b hb; omega))
   clear hT
   go_wp2_with fail
   refine bodyPost_ret (v := .tuple #[.agg #[.slice q0 m.fInodes.length qp0, .slice q1 m.fNames.length qp1, .slice q2 m.fSafe.length qp2, .int .i64 m.fNext], .int .i64 c5]) (by simp [results, Tryz.results10, go_sem, *]) rfl ?_
   exact ⟨[.slice q0 m.fInodes.length qp0, .slice q1 m.fNames.length qp1, .slice q2 m.fSafe.length qp2, .int .i64 m.fNext], E0 ++ E1 ++ E2 ++ [], by rw [show instC m M = c5 from congrArg (fun r => r.2) HRES.out], by rw [show instD m M = m from congrArg (fun r => r.1) HRES.out]; exact HOF.out, HNF.out, (fun b hb => by have := HGF.out b hb; omega), HBF.out⟩
  ·have HRES : Hid (instR m M = (d5, 0)) := HGOOD.out hcz
   subst hcz
   obtain ⟨u0, uf0, u1, uf1, u2, uf2, u3, uf3⟩ := hrJ.c8
   obtain ⟨b0, bf0, b1, bf1, b2, bf2, b3, bf3⟩ := hbx.c8
   have hgF : ∀ b, b ∈ F5 → w.heap.size + 3 ≤ b := fun b hb => (hgF5 b hb).1
   have HGF := Hid.mk hgF
   have HNF := Hid.mk hN5
   have hT := turn4 wJ (w.heap.size + 1 + 1) (.slice z0 d5.fInodes.length zp0) (.slice z1 d5.fNames.length zp1) (.slice z2 d5.fSafe.length zp2) (.int .i64 d5.fNext)
   have HBF : Hid (Below w.heap.size w ((((wJ.setCell ⟨w.heap.size + 1 + 1, 0, none⟩ (.slice z0 d5.fInodes.length zp0)).setCell ⟨w.heap.size + 1 + 1, 1, none⟩ (.slice z1 d5.fNames.length zp1)).setCell ⟨w.heap.size + 1 + 1, 2, none⟩ (.slice z2 d5.fSafe.length zp2)).setCell ⟨w.heap.size + 1 + 1, 3, none⟩ (.int .i64 d5.fNext))) := (hBJ).trans (hT.below (fun k hk => by simp at hk; omega) (hBJ).size)
   have HOF : Hid (oDisk ((((wJ.setCell ⟨w.heap.size + 1 + 1, 0, none⟩ (.slice z0 d5.fInodes.length zp0)).setCell ⟨w.heap.size + 1 + 1, 1, none⟩ (.slice z1 d5.fNames.length zp1)).setCell ⟨w.heap.size + 1 + 1, 2, none⟩ (.slice z2 d5.fSafe.length zp2)).setCell ⟨w.heap.size + 1 + 1, 3, none⟩ (.int .i64 d5.fNext)) [.slice z0 d5.fInodes.length zp0, .slice z1 d5.fNames.length zp1, .slice z2 d5.fSafe.length zp2, .int .i64 d5.fNext] d5 _) := oDisk_good.frame ho5 (fun b hb => hT.block b (oDisk_good.lt ho5 b hb) (by intro h; simp at h; have := hgF b hb; omega))
   clear hT
   go_wp2_with fail
   refine bodyPost_ret (v := .tuple #[.agg #[.slice z0 d5.fInodes.length zp0, .slice z1 d5.fNames.length zp1, .slice z2 d5.fSafe.length zp2, .int .i64 d5.fNext], .int .i64 0]) (by simp [results, Tryz.results10, go_sem, *]) rfl ?_
   exact ⟨[.slice z0 d5.fInodes.length zp0, .slice z1 d5.fNames.length zp1, .slice z2 d5.fSafe.length zp2, .int .i64 d5.fNext], by rw [show instC m M = 0 from congrArg (fun r => r.2) HRES.out], F5, by rw [show instD m M = d5 from congrArg (fun r => r.1) HRES.out]; exact HOF.out, HNF.out, (fun b hb => by have := HGF.out b hb; omega), HBF.out⟩
end Go.Proofs.YtddejboifpepcaaGreatDoor
