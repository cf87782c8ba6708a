/-
  Part 19 of the texts that the proof leans on.
-/
import Derived.Test.YtolciaheoanlbaaGreatDoorPack4
import Derived.Test.YtolciaheoanlbaaGreatDoorPack14
import Derived.Test.YtolciaheoanlbaaGreatDoorPack1
import Derived.Test.YtolciaheoanlbaaGreatDoorPack0
import Derived.Laws.BitsLemmas
import Derived.Laws.BitsAllLaws
import Derived.Test.YtolciaheoanlbaaGreatDoorRows
import Derived.Laws.Bits128

/-
  A file that is made anew and switched at once, plainly: the disk behind each step, and how great it can be.
-/
namespace Go.Proofs.YtolciaheoanlbaaGreatDoor
open Go.RowKit
set_option linter.unusedVariables false
set_option linter.unusedSimpArgs false
theorem ok_small {m : MDisk} (h : diskOk m = true) : wDisk m ≤ 1048576 := by
 have := ok_weight h
 rw [wDisk_eq]
 omega
theorem small_remove {m : MDisk} {s : ByteArray} (h : wDisk m ≤ 1048576) : wDisk (removeP m s) ≤ 1048576 := by
 unfold removeP
 split
 ·rename_i hc
  exact ok_small (remove_ok (call_good hc).1)
 ·exact h
theorem small_create {m : MDisk} {s : ByteArray} (h : wDisk m ≤ 1048576) : wDisk (createP m s) ≤ 1048576 := by
 unfold createP
 split
 ·rename_i hc
  exact ok_small hc.2
 ·exact h
theorem small_append {m : MDisk} {s : ByteArray} {b : List Int} (h : wDisk m ≤ 1048576) : wDisk (appendP m s b) ≤ 1048576 := by
 unfold appendP
 split
 ·rename_i hc
  exact ok_small hc.2
 ·exact h
theorem small_sync {m : MDisk} {s : ByteArray} (h : wDisk m ≤ 1048576) : wDisk (syncP m s) ≤ 1048576 := by
 unfold syncP
 split
 ·have h1 := sumW_updI (l := m.fInodes) (k := fileAt m s) (f := sureI) (c := 0) (fun n => Nat.le_refl _)
  have h2 := updI_length (l := m.fInodes) (k := fileAt m s) (f := sureI)
  rw [wDisk_eq] at h ⊢
  simp only
  omega
 ·exact h
theorem small_rename {m : MDisk} {s t : ByteArray} (h : wDisk m ≤ 1048576) : wDisk (renameP m s t) ≤ 1048576 := by
 unfold renameP
 split
 ·rename_i hc
  unfold renameC at hc
  split at hc
  ·rename_i ht
   exact ok_small (rename_ok hc ht)
  ·cases hc
 ·exact h
theorem small_syncDir {m : MDisk} (h : wDisk m ≤ 1048576) : wDisk (syncDirP m) ≤ 1048576 := by
 unfold syncDirP
 split
 ·rename_i hc
  exact ok_small (syncDir_ok hc)
 ·exact h
def swD (m : MDisk) (t : ByteArray) (b : List Int) (s : ByteArray) : Nat → MDisk
 | 0 => m
 | 1 => createP m t
 | 2 => appendP (createP m t) t b
 | 3 => syncP (appendP (createP m t) t b) t
 | 4 => renameP (syncP (appendP (createP m t) t b) t) t s
 | _ => syncDirP (renameP (syncP (appendP (createP m t) t b) t) t s)
def swC (m : MDisk) (t : ByteArray) (b : List Int) (s : ByteArray) : Nat → Int
 | 0 => createC m t
 | 1 => appendC (createP m t) t b
 | 2 => callP (appendP (createP m t) t b) t
 | 3 => renameC (syncP (appendP (createP m t) t b) t) t s
 | _ => syncDirC (renameP (syncP (appendP (createP m t) t b) t) t s)
theorem swD_small {m : MDisk} {t : ByteArray} {b : List Int} {s : ByteArray} (h : wDisk m ≤ 1048576) (k : Nat) : wDisk (swD m t b s k) ≤ 1048576 := by
 match k with
 | 0 => exact h
 | 1 => exact small_create h
 | 2 => exact small_append (small_create h)
 | 3 => exact small_sync (small_append (small_create h))
 | 4 => exact small_rename (small_sync (small_append (small_create h)))
 | _ + 5 => exact small_syncDir (small_rename (small_sync (small_append (small_create h))))
def swR (m : MDisk) (t : ByteArray) (b : List Int) (s : ByteArray) : Nat → Nat → MDisk × Int
 | 0, k => (swD m t b s k, 0)
 | f + 1, k => if swC m t b s k = 0 then swR m t b s f (k + 1) else (swD m t b s (k + 1), swC m t b s k)
def switchP (m : MDisk) (t : ByteArray) (b : List Int) (s : ByteArray) : MDisk × Int := swR (removeP m t) t b s 5 0
theorem swR_small {m : MDisk} {t : ByteArray} {b : List Int} {s : ByteArray} (h : wDisk m ≤ 1048576) : ∀ f k, wDisk (swR m t b s f k).1 ≤ 1048576
 | 0, k => swD_small h k
 | f + 1, k => by
  rw [swR]
  split
  ·exact swR_small h f (k + 1)
  ·exact swD_small h (k + 1)
theorem switch_small {m : MDisk} {t : ByteArray} {b : List Int} {s : ByteArray} (h : wDisk m ≤ 1048576) : wDisk (switchP m t b s).1 ≤ 1048576 := swR_small (small_remove h) 5 0
def SwAt (m : MDisk) (t : ByteArray) (b : List Int) (s : ByteArray) (k : Nat) : Prop := switchP m t b s = swR (removeP m t) t b s (5 - k) k
theorem SwAt.start (m : MDisk) (t : ByteArray) (b : List Int) (s : ByteArray) : SwAt m t b s 0 := rfl
theorem SwAt.on {m : MDisk} {t : ByteArray} {b : List Int} {s : ByteArray} {k : Nat} (h : SwAt m t b s k) (hk : k < 5) (hc : swC (removeP m t) t b s k = 0) : SwAt m t b s (k + 1) := by
 unfold SwAt at h ⊢
 obtain ⟨f, hf⟩ : ∃ f, 5 - k = f + 1 := ⟨4 - k, by omega⟩
 rw [h, hf, swR, if_pos hc]
 congr 1
 omega
theorem SwAt.out {m : MDisk} {t : ByteArray} {b : List Int} {s : ByteArray} {k : Nat} (h : SwAt m t b s k) (hk : k < 5) (hc : swC (removeP m t) t b s k ≠ 0) : switchP m t b s = (swD (removeP m t) t b s (k + 1), swC (removeP m t) t b s k) := by
 unfold SwAt at h
 obtain ⟨f, hf⟩ : ∃ f, 5 - k = f + 1 := ⟨4 - k, by omega⟩
 rw [h, hf, swR, if_neg hc]
theorem SwAt.done {m : MDisk} {t : ByteArray} {b : List Int} {s : ByteArray} (h : SwAt m t b s 5) : switchP m t b s = (swD (removeP m t) t b s 5, 0) := h
theorem remove_none {m : MDisk} {t : ByteArray} (h : hasName m.fNames t = false) : removeP m t = m := by
 unfold removeP
 rw [if_neg]
 intro hc
 rw [(call_good hc).2.2] at h
 cases h
end Go.Proofs.YtolciaheoanlbaaGreatDoor

/-
  Slices of slices of bytes as answers of the exact laws: read, compared, marked, found again.
-/
namespace Go.Proofs.YtolciaheoanlbaaGreatDoor
open Go.RowKit
set_option linter.unusedVariables false
set_option linter.unusedSimpArgs false
set_option maxRecDepth 10000
def rBy : Rep (List Int) := fun B w cs zs => ∃ a c, cs = [.slice a zs.length c] ∧ LeafB B w a c zs
theorem rBy_good : rBy.Good := ⟨fun ⟨a, c, e, h⟩ hb => ⟨a, c, e, h.below hb⟩, fun ⟨a, c, e, h⟩ hB => ⟨a, c, e, LeafB.mono h hB⟩⟩
def oBy : ORep (List Int) := fun w cs zs F => ∃ v, cs = [v] ∧ ownB 5 w v zs F
theorem oBy_good : oBy.Good rBy 1 := by
 refine ⟨?_, ?_, ?_, ?_⟩
 ·rintro w w' cs m F ⟨v, rfl, h⟩ hb
  exact ⟨v, rfl, h.frame hb⟩
 ·rintro w cs m F ⟨v, rfl, h⟩ k hk
  exact h.lt k hk
 ·rintro w cs m F ⟨v, rfl, h⟩
  obtain ⟨a, c, rfl, hl⟩ := h.read
  exact ⟨a, c, rfl, hl⟩
 ·rintro w cs m F ⟨v, rfl, h⟩
  rfl
def rdBs (B : Nat) (w : World) (v : Value) (l : List (List Int)) : Prop := ∃ a c, v = .slice a l.length c ∧ LeafL 1 rBy B w a c l
theorem rdBs.below {B : Nat} {w w' : World} {v : Value} {l : List (List Int)} (h : rdBs B w v l) (hb : Below B w w') : rdBs B w' v l := by
 obtain ⟨a, c, e, h1⟩ := h
 exact ⟨a, c, e, h1.below rBy_good hb⟩
theorem rdBs.mono {B B' : Nat} {w : World} {v : Value} {l : List (List Int)} (h : rdBs B w v l) (hB : B ≤ B') : rdBs B' w v l := by
 obtain ⟨a, c, e, h1⟩ := h
 exact ⟨a, c, e, LeafL.mono rBy_good h1 hB⟩
theorem rdBs_own {e : TypeId} {w : World} {v : Value} {l : List (List Int)} {F : List Nat} (h : ownS 1 e oBy w v l F) : rdBs w.heap.size w v l := ownS.read oBy_good h
def wBs (l : List (List Int)) : Nat := l.length + sumW List.length l
def cntBy (m : List Int) : Nat := m.length
theorem hdB_end (m : List Int) (q q' : Int) (h : hdB m q q') : q' = q + cntBy m := h.2
theorem wBs_mem {l : List (List Int)} {k : Nat} (h : k < l.length) : l[k].length ≤ wBs l := by
 have h1 := sumW_le (f := List.length) h
 unfold wBs
 omega
set_option maxHeartbeats 400000 in
theorem eqByteSS_yes_r (v1 v2 : Value) (l : List (List Int)) (w : World) (h1 : rdBs w.heap.size w v1 l) (h2 : rdBs w.heap.size w v2 l) (hsz : wBs l ≤ 1099511627776) :
  Calls Tryz.prog 12 #[v1, v2] w fun e w' => e = .returned (.bool true) ∧ Below w.heap.size w w' := by
 obtain ⟨a, ca, rfl, ha⟩ := h1
 obtain ⟨b, cb, rfl, hb⟩ := h2
 have hel := fun k (hk : k < l.length) => wBs_mem hk
 have hnl : l.length ≤ 1099511627776 := by unfold wBs at hsz; omega
 obtain ⟨n, hn⟩ : ∃ n, l.length = n := ⟨_, rfl⟩
 have HX := Hid.mk hn
 rw [hn] at hnl ⊢
 clear hn
 replace ha := ha.2.2
 replace hb := hb.2.2
 go_enter Tryz.func12, Tryz.ntmps12
 go_wp2_with fail
 go_loopw [5] (fun i wr => ∃ k : Nat, k ≤ n ∧ i = .int .i64 k ∧ Below w.heap.size w wr) (fun i _ => n - (intOf i).toNat)
 case atStart => exact ⟨0, Nat.zero_le _, rfl, Below.refl _ _⟩
 case round =>
  obtain ⟨k, hk, rfl, hbk⟩ := hrel
  by_cases hlt : k < n
  ·have hkl : k < l.length := by rw [HX.out]; exact hlt
   have hzk := hel k hkl
   obtain ⟨b1, o1, rfl, hB1, cs1, _, hc1, a1, c1, rfl, l1⟩ := (ha.below rBy_good hbk) k hkl
   obtain ⟨b2, o2, rfl, hB2, cs2, _, hc2, a2, c2, rfl, l2⟩ := (hb.below rBy_good hbk) k hkl
   have k1 := hc1 0 _ rfl
   have k2 := hc2 0 _ rfl
   simp only [Nat.mul_one, Nat.add_zero] at k1 k2
   generalize l[k] = m at *
   have l1' := LeafB.mono l1 hbk.size
   have l2' := LeafB.mono l2 hbk.size
   have hC := fun (W : World) (hb : Below wr.heap.size wr W) => eqByteS_yes_r _ _ m W ⟨a1, c1, rfl, LeafB.mono (l1'.below hb) hb.size⟩ ⟨a2, c2, rfl, LeafB.mono (l2'.below hb) hb.size⟩ (by omega)
   clear ha hb hc1 hc2 l1 l2 l1' l2'
   go_wp2_with fail
   go_region_with (go_at_call 43; refine Calls.mono (hC _ (Below.drew (Below.refl _ _))) ?_; rintro e w1 ⟨rfl, hx1⟩)
   all_goals
    go_wp2_with fail
    go_roundw
    case rel => exact ⟨k + 1, by omega, by go_num, hbk.trans ((bthen (Below.drew (Below.refl _ _)) hx1).mono hbk.size)⟩
    case measure => simp [intOf]; omega
  ·go_wp2_with fail
   go_ret
   exact ⟨rfl, hbk⟩
set_option maxHeartbeats 1000000 in
theorem markByteSS_row (g cap n : Nat) (l : List (List Int)) (cur : Array Value) (Fs : List (List Nat)) (q : Int) (w : World) (hx : l.length = n) (hq : 0 ≤ q) (hq2 : q + sumW cntBy l ≤ 70368744177664) (ho : OwnRow 1 62 oBy w g cap l cur Fs) :
  Calls Tryz.prog 14 #[.slice (some ⟨g, 0, none⟩) n cap, .int .i64 q] w fun e w' => e = .returned (.int .i64 (q + sumW cntBy l)) ∧ ∃ l' cur', OwnRow 1 62 oBy w' g cap l' cur' Fs ∧ l'.length = n ∧ hdS hdB l' q (q + sumW cntBy l) ∧ Turn (g :: Fs.flatten) w w' := by
 have HX := Hid.mk hx
 clear hx
 have hcap : n ≤ 9223372036854775807 := by have h1 := ho.le; have h2 := ho.max; have h3 := HX.out; unfold maxLen at h2; omega
 have HO := Hid.mk ho
 clear ho
 go_enter Tryz.func14, Tryz.ntmps14
 go_wp2_with fail
 go_loopw [1, 5] (fun kv i wr => ∃ (k : Nat) (kk : Int) (l' : List (List Int)) (cur' : Array Value), k ≤ n ∧ i = .int .i64 k ∧ kv = .int .i64 kk ∧ kk = q + sumW cntBy (l.take k) ∧ l'.length = k ∧ OwnRow 1 62 oBy wr g cap (l' ++ l.drop k) cur' Fs ∧ hdS hdB l' q kk ∧ Turn (g :: Fs.flatten) w wr) (fun _ i _ => n - (intOf i).toNat)
 case atStart => exact ⟨0, q, [], cur, Nat.zero_le _, rfl, rfl, by simp [sumW], rfl, by simpa using HO.out, rfl, Turn.refl _ _⟩
 case round =>
  obtain ⟨k, kk, l', cur', hk, rfl, rfl, hkk, hl', hok, hh, htk⟩ := hrel
  by_cases hlt : k < n
  ·have hkl : k < l.length := by rw [HX.out]; exact hlt
   have hlen2 : k < (l' ++ l.drop k).length := by rw [List.length_append, hl', List.length_drop]; omega
   have hw1 := sumW_take_succ (f := cntBy) hkl
   have hw2 := sumW_take_le cntBy l (k + 1)
   have hel := hok.each k hlen2
   rw [get_mid hl' hkl hlen2] at hel
   obtain ⟨hgF, hFN⟩ := hok.part hlen2
   have hE0 := Edit.start hok k (Fs.getD k [])
   generalize hcs : seg 1 cur' k = cs at hel hE0
   clear hcs
   have HOE := Hid.mk (fun w' cs' m' he ho => OwnRow.edit (w' := w') (cs := cs') (m' := m') oBy_good hok hlen2 he ho)
   have HS := Hid.mk (fun m' => set_mid hl' hkl m')
   have HH := Hid.mk (fun x q2 hx => hdS_snoc (x := x) (q2 := q2) hh hx)
   have HL' := Hid.mk hl'
   have HT := Hid.mk htk
   generalize hm0 : l[k] = m at *
   generalize Fs.getD k [] = Fk at *
   have HKK := Hid.mk hkk
   have HW1 := Hid.mk hw1
   have hcm : cntBy m = m.length := rfl
   have hlo : 0 ≤ kk := by omega
   have hup : kk + m.length ≤ 70368744177664 := by omega
   clear hm0 hok hh hl' htk hlen2 hkk hw1 hw2 hcm
   obtain ⟨v1, rfl, h1⟩ := hel
   obtain ⟨a1, c1, rfl, _⟩ := h1.read
   have q0 := hE0.cellAt (i := 0) (by omega) rfl
   simp only [Nat.mul_one, Nat.add_zero] at q0
   have hC := markByteS_r _ m Fk kk wr hlo hup h1 hFN
   go_wp2_with fail
   refine Calls.mono hC ?_
   clear hC
   rintro e w1 ⟨m2, q2, rfl, hqa, hqb, hown1, hhd, ht1⟩
   have hE1 := hE0.keep ht1 hgF
   clear q0
   go_wp2_with fail
   go_roundw
   case rel =>
    have hed := HOE.out _ _ m2 hE1 ⟨_, rfl, hown1⟩
    obtain ⟨⟨cur2, hrow2⟩, ht2⟩ := hed
    rw [HS.out] at hrow2
    have hml : m2.length = m.length := by
     obtain ⟨_, _, e1, _⟩ := hown1.read
     simp only [Value.slice.injEq] at e1
     exact e1.2.1.symm
    refine ⟨k + 1, q2, l' ++ [m2], cur2, by omega, by go_num, rfl, ?_, by simp [HL'.out], hrow2, HH.out _ _ hhd, HT.out.trans ht2⟩
    rw [HW1.out]
    have h1 := HKK.out
    have h2 : cntBy m = m.length := rfl
    have h3 := hhd.2
    omega
   case measure => simp [intOf]; omega
  ·have hkn : k = n := by omega
   have HT1 : Hid (l.take k = l) := List.take_of_length_le (by rw [HX.out]; omega)
   have HT2 : Hid (l.drop k = []) := List.drop_of_length_le (by rw [HX.out]; omega)
   rw [HT1.out] at hkk
   rw [HT2.out, List.append_nil] at hok
   have hk2 : 0 ≤ kk := by omega
   subst hkk
   go_wp2_with fail
   go_ret
   exact ⟨rfl, l', cur', hok, by rw [hl', hkn], hh, htk⟩
set_option maxHeartbeats 400000 in
theorem markByteSS_nil (q : Int) (w : World) :
  Calls Tryz.prog 14 #[.slice none 0 0, .int .i64 q] w fun e w' => e = .returned (.int .i64 q) ∧ w' = w := by
 go_enter Tryz.func14, Tryz.ntmps14
 go_wp2
 refine wp_loop_rounds 1 ?_
 rw [rounds_succ]
 go_wp2
 go_ret
 exact ⟨rfl, rfl⟩
theorem markByteSS_r (v : Value) (l : List (List Int)) (F : List Nat) (q : Int) (w : World) (hq : 0 ≤ q) (hq2 : q + sumW cntBy l ≤ 70368744177664) (ho : ownS 1 62 oBy w v l F) (hN : F.Nodup) :
  Calls Tryz.prog 14 #[v, .int .i64 q] w fun e w' => ∃ (m' : List (List Int)) (q' : Int), e = .returned (.int .i64 q') ∧ q ≤ q' ∧ q' ≤ 70368744177664 ∧ ownS 1 62 oBy w' v m' F ∧ hdS hdB m' q q' ∧ Turn F w w' := by
 rcases ho.open hN with ⟨rfl, rfl, rfl⟩ | ⟨g, cap, cur, Fs, rfl, hrow, rfl⟩
 ·refine (markByteSS_nil q w).mono ?_
  rintro e w' ⟨rfl, rfl⟩
  exact ⟨[], q, rfl, by omega, by simpa [sumW] using hq2, ho, rfl, Turn.refl _ _⟩
 ·refine (markByteSS_row g cap _ l cur Fs q w rfl hq hq2 hrow).mono ?_
  rintro e w' ⟨rfl, l', cur', hr', hl', hh, ht⟩
  have h := hr'.shut
  rw [hl'] at h
  exact ⟨l', _, rfl, by omega, hq2, h, hh, ht⟩
set_option maxHeartbeats 1000000 in
theorem heldByteSS_r (v : Value) (l : List (List Int)) (q q' : Int) (w : World) (hr : rdBs w.heap.size w v l) (hh : hdS hdB l q q') (hq : 0 ≤ q) (hq' : q' ≤ 70368744177664) :
  Calls Tryz.prog 16 #[v, .int .i64 q] w fun e w' => e = .returned (.int .i64 q') ∧ Below w.heap.size w w' := by
 obtain ⟨a, cap, rfl, hL⟩ := hr
 obtain ⟨n, hn⟩ : ∃ n, l.length = n := ⟨_, rfl⟩
 have HX := Hid.mk hn
 have hcap : n ≤ 9223372036854775807 := by have h1 := hL.1; have h2 := hL.2.1; omega
 rw [hn]
 clear hn
 replace hL := hL.2.2
 have HH := Hid.mk hh
 clear hh
 go_enter Tryz.func16, Tryz.ntmps16
 go_wp2_with fail
 go_loopw [1, 5] (fun kv i wr => ∃ (k : Nat) (kk : Int), k ≤ n ∧ i = .int .i64 k ∧ kv = .int .i64 kk ∧ 0 ≤ kk ∧ hdS hdB (l.drop k) kk q' ∧ Below w.heap.size w wr) (fun _ i _ => n - (intOf i).toNat)
 case atStart => exact ⟨0, q, Nat.zero_le _, rfl, rfl, hq, by simpa using HH.out, Below.refl _ _⟩
 case round =>
  obtain ⟨k, kk, hk, rfl, rfl, hk0, hh, hbk⟩ := hrel
  by_cases hlt : k < n
  ·have hkl : k < l.length := by rw [HX.out]; exact hlt
   rw [List.drop_eq_getElem_cons hkl] at hh
   obtain ⟨q1, hh1, hh2⟩ := hh
   have hqe := hdS_end hdB_end hh2
   obtain ⟨b1, o1, rfl, hB, cs, _, hcell, a1, c1, rfl, l1⟩ := (hL.below rBy_good hbk) k hkl
   have k0 := hcell 0 _ rfl
   simp only [Nat.mul_one, Nat.add_zero] at k0
   generalize l[k] = m at *
   have hq1 : q1 = kk + m.length := hh1.2
   have hC := heldByteS_r _ m kk q1 wr ⟨a1, c1, rfl, LeafB.mono l1 hbk.size⟩ hh1 hk0 (by omega)
   have HR := Hid.mk hh2
   have hq10 : 0 ≤ q1 := by omega
   clear hh2 hqe HH hL hcell hh1 l1 hq1
   go_wp2_with fail
   refine Calls.mono hC ?_
   rintro e w1 ⟨rfl, hx1⟩
   go_wp2_with fail
   go_roundw
   case rel => exact ⟨k + 1, q1, by omega, by go_num, rfl, hq10, HR.out, hbk.trans (hx1.mono hbk.size)⟩
   case measure => simp [intOf]; omega
  ·have HT2 : Hid (l.drop k = []) := List.drop_of_length_le (by rw [HX.out]; omega)
   rw [HT2.out] at hh
   have hqk : q' = kk := hh
   subst hqk
   go_wp2_with fail
   go_ret
   exact ⟨rfl, hbk⟩
end Go.Proofs.YtolciaheoanlbaaGreatDoor

/-
  Numbers in groups of seven bits, as plain functions on lists of integers: how they are read, two ways of reading that come to one.
-/
namespace Go.Proofs.YtolciaheoanlbaaGreatDoor
theorem BytesOk.getD {zs : List Int} (h : BytesOk zs) (j : Nat) : 0 ≤ zs.getD j 0 ∧ zs.getD j 0 ≤ 255 := by
 rw [List.getD_eq_getElem?_getD]
 by_cases hj : j < zs.length
 ·rw [List.getElem?_eq_getElem hj]
  exact h _ (List.getElem_mem hj)
 ·rw [List.getElem?_eq_none (by omega)]
  simp
def noNum : Int × Int × Bool := (0, 0, false)
def gnS : Nat → List Int → Int → Int → Int × Int × Bool
 | 0, _, _, _ => noNum
 | _ + 1, [], _, _ => noNum
 | f + 1, c :: r, n, p => if c < 128 then (if 1000000000 < n * 128 + c % 128 then noNum else (n * 128 + c % 128, p + 1, true)) else gnS f r (n * 128 + c % 128) (p + 1)
def gnI : List Int → Int → Int → Int × Int × Bool
 | [], _, _ => noNum
 | c :: r, n, p => if 1000000000 < n * 128 + c % 128 then noNum else if c < 128 then (n * 128 + c % 128, p + 1, true) else gnI r (n * 128 + c % 128) (p + 1)
theorem gnS_big (f : Nat) (l : List Int) (n p : Int) (h : 1000000000 < n) : gnS f l n p = noNum := by
 induction f generalizing l n p with
 | zero => rfl
 | succ f ih =>
  cases l with
  | nil => rfl
  | cons c r =>
   simp only [gnS]
   by_cases hc : c < 128
   ·rw [if_pos hc, if_pos (by omega)]
   ·rw [if_neg hc, ih _ _ _ (by omega)]
theorem gnI_eq (f : Nat) (l : List Int) (n p : Int) (h : 268435456 ≤ n * 128 ^ f) (h0 : 0 ≤ n) : gnI l n p = gnS f l n p := by
 induction f generalizing l n p with
 | zero =>
  cases l with
  | nil => rfl
  | cons c r =>
   simp only [gnI, gnS]
   rw [if_pos (by omega)]
 | succ f ih =>
  cases l with
  | nil => rfl
  | cons c r =>
   simp only [gnI, gnS]
   by_cases hc : c < 128
   ·by_cases hn : 1000000000 < n * 128 + c % 128 <;> simp [hc, hn]
   ·by_cases hn : 1000000000 < n * 128 + c % 128
    ·rw [if_pos hn, if_neg hc, gnS_big _ _ _ _ hn]
    ·rw [if_neg hn, if_neg hc, if_neg hc]
     refine ih _ _ _ ?_ (by omega)
     have h2 : n * 128 ^ (f + 1) = (n * 128) * 128 ^ f := by rw [Int.pow_succ, Int.mul_assoc, Int.mul_comm (128 ^ f) 128]
     have h3 : (n * 128) * 128 ^ f ≤ (n * 128 + c % 128) * 128 ^ f := Int.mul_le_mul_of_nonneg_right (by omega) (Int.pow_nonneg (by omega))
     omega
def getNum (b : List Int) (p : Int) : Int × Int × Bool :=
 if p < 0 ∨ (b.length : Int) ≤ p then noNum else if b.getD p.toNat 0 = 128 then noNum else gnS 5 (b.drop p.toNat) 0 p
theorem getNum_out {b : List Int} {p : Int} (h : p < 0 ∨ (b.length : Int) ≤ p) : getNum b p = noNum := by simp only [getNum]; rw [if_pos h]
theorem drop_cons {b : List Int} {j : Nat} (h : j < b.length) : b.drop j = b.getD j 0 :: b.drop (j + 1) := by
 rw [List.drop_eq_getElem_cons h, List.getD_eq_getElem?_getD, List.getElem?_eq_getElem h]
 rfl
theorem getNum_128 {b : List Int} {p : Nat} (hp : p < b.length) (h : b.getD p 0 = 128) : getNum b p = noNum := by
 simp only [getNum]
 rw [if_neg (by omega), Int.toNat_natCast, if_pos h]
theorem getNum_S {b : List Int} {p : Nat} (hp : p < b.length) (h : b.getD p 0 ≠ 128) : getNum b p = gnS 5 (b.drop p) 0 p := by
 simp only [getNum]
 rw [if_neg (by omega), Int.toNat_natCast, if_neg h]
theorem getNum_I {b : List Int} {p : Nat} (hp : p < b.length) (h : b.getD p 0 ≠ 128) (hb : BytesOk b) : getNum b p = gnI (b.drop p) 0 p := by
 rw [getNum_S hp h, drop_cons hp]
 have hr := hb.getD p
 generalize b.getD p 0 = c at *
 simp only [gnS, gnI]
 by_cases hc : c < 128
 ·rw [if_pos hc, if_neg (by omega), if_neg (by omega), if_pos hc]
 ·rw [if_neg hc, if_neg (by omega), if_neg hc]
  exact (gnI_eq 4 _ _ _ (by omega) (by omega)).symm
theorem pow128_le {k : Nat} (h : k ≤ 5) : (128 : Int) ^ k ≤ 34359738368 := by
 rcases (show k = 0 ∨ k = 1 ∨ k = 2 ∨ k = 3 ∨ k = 4 ∨ k = 5 from by omega) with rfl | rfl | rfl | rfl | rfl | rfl <;> decide
theorem pow128_step {k : Nat} {M c : Int} (h : M < 128 ^ k) : M * 128 + c % 128 < 128 ^ (k + 1) := by
 have : (128 : Int) ^ (k + 1) = 128 ^ k * 128 := Int.pow_succ ..
 omega
theorem wraps_i64 (n : Int) (h₀ : 0 ≤ n) (h₁ : n < 2 ^ 63) : IntKind.i64.wrap n = n := by rw [IntKind.wrap_i64]; omega
theorem or_group {M c : Int} (h0 : 0 ≤ M) (h1 : M < 34359738368) : bits .or .i64 (M * 128) (c % 128) = M * 128 + c % 128 :=
 bits_join .i64 63 (by decide) wraps_i64 7 (M * 128) (c % 128) (by omega) (by omega) (by omega) (by omega) (by omega) (by omega)
theorem gnS_last {b : List Int} {j f : Nat} {M p c : Int} (hj : j < b.length) (hc : b.getD j 0 = c) (h : c < 128) (hn : ¬ 1000000000 < M * 128 + c % 128) : gnS (f + 1) (b.drop j) M p = (M * 128 + c % 128, p + 1, true) := by
 rw [drop_cons hj, hc]; simp only [gnS]; rw [if_pos h, if_neg hn]
theorem gnS_over {b : List Int} {j f : Nat} {M p c : Int} (hj : j < b.length) (hc : b.getD j 0 = c) (h : c < 128) (hn : 1000000000 < M * 128 + c % 128) : gnS (f + 1) (b.drop j) M p = noNum := by
 rw [drop_cons hj, hc]; simp only [gnS]; rw [if_pos h, if_pos hn]
theorem gnS_more {b : List Int} {j f : Nat} {M p c : Int} (hj : j < b.length) (hc : b.getD j 0 = c) (h : ¬ c < 128) : gnS (f + 1) (b.drop j) M p = gnS f (b.drop (j + 1)) (M * 128 + c % 128) (p + 1) := by
 rw [drop_cons hj, hc]; simp only [gnS]; rw [if_neg h]
theorem gnS_end {b : List Int} {j f : Nat} {M p : Int} (hj : b.length ≤ j) : gnS f (b.drop j) M p = noNum := by
 rw [List.drop_eq_nil_of_le hj]; cases f <;> rfl
theorem gnI_last {b : List Int} {j : Nat} {M p c : Int} (hj : j < b.length) (hc : b.getD j 0 = c) (h : c < 128) (hn : ¬ 1000000000 < M * 128 + c % 128) : gnI (b.drop j) M p = (M * 128 + c % 128, p + 1, true) := by
 rw [drop_cons hj, hc]; simp only [gnI]; rw [if_neg hn, if_pos h]
theorem gnI_over {b : List Int} {j : Nat} {M p c : Int} (hj : j < b.length) (hc : b.getD j 0 = c) (hn : 1000000000 < M * 128 + c % 128) : gnI (b.drop j) M p = noNum := by
 rw [drop_cons hj, hc]; simp only [gnI]; rw [if_pos hn]
theorem gnI_more {b : List Int} {j : Nat} {M p c : Int} (hj : j < b.length) (hc : b.getD j 0 = c) (h : ¬ c < 128) (hn : ¬ 1000000000 < M * 128 + c % 128) : gnI (b.drop j) M p = gnI (b.drop (j + 1)) (M * 128 + c % 128) (p + 1) := by
 rw [drop_cons hj, hc]; simp only [gnI]; rw [if_neg hn, if_neg h]
theorem gnI_end {b : List Int} {j : Nat} {M p : Int} (hj : b.length ≤ j) : gnI (b.drop j) M p = noNum := by
 rw [List.drop_eq_nil_of_le hj]; rfl
end Go.Proofs.YtolciaheoanlbaaGreatDoor

/-
  Numbers put in groups of seven bits, the highest first, no needless ones: as plain functions on lists of integers.
-/
namespace Go.Proofs.YtolciaheoanlbaaGreatDoor
def clampN (n : Int) : Int := if 1000000000 < n then 1000000000 else if n < 0 then 0 else n
def hiG (n d : Int) : List Int := if 0 < n / d then [n / d % 128 + 128] else []
def hiTo (n : Int) : Nat → List Int
 | 0 => []
 | 1 => hiG n 268435456
 | 2 => hiG n 268435456 ++ hiG n 2097152
 | 3 => hiG n 268435456 ++ hiG n 2097152 ++ hiG n 16384
 | _ => hiG n 268435456 ++ hiG n 2097152 ++ hiG n 16384 ++ hiG n 128
def putNum (n : Int) : List Int := hiTo n 4 ++ [n % 128]
theorem BytesOk.append {a b : List Int} (ha : BytesOk a) (hb : BytesOk b) : BytesOk (a ++ b) := by
 intro z hz
 rcases List.mem_append.1 hz with h | h
 ·exact ha z h
 ·exact hb z h
end Go.Proofs.YtolciaheoanlbaaGreatDoor

/-
  Sum, the specification's and the program's: both answer what 'crc' says.
-/
namespace Go.Proofs.YtolciaheoanlbaaGreatDoor
def xr (a b : Int) : Int := ((a.toNat ^^^ b.toNat : Nat) : Int)
theorem xr_lt {a b : Int} (ha : a < 4294967296) (hb : b < 4294967296) : 0 ≤ xr a b ∧ xr a b < 4294967296 := by
 have h := Nat.xor_lt_two_pow (x := a.toNat) (y := b.toNat) (n := 32) (by omega) (by omega)
 unfold xr
 omega
theorem xor_i64 (a b : Int) (h1 : 0 ≤ a) (h2 : a < 4294967296) (h3 : 0 ≤ b) (h4 : b < 4294967296) : bits .xor .i64 a b = xr a b := by
 obtain ⟨a, rfl⟩ := Int.eq_ofNat_of_zero_le h1
 obtain ⟨b, rfl⟩ := Int.eq_ofNat_of_zero_le h3
 have h := Nat.xor_lt_two_pow (x := a) (y := b) (n := 32) (by omega) (by omega)
 have ea : a % 2 ^ 64 = a := Nat.mod_eq_of_lt (by omega)
 have eb : b % 2 ^ 64 = b := Nat.mod_eq_of_lt (by omega)
 show IntKind.i64.wrap ((BitVec.ofInt 64 a ^^^ BitVec.ofInt 64 b).toNat : Nat) = _
 rw [BitVec.ofInt_natCast, BitVec.ofInt_natCast, BitVec.toNat_xor, BitVec.toNat_ofNat, BitVec.toNat_ofNat, ea, eb]
 rw [wraps_i64 _ (by omega) (by omega)]
 rfl
theorem xor_u32 (a b : Int) (h1 : 0 ≤ a) (h2 : a < 4294967296) (h3 : 0 ≤ b) (h4 : b < 4294967296) : bits .xor .u32 a b = xr a b := u32_xor a b h1 h2 h3 h4
theorem and1_i64 (n : Int) : bits .and .i64 n 1 = n % 2 := by
 have h1 : (BitVec.ofInt 64 1).toNat = 2 ^ 1 - 1 := by decide
 have key : (BitVec.ofInt 64 n &&& BitVec.ofInt 64 1).toNat = (n % ((2 ^ 64 : Nat) : Int)).toNat % 2 ^ 1 := by
  rw [BitVec.toNat_and, BitVec.toNat_ofInt, h1, Nat.and_two_pow_sub_one_eq_mod]
 show IntKind.i64.wrap ((BitVec.ofInt 64 n &&& BitVec.ofInt 64 1).toNat : Nat) = n % 2
 rw [key, IntKind.wrap_i64]
 omega
def stN (x : Nat) : Nat := x / 2 ^^^ (if x % 2 = 1 then 2197175160 else 0)
def tabN (r : Nat) : Nat := [0, 274646895, 549293790, 820201905, 1098587580, 1361435347, 1640403810, 1905808397, 2197175160, 2460548119, 2722870694, 2987750089, 3280807620, 3553878443, 3811616794, 4084100981].getD r 0
theorem stN_xor (a b : Nat) : stN (a ^^^ b) = stN a ^^^ stN b := by
 have h1 : (a ^^^ b) / 2 = a / 2 ^^^ b / 2 := Nat.xor_div_two
 have h2 : (a ^^^ b) % 2 = a % 2 ^^^ b % 2 := Nat.xor_mod_two_pow (n := 1)
 unfold stN
 rw [h1, h2]
 rcases Nat.mod_two_eq_zero_or_one a with ha | ha <;> rcases Nat.mod_two_eq_zero_or_one b with hb | hb <;> simp only [ha, hb] <;> simp
 ·rw [Nat.xor_assoc]
 ·rw [Nat.xor_assoc, Nat.xor_assoc, Nat.xor_comm (b / 2)]
 ·rw [Nat.xor_assoc, Nat.xor_comm 2197175160, Nat.xor_assoc, Nat.xor_self, Nat.xor_zero]
theorem stN_even (a : Nat) : stN (2 * a) = a := by
 unfold stN
 rw [if_neg (by omega), Nat.xor_zero]
 omega
theorem split16 (x : Nat) : x = 16 * (x / 16) ^^^ x % 16 := by
 have h : x = 2 ^ 4 * (x / 2 ^ 4) ^^^ x % 2 ^ 4 := by
  apply Nat.eq_of_testBit_eq
  intro i
  rw [Nat.testBit_xor, Nat.testBit_two_pow_mul, Nat.testBit_mod_two_pow, Nat.testBit_div_two_pow]
  by_cases hi : 4 ≤ i
  ·rw [show i - 4 + 4 = i from by omega]
   simp [hi, show ¬ i < 4 from by omega]
  ·simp [hi, show i < 4 from by omega]
 exact h
theorem st4_small : ∀ r : Fin 16, stN (stN (stN (stN r.val))) = tabN r.val := by decide +kernel
theorem st4 (x : Nat) : stN (stN (stN (stN x))) = x / 16 ^^^ tabN (x % 16) := by
 have h := split16 x
 generalize x / 16 = q at h ⊢
 generalize hr : x % 16 = r at h ⊢
 have hs := st4_small ⟨r, by omega⟩
 simp only at hs
 rw [h, stN_xor, stN_xor, stN_xor, stN_xor, hs, show 16 * q = 2 * (2 * (2 * (2 * q))) from by omega, stN_even, stN_even, stN_even, stN_even]
def stI (x : Int) : Int := if x % 2 = 1 then xr (x / 2) 2197175160 else x / 2
theorem stI_odd {x : Int} (h : x % 2 = 1) : stI x = xr (x / 2) 2197175160 := by unfold stI; rw [if_pos h]
theorem stI_even {x : Int} (h : ¬ x % 2 = 1) : stI x = x / 2 := by unfold stI; rw [if_neg h]
theorem stI_cast (x : Nat) : stI x = (stN x : Nat) := by
 unfold stN
 by_cases h : x % 2 = 1
 ·rw [stI_odd (by omega), if_pos h]
  unfold xr
  rw [show ((x : Int) / 2).toNat = x / 2 from by omega]
  rfl
 ·rw [stI_even (by omega), if_neg h, Nat.xor_zero]
  omega
theorem stI_bd {x : Int} (h0 : 0 ≤ x) (h1 : x < 4294967296) : 0 ≤ stI x ∧ stI x < 4294967296 := by
 by_cases h : x % 2 = 1
 ·rw [stI_odd h]; exact xr_lt (by omega) (by omega)
 ·rw [stI_even h]; omega
def itI : Nat → Int → Int
 | 0, y => y
 | k + 1, y => stI (itI k y)
theorem itI_bd (k : Nat) {y : Int} (h0 : 0 ≤ y) (h1 : y < 4294967296) : 0 ≤ itI k y ∧ itI k y < 4294967296 := by
 induction k with
 | zero => exact ⟨h0, h1⟩
 | succ k ih => exact stI_bd ih.1 ih.2
def tabI (r : Int) : Int := (tabN r.toNat : Nat)
theorem tabN_lt : ∀ r : Fin 16, tabN r.val < 4294967296 := by decide +kernel
theorem tabI_bd {r : Int} (h0 : 0 ≤ r) (h1 : r < 16) : 0 ≤ tabI r ∧ tabI r < 4294967296 := by
 have := tabN_lt ⟨r.toNat, by omega⟩
 simp only at this
 unfold tabI
 omega
def hfI (y : Int) : Int := xr (y / 16) (tabI (y % 16))
theorem hfI_bd {y : Int} (h1 : y < 4294967296) : 0 ≤ hfI y ∧ hfI y < 4294967296 :=
 xr_lt (by omega) (tabI_bd (by omega) (by omega)).2
theorem hfI_cast (y : Nat) : hfI y = (y / 16 ^^^ tabN (y % 16) : Nat) := by
 unfold hfI xr tabI
 rw [show ((y : Int) / 16).toNat = y / 16 from by omega, show ((y : Int) % 16).toNat = y % 16 from by omega, Int.toNat_natCast]
theorem it4 (y : Nat) : itI 4 y = hfI y := by
 simp only [itI]
 rw [stI_cast, stI_cast, stI_cast, stI_cast, st4, hfI_cast]
theorem it_add (j k : Nat) (y : Int) : itI (j + k) y = itI j (itI k y) := by
 induction j with
 | zero => rw [Nat.zero_add]; rfl
 | succ j ih => rw [Nat.succ_add]; simp only [itI]; rw [ih]
theorem it8 {y : Int} (h0 : 0 ≤ y) : itI 8 y = hfI (hfI y) := by
 obtain ⟨y, rfl⟩ := Int.eq_ofNat_of_zero_le h0
 rw [show 8 = 4 + 4 from rfl, it_add, it4, hfI_cast, it4]
def byI (x c : Int) : Int := itI 8 (xr x c)
def runI (zs : List Int) : Int := zs.foldl byI 4294967295
def crc (zs : List Int) : Int := xr (runI zs) 4294967295
theorem runI_snoc (l : List Int) (c : Int) : runI (l ++ [c]) = byI (runI l) c := by simp [runI]
theorem foldl_bd (zs : List Int) (hb : BytesOk zs) (x : Int) (h0 : 0 ≤ x) (h1 : x < 4294967296) : 0 ≤ zs.foldl byI x ∧ zs.foldl byI x < 4294967296 := by
 induction zs generalizing x with
 | nil => exact ⟨h0, h1⟩
 | cons c r ih =>
  have hc := hb c (by simp)
  have hx := xr_lt (a := x) (b := c) h1 (by omega)
  have := itI_bd 8 hx.1 hx.2
  exact ih (fun z hz => hb z (by simp [hz])) _ this.1 this.2
theorem runI_bd {zs : List Int} (hb : BytesOk zs) : 0 ≤ runI zs ∧ runI zs < 4294967296 := foldl_bd zs hb _ (by omega) (by omega)
theorem crc_bd {zs : List Int} (hb : BytesOk zs) : 0 ≤ crc zs ∧ crc zs < 4294967296 := xr_lt (runI_bd hb).2 (by omega)
theorem BytesOk.take {zs : List Int} (h : BytesOk zs) (k : Nat) : BytesOk (zs.take k) := fun z hz => h z (List.mem_of_mem_take hz)
theorem runI_step {zs : List Int} {k n : Nat} {c : Int} (hx : zs.length = n) (hk : k < n) (hc : zs.getD k 0 = c) : runI (zs.take (k + 1)) = byI (runI (zs.take k)) c := by
 rw [← hc, ← runI_snoc]
 congr 1
 rw [List.take_succ_eq_append_getElem (by omega), List.getD_eq_getElem?_getD, List.getElem?_eq_getElem (by omega)]
 rfl
theorem not_u32 {X : Int} (h0 : 0 ≤ X) (h1 : X < 4294967296) : bits .xor .u32 IntKind.u32.max X = xr X 4294967295 := by
 rw [show IntKind.u32.max = 4294967295 from by decide, xor_u32 4294967295 X (by omega) (by omega) h0 h1]
 unfold xr
 rw [Nat.xor_comm]
open Go.RowKit
set_option maxRecDepth 10000
set_option maxHeartbeats 400000 in
theorem specSum_any (a : Option Addr) (n cap : Nat) (zs : List Int) (w : World) (B : Nat) (hx : zs.length = n) (hlen : n ≤ 140737488351232) (hb : BytesOk zs) (hra : Rd .u8 B w a zs) :
  Calls Tryz.prog 126 #[.slice a n cap] w fun e w' => e = .returned (.int .i64 (crc zs)) ∧ w' = w := by
 have HX : Hid (zs.length = n) := hx
 clear hx
 go_enter Tryz.func126, Tryz.ntmps126
 go_wp2
 go_loop [3, 4, 5, 6] (fun x i q l => ∃ k : Nat, k ≤ n ∧ i = .int .i64 k ∧ x = .int .i64 (runI (zs.take k))) (fun _ i _ _ => n - (intOf i).toNat)
 case atStart => exact ⟨0, Nat.zero_le _, rfl, rfl⟩
 case round =>
  obtain ⟨k, hk, rfl, rfl⟩ := hrel
  have hbd := runI_bd (hb.take k)
  by_cases hlt : k < n
  ·obtain ⟨b1, o1, rfl, _, hc1⟩ := hra k (by rw [HX.out]; exact hlt)
   have hcr := hb.getD k
   generalize hC : zs.getD k 0 = c at hc1 hcr
   have HS := Hid.mk (runI_step HX.out hlt hC)
   clear hC hra hb
   generalize runI (zs.take k) = X at hbd HS
   have hx1 := xor_i64 X c hbd.1 hbd.2 hcr.1 (by omega)
   have hxb := xr_lt (a := X) (b := c) hbd.2 (by omega)
   have HB : Hid (byI X c = itI 8 (xr X c)) := rfl
   generalize xr X c = Y at hx1 hxb HB
   go_wp2
   go_loop [3, 5, 6] (fun x q l => ∃ j : Nat, j ≤ 8 ∧ q = .int .i64 j ∧ x = .int .i64 (itI j Y)) (fun _ q _ => 8 - (intOf q).toNat)
   case atStart => exact ⟨0, Nat.zero_le _, rfl, rfl⟩
   case round =>
    obtain ⟨j, hj, rfl, rfl⟩ := hrel
    have hib := itI_bd j hxb.1 hxb.2
    by_cases hj8 : j < 8
    ·have HI : Hid (itI (j + 1) Y = stI (itI j Y)) := rfl
     generalize itI j Y = Z at hib HI
     have hand := and1_i64 Z
     by_cases ho : Z % 2 = 1
     ·have hx2 := xor_i64 (Z / 2) 2197175160 (by omega) (by omega) (by omega) (by omega)
      have HO := Hid.mk ho
      have hob : (Z % 2 == 1) = true := by simp [ho]
      clear ho
      go_wp2
      go_round
      case rel => exact ⟨j + 1, by omega, by go_num, by rw [HI.out, stI_odd HO.out]⟩
      case measure => simp [intOf]; omega
     ·have hob : (Z % 2 == 1) = false := by simp [ho]
      go_wp2
      go_round
      case rel => exact ⟨j + 1, by omega, by go_num, by rw [HI.out, stI_even ho]⟩
      case measure => simp [intOf]; omega
    ·have hj' : j = 8 := by omega
     subst hj'
     have HI := HB.out
     generalize itI 8 Y = Z at HI
     have HI' := Hid.mk HI
     clear HI
     go_wp2
     go_round
     case rel => exact ⟨k + 1, by omega, by go_num, by rw [HS.out, HI'.out]⟩
     case measure => simp [intOf]; omega
  ·have hkn : k = n := by omega
   have HT : Hid (crc zs = xr (runI (zs.take k)) 4294967295) := by unfold Hid crc; rw [List.take_of_length_le (by rw [HX.out]; omega)]
   generalize runI (zs.take k) = X at hbd HT
   have hx1 := xor_i64 X 4294967295 hbd.1 hbd.2 (by omega) (by omega)
   go_wp2
   go_ret
   exact ⟨by rw [HT.out]; rfl, rfl⟩
def TabAt (w : World) : Prop := ∀ r : Nat, r < 16 → w.cell? ⟨2, r, none⟩ = some (.int .u32 (tabI r))
theorem TabAt.size {w : World} (h : TabAt w) : 0 < w.heap.size := Nat.lt_of_le_of_lt (Nat.zero_le _) (World.block_lt_of_cell? _ _ (h 0 (by decide)))
theorem TabAt.below {w w' : World} (h : TabAt w) (hb : Below w.heap.size w w') (_hB : 0 < w.heap.size) : TabAt w' := fun r hr => (hb.cell (p := ⟨2, r, none⟩) (World.block_lt_of_cell? _ _ (h r hr))).trans (h r hr)
set_option maxHeartbeats 400000 in
theorem implSum_any (a : Option Addr) (n cap : Nat) (zs : List Int) (w : World) (B : Nat) (hx : zs.length = n) (hlen : n ≤ 140737488351232) (hb : BytesOk zs) (hra : Rd .u8 B w a zs) (ht : TabAt w) :
  Calls Tryz.prog 155 #[.slice a n cap] w fun e w' => e = .returned (.int .i64 (crc zs)) ∧ w' = w := by
 have HX : Hid (zs.length = n) := hx
 clear hx
 go_enter Tryz.func155, Tryz.ntmps155
 go_wp2
 go_loop [3, 5, 8] (fun x q i => ∃ k : Nat, k ≤ n ∧ i = .int .i64 k ∧ x = .int .u32 (runI (zs.take k))) (fun _ _ i => n - (intOf i).toNat)
 case atStart => exact ⟨0, Nat.zero_le _, rfl, rfl⟩
 case round =>
  obtain ⟨k, hk, rfl, rfl⟩ := hrel
  have hbd := runI_bd (hb.take k)
  by_cases hlt : k < n
  ·obtain ⟨b1, o1, rfl, _, hc1⟩ := hra k (by rw [HX.out]; exact hlt)
   have hcr := hb.getD k
   generalize hC : zs.getD k 0 = c at hc1 hcr
   have HS := Hid.mk (runI_step HX.out hlt hC)
   clear hC hra hb
   generalize runI (zs.take k) = X at hbd HS
   have hx1 := xor_u32 X c hbd.1 hbd.2 hcr.1 (by omega)
   have hxb := xr_lt (a := X) (b := c) hbd.2 (by omega)
   have HB : Hid (byI X c = hfI (hfI (xr X c))) := it8 hxb.1
   generalize xr X c = Y at hx1 hxb HB
   have ht1 := ht (Y % 16).toNat (by omega)
   rw [show (((Y % 16).toNat : Nat) : Int) = Y % 16 from by omega] at ht1
   have htb := tabI_bd (r := Y % 16) (by omega) (by omega)
   have hx2 := xor_u32 (Y / 16) (tabI (Y % 16)) (by omega) (by omega) htb.1 htb.2
   have hyb := hfI_bd hxb.2
   have e2 : xr (Y / 16) (tabI (Y % 16)) = hfI Y := rfl
   rw [e2] at hx2
   generalize hfI Y = Z at hx2 hyb HB
   generalize tabI (Y % 16) = t1 at ht1 htb hx2
   have ht2 := ht (Z % 16).toNat (by omega)
   rw [show (((Z % 16).toNat : Nat) : Int) = Z % 16 from by omega] at ht2
   have htb2 := tabI_bd (r := Z % 16) (by omega) (by omega)
   have hx3 := xor_u32 (Z / 16) (tabI (Z % 16)) (by omega) (by omega) htb2.1 htb2.2
   have e3 : xr (Z / 16) (tabI (Z % 16)) = hfI Z := rfl
   rw [e3] at hx3
   generalize hfI Z = V at hx3 HB
   generalize tabI (Z % 16) = t2 at ht2 htb2 hx3
   clear ht e2 e3
   go_wp2
   go_round
   case rel => exact ⟨k + 1, by omega, by go_num, by rw [HS.out, HB.out]⟩
   case measure => simp [intOf]; omega
  ·have hkn : k = n := by omega
   have HT : Hid (crc zs = xr (runI (zs.take k)) 4294967295) := by unfold Hid crc; rw [List.take_of_length_le (by rw [HX.out]; omega)]
   generalize runI (zs.take k) = X at hbd HT
   have hx1 := not_u32 hbd.1 hbd.2
   have hxb := xr_lt (a := X) (b := 4294967295) hbd.2 (by omega)
   generalize xr X 4294967295 = V at hx1 hxb HT
   go_wp2
   go_ret
   refine ⟨?_, rfl⟩
   rw [HT.out]
   show Ending.returned (Value.int .i64 (wrap64 V)) = _
   rw [show wrap64 V = V from by unfold wrap64; omega]
end Go.Proofs.YtolciaheoanlbaaGreatDoor

/-
  Frames, plainly.
-/
namespace Go.Proofs.YtolciaheoanlbaaGreatDoor
open Go.RowKit
set_option maxRecDepth 10000
def four (x : Int) : List Int := [x / 16777216, x / 65536 % 256, x / 256 % 256, x % 256]
def frame (zs : List Int) : List Int := four (crc zs) ++ putNum (clampN zs.length) ++ zs
end Go.Proofs.YtolciaheoanlbaaGreatDoor

/-
  GetNum, the program's and the specification's: both answer what 'getNum' says, at every slice of bytes and every place.
-/
namespace Go.Proofs.YtolciaheoanlbaaGreatDoor
open Go.RowKit
set_option maxRecDepth 10000
def numVal (r : Int × Int × Bool) : Value := .tuple #[.int .i64 r.1, .int .i64 r.2.1, .bool r.2.2]
set_option maxHeartbeats 400000 in
theorem specGetNum_any (a : Option Addr) (n cap : Nat) (zs : List Int) (p : Int) (w : World) (B : Nat) (hx : zs.length = n) (hlen : n ≤ 140737488351232) (hb : BytesOk zs) (hra : Rd .u8 B w a zs) :
  Calls Tryz.prog 125 #[.slice a n cap, .int .i64 p] w fun e w' => e = .returned (numVal (getNum zs p)) ∧ w' = w := by
 have HX : Hid (zs.length = n) := hx
 clear hx
 by_cases h0 : 0 ≤ p
 ·obtain ⟨p, rfl⟩ := Int.eq_ofNat_of_zero_le h0
  by_cases h1 : p < n
  ·go_enter Tryz.func125, Tryz.ntmps125
   go_wp2
   go_loop [7, 8] (fun N i => ∃ (k : Nat) (M : Int), k ≤ 5 ∧ i = .int .i64 k ∧ N = .int .i64 M ∧ 0 ≤ M ∧ M < 128 ^ k ∧ (0 < k → getNum zs p = gnS (5 - k) (zs.drop (p + k)) M (p + k : Nat))) (fun _ i => 5 - (intOf i).toNat)
   case atStart => exact ⟨0, 0, by omega, rfl, rfl, by omega, by omega, fun h => by omega⟩
   case round =>
    obtain ⟨k, M, hk, rfl, rfl, hM0, hM1, hD⟩ := hrel
    have HD : Hid (0 < k → getNum zs p = gnS (5 - k) (zs.drop (p + k)) M (p + k : Nat)) := hD
    clear hD
    have hM2 : M < 34359738368 := by have := pow128_le hk; omega
    by_cases hk5 : k < 5
    ·by_cases hpk : p + k < n
     ·obtain ⟨b1, o1, rfl, _, hc1⟩ := hra (p + k) (by rw [HX.out]; exact hpk)
      have hcr := hb.getD (p + k)
      generalize hC : zs.getD (p + k) 0 = c at hc1 hcr
      have HC : Hid (zs.getD (p + k) 0 = c) := hC
      obtain ⟨hc0, hc255⟩ := hcr
      clear hC hra hb
      have hand := i64_and127 c
      have hor := or_group (c := c) hM0 hM2
      by_cases hk0 : k = 0 ∧ c = 128
      ·have hkb : ((k : Int) == 0) = true := by simp; exact hk0.1
       have hcb : (c == 128) = true := by simp; exact hk0.2
       have hv : Hid (getNum zs p = noNum) := getNum_128 (by rw [HX.out]; exact h1) (by have := HC.out; rw [hk0.1, hk0.2] at this; exact this)
       clear hand hor hk0
       go_wp2
       go_ret3
       exact ⟨by rw [hv.out]; rfl, rfl⟩
      ·have hv : getNum zs p = gnS (5 - k) (zs.drop (p + k)) M (p + k : Nat) := by
        by_cases hkz : k = 0
        ·subst hkz
         have hM : M = 0 := by simp at hM1; omega
         subst hM
         exact getNum_S (by rw [HX.out]; exact h1) (fun h => hk0 ⟨rfl, by rw [← HC.out]; exact h⟩)
        ·exact HD.out (by omega)
       have HV : Hid (getNum zs p = gnS (5 - k) (zs.drop (p + k)) M (p + k : Nat)) := hv
       have hj : p + k < zs.length := by rw [HX.out]; exact hpk
       obtain ⟨f, hf⟩ : ∃ f, 5 - k = f + 1 := ⟨4 - k, by omega⟩
       have HF : Hid (5 - k = f + 1) := hf
       clear hv hf HD
       have hguard : ((k : Int) == 0) = false ∨ (c == 128) = false := by
        by_cases hkz : k = 0
        ·right; simp; intro h; exact hk0 ⟨hkz, h⟩
        ·left; simp; omega
       by_cases h7 : c < 128
       ·by_cases hN : 1000000000 < M * 128 + c % 128
        ·have hv : Hid (getNum zs p = noNum) := by unfold Hid; rw [HV.out, HF.out]; exact gnS_over hj HC.out h7 hN
         rcases hguard with hg | hg
         all_goals
          go_wp2
          all_goals
           go_ret3
           exact ⟨by rw [hv.out]; rfl, rfl⟩
        ·have hv : Hid (getNum zs p = (M * 128 + c % 128, ((p + k : Nat) : Int) + 1, true)) := by unfold Hid; rw [HV.out, HF.out]; exact gnS_last hj HC.out h7 hN
         rcases hguard with hg | hg
         all_goals
          go_wp2
          all_goals
           go_ret3
           exact ⟨by rw [hv.out]; simp [numVal] <;> omega, rfl⟩
       ·have hv : Hid (getNum zs p = gnS f (zs.drop (p + k + 1)) (M * 128 + c % 128) (((p + k : Nat) : Int) + 1)) := by unfold Hid; rw [HV.out, HF.out]; exact gnS_more hj HC.out h7
        rcases hguard with hg | hg
        all_goals
         go_wp2
         all_goals
          go_round
          case rel =>
           refine ⟨k + 1, M * 128 + c % 128, by omega, by go_num, rfl, by omega, pow128_step hM1, fun _ => ?_⟩
           rw [hv.out, show 5 - (k + 1) = f from by have := HF.out; omega]
           rfl
          case measure => simp [intOf]; omega
     ·have hv : Hid (getNum zs p = noNum) := by
       unfold Hid
       rw [HD.out (by omega)]
       exact gnS_end (by rw [HX.out]; omega)
      go_wp2
      all_goals
       go_ret3
       exact ⟨by rw [hv.out]; rfl, rfl⟩
    ·have hk55 : k = 5 := by omega
     have hv : Hid (getNum zs p = noNum) := by
      unfold Hid
      rw [HD.out (by omega)]
      subst hk55
      rfl
     go_wp2
     all_goals
      go_ret3
      exact ⟨by rw [hv.out]; rfl, rfl⟩
  ·have hv : Hid (getNum zs p = noNum) := getNum_out (by right; rw [HX.out]; omega)
   go_enter Tryz.func125, Tryz.ntmps125
   go_wp2
   refine wp_loop_rounds 1 ?_
   rw [rounds_succ]
   go_wp2
   all_goals
    go_ret3
    exact ⟨by rw [hv.out]; rfl, rfl⟩
 ·have hv : Hid (getNum zs p = noNum) := getNum_out (by left; omega)
  go_enter Tryz.func125, Tryz.ntmps125
  go_wp2
  refine wp_loop_rounds 1 ?_
  rw [rounds_succ]
  go_wp2
  all_goals
   go_ret3
   exact ⟨by rw [hv.out]; rfl, rfl⟩
set_option maxHeartbeats 400000 in
theorem implGetNum_any (a : Option Addr) (n cap : Nat) (zs : List Int) (p : Int) (w : World) (B : Nat) (hx : zs.length = n) (hlen : n ≤ 140737488351232) (hb : BytesOk zs) (hra : Rd .u8 B w a zs) :
  Calls Tryz.prog 154 #[.slice a n cap, .int .i64 p] w fun e w' => e = .returned (numVal (getNum zs p)) ∧ w' = w := by
 have HX : Hid (zs.length = n) := hx
 clear hx
 by_cases h0 : 0 ≤ p
 ·obtain ⟨p, rfl⟩ := Int.eq_ofNat_of_zero_le h0
  by_cases h1 : p < n
  ·obtain ⟨b1, o1, rfl, _, hc1⟩ := hra p (by rw [HX.out]; exact h1)
   by_cases h128 : zs.getD p 0 = 128
   ·have hv : Hid (getNum zs p = noNum) := getNum_128 (by rw [HX.out]; exact h1) h128
    rw [h128] at hc1
    clear h128 hra
    go_enter Tryz.func154, Tryz.ntmps154
    go_wp2
    go_ret3
    exact ⟨by rw [hv.out]; rfl, rfl⟩
   ·have hv : Hid (getNum zs p = gnI (zs.drop p) 0 p) := getNum_I (by rw [HX.out]; exact h1) h128 hb
    have hne : (zs.getD p 0 == 128) = false := by simp; simpa using h128
    generalize zs.getD p 0 = c0 at hc1 hne
    clear h128
    go_enter Tryz.func154, Tryz.ntmps154
    go_wp2
    go_loop [7, 8] (fun N i => ∃ (k : Nat) (M : Int), k ≤ n ∧ i = .int .i64 k ∧ N = .int .i64 M ∧ 0 ≤ M ∧ M ≤ 1000000000 ∧ getNum zs p = gnI (zs.drop k) M k) (fun _ i => n - (intOf i).toNat)
    case atStart => exact ⟨p, 0, by omega, rfl, rfl, by omega, by omega, hv.out⟩
    case round =>
     obtain ⟨k, M, hk, rfl, rfl, hM0, hM1, hD⟩ := hrel
     have HD : Hid (getNum zs p = gnI (zs.drop k) M k) := hD
     clear hD hv hc1 hne
     by_cases hlt : k < n
     ·obtain ⟨b1, o1, he, _, hc1⟩ := hra k (by rw [HX.out]; exact hlt)
      simp only [Option.some.injEq, Addr.mk.injEq, and_true] at he
      obtain ⟨rfl, rfl⟩ := he
      have hcr := hb.getD k
      generalize hC : zs.getD k 0 = c at hc1 hcr
      have HC : Hid (zs.getD k 0 = c) := hC
      obtain ⟨hc0, hc255⟩ := hcr
      have hj : k < zs.length := by rw [HX.out]; exact hlt
      clear hC hra hb
      by_cases hN : 1000000000 < M * 128 + c % 128
      ·have hv : Hid (getNum zs p = noNum) := by unfold Hid; rw [HD.out]; exact gnI_over hj HC.out hN
       go_wp2
       all_goals
        go_ret3
        exact ⟨by rw [hv.out]; rfl, rfl⟩
      ·by_cases h7 : c < 128
       ·have hv : Hid (getNum zs p = (M * 128 + c % 128, (k : Int) + 1, true)) := by unfold Hid; rw [HD.out]; exact gnI_last hj HC.out h7 hN
        go_wp2
        all_goals
         go_ret3
         exact ⟨by rw [hv.out]; rfl, rfl⟩
       ·have hv : Hid (getNum zs p = gnI (zs.drop (k + 1)) (M * 128 + c % 128) ((k : Int) + 1)) := by unfold Hid; rw [HD.out]; exact gnI_more hj HC.out h7 hN
        go_wp2
        all_goals
         go_round
         case rel => exact ⟨k + 1, M * 128 + c % 128, by omega, by go_num, rfl, by omega, by omega, by rw [hv.out]; rfl⟩
         case measure => simp [intOf]; omega
     ·have hv : Hid (getNum zs p = noNum) := by
       unfold Hid
       rw [HD.out]
       exact gnI_end (by rw [HX.out]; omega)
      go_wp2
      all_goals
       go_ret3
       exact ⟨by rw [hv.out]; rfl, rfl⟩
  ·have hv : Hid (getNum zs p = noNum) := getNum_out (by right; rw [HX.out]; omega)
   go_enter Tryz.func154, Tryz.ntmps154
   go_wp2
   all_goals
    go_ret3
    exact ⟨by rw [hv.out]; rfl, rfl⟩
 ·have hv : Hid (getNum zs p = noNum) := getNum_out (by left; omega)
  go_enter Tryz.func154, Tryz.ntmps154
  go_wp2
  all_goals
   go_ret3
   exact ⟨by rw [hv.out]; rfl, rfl⟩
end Go.Proofs.YtolciaheoanlbaaGreatDoor

/-
  Texts behind their lengths, as plain functions on lists of integers.
-/
namespace Go.Proofs.YtolciaheoanlbaaGreatDoor
theorem gnS_bounds (f : Nat) (l : List Int) (n p : Int) (h0 : 0 ≤ n) (h : (gnS f l n p).2.2 = true) :
  0 ≤ (gnS f l n p).1 ∧ (gnS f l n p).1 ≤ 1000000000 ∧ p < (gnS f l n p).2.1 ∧ (gnS f l n p).2.1 ≤ p + l.length := by
 induction f generalizing l n p with
 | zero => simp [gnS, noNum] at h
 | succ f ih =>
  cases l with
  | nil => simp [gnS, noNum] at h
  | cons c r =>
   simp only [gnS] at h ⊢
   by_cases hc : c < 128
   ·rw [if_pos hc] at h ⊢
    by_cases hn : 1000000000 < n * 128 + c % 128
    ·rw [if_pos hn] at h; simp [noNum] at h
    ·rw [if_neg hn]; simp only [List.length_cons]; omega
   ·rw [if_neg hc] at h ⊢
    have := ih r (n * 128 + c % 128) (p + 1) (by omega) h
    simp only [List.length_cons]; omega
theorem getNum_bounds {b : List Int} {p : Int} (h : (getNum b p).2.2 = true) :
  0 ≤ (getNum b p).1 ∧ (getNum b p).1 ≤ 1000000000 ∧ 0 < (getNum b p).2.1 ∧ (getNum b p).2.1 ≤ b.length := by
 simp only [getNum] at h ⊢
 by_cases h1 : p < 0 ∨ (b.length : Int) ≤ p
 ·rw [if_pos h1] at h; simp [noNum] at h
 ·rw [if_neg h1] at h ⊢
  by_cases h2 : b.getD p.toNat 0 = 128
  ·rw [if_pos h2] at h; simp [noNum] at h
  ·rw [if_neg h2] at h ⊢
   have := gnS_bounds 5 _ 0 p (by omega) h
   simp only [List.length_drop] at this
   omega
def getText (b : List Int) (p : Int) : List Int × Int × Bool :=
 if (getNum b p).2.2 = true ∧ (getNum b p).1 ≤ b.length - (getNum b p).2.1 then ((b.drop (getNum b p).2.1.toNat).take (getNum b p).1.toNat, (getNum b p).2.1 + (getNum b p).1, true) else ([], 0, false)
theorem getText_yes {b : List Int} {p : Int} {m f : Nat} (h : getNum b p = ((m : Int), (f : Int), true)) (hm : f + m ≤ b.length) : getText b p = ((b.drop f).take m, ((f + m : Nat) : Int), true) := by
 simp only [getText, h]
 rw [if_pos ⟨trivial, by omega⟩]
 simp
theorem getText_no {b : List Int} {p : Int} (h : (getNum b p).2.2 = false ∨ (b.length : Int) - (getNum b p).2.1 < (getNum b p).1) : getText b p = ([], 0, false) := by
 simp only [getText]
 rw [if_neg]
 rintro ⟨h1, h2⟩
 rcases h with h | h
 ·rw [h1] at h; cases h
 ·omega
theorem text_cases (b : List Int) (p : Int) :
  (∃ r0 r1, getNum b p = (r0, r1, false) ∧ getText b p = ([], 0, false)) ∨
  (∃ m f : Nat, getNum b p = ((m : Int), (f : Int), true) ∧ f ≤ b.length ∧ m ≤ 1000000000 ∧ b.length < f + m ∧ getText b p = ([], 0, false)) ∨
  (∃ m f : Nat, getNum b p = ((m : Int), (f : Int), true) ∧ 0 < f ∧ m ≤ 1000000000 ∧ f + m ≤ b.length ∧ getText b p = ((b.drop f).take m, ((f + m : Nat) : Int), true)) := by
 have hbd := @getNum_bounds b p
 have hno := @getText_no b p
 have hyes := fun m f => @getText_yes b p m f
 generalize getNum b p = R at hbd hno hyes ⊢
 obtain ⟨r0, r1, r2⟩ := R
 cases r2 with
 | false => exact Or.inl ⟨r0, r1, rfl, hno (Or.inl rfl)⟩
 | true =>
  have h := hbd rfl
  simp only at h hno
  obtain ⟨m, rfl⟩ := Int.eq_ofNat_of_zero_le h.1
  obtain ⟨f, rfl⟩ := Int.eq_ofNat_of_zero_le (show 0 ≤ r1 by omega)
  by_cases hm : f + m ≤ b.length
  ·exact Or.inr (Or.inr ⟨m, f, rfl, by omega, by omega, hm, hyes m f rfl hm⟩)
  ·exact Or.inr (Or.inl ⟨m, f, rfl, by omega, by omega, by omega, hno (Or.inr (by omega))⟩)
theorem take_drop_getD {b : List Int} {f m i : Nat} (h : i < m) : ((b.drop f).take m).getD i 0 = b.getD (f + i) 0 := by
 simp only [List.getD_eq_getElem?_getD, List.getElem?_take, List.getElem?_drop, h, if_true]
theorem take_drop_length {b : List Int} {f m : Nat} (hf : f + m ≤ b.length) : ((b.drop f).take m).length = m := by simp; omega
end Go.Proofs.YtolciaheoanlbaaGreatDoor
