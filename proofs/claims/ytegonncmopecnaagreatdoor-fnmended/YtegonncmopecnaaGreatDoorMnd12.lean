/-
  Part 13 of the texts that the proof leans on.
-/
import Derived.Test.YtegonncmopecnaaGreatDoorMnd10
import Derived.Test.YtegonncmopecnaaGreatDoorMnd5
import Derived.Test.YtegonncmopecnaaGreatDoorMnd11
import Derived.Test.YtegonncmopecnaaGreatDoorMnd8
import Derived.Test.YtegonncmopecnaaGreatDoorMnd3
import Derived.Test.YtegonncmopecnaaGreatDoorMnd1
set_option linter.unusedVariables false
set_option linter.unusedSimpArgs false
set_option maxRecDepth 10000

namespace Go.Proofs.YtegonncmopecnaaGreatDoor
open Go.RowKit Go.Maps
def fullD (m n : MDisk) : MDisk := if diskOk n then n else m
def fullC (n : MDisk) : Int := if diskOk n then 0 else 4
set_option maxHeartbeats 4000000 in
theorem orFull_any (cs : List Value) (b0 b1 b2 : Option Addr) (d0 d1 d2 : Nat) (m n : MDisk) (F : List Nat) (w : World) (hr : rDisk w.heap.size w cs m) (hw : wDisk m <= 1048576) (ho : oDisk w [.slice b0 n.fInodes.length d0, .slice b1 n.fNames.length d1, .slice b2 n.fSafe.length d2, .int .i64 n.fNext] n F) (hN : F.Nodup) (hwn : wDisk n <= 16777216) :
  Calls Tryz.prog 66 #[.agg cs.toArray, .agg #[.slice b0 n.fInodes.length d0, .slice b1 n.fNames.length d1, .slice b2 n.fSafe.length d2, .int .i64 n.fNext]] w fun e w' => ∃ (cs' : List Value) (F' : List Nat), e = .returned (.tuple #[.agg cs'.toArray, .int .i64 (fullC n)]) /\ oDisk w' cs' (fullD m n) F' /\ F'.Nodup /\ (∀ b, b ∈ F' -> b ∈ F ∨ w.heap.size <= b) /\ Below w.heap.size w w' := by
 have hq := hr
 obtain ⟨a0, c0, a1, c1, a2, c2, rfl, hI, hNm, hSf, hnx, _⟩ := hq
 have hw2 : m.fInodes.length + sumW wInode m.fInodes + (m.fNames.length + sumW wEntry m.fNames) + (m.fSafe.length + sumW wEntry m.fSafe) <= 1048576 := hw
 have HW := Hm hw
 have HR := Hm hr
 clear hr hI hNm hSf hw
 have HO := Hm ho
 have HN := Hm hN
 clear ho hN
 go_enter Tryz.func66, Tryz.ntmps66
 go_wp2_with fail
 obtain ⟨wq, hwq⟩ : ∃ wq, wq = (((w.alloc (.cells #[.slice a0 m.fInodes.length c0, .slice a1 m.fNames.length c1, .slice a2 m.fSafe.length c2, .int .i64 m.fNext] 27)).alloc (.cells #[.slice b0 n.fInodes.length d0, .slice b1 n.fNames.length d1, .slice b2 n.fSafe.length d2, .int .i64 n.fNext] 27)).alloc (.cells #[.slice none 0 0, .slice none 0 0, .slice none 0 0, .int .i64 0] 27)) := ⟨_, rfl⟩
 have hbW : Below w.heap.size w wq := by rw [hwq]; exact Below.alloc (Below.alloc (Below.alloc rB (by exact rN) _) (by simp; try omega) _) (by simp; try omega) _
 have hbd : Bw wq (w.heap.size) 27 [.slice a0 m.fInodes.length c0, .slice a1 m.fNames.length c1, .slice a2 m.fSafe.length c2, .int .i64 m.fNext] := by rw [hwq]; exact Bw.alloc (Bw.alloc (Bw.new' _ _ _ (by simp)) _) _
 have hbn : Bw wq (w.heap.size + 1) 27 [.slice b0 n.fInodes.length d0, .slice b1 n.fNames.length d1, .slice b2 n.fSafe.length d2, .int .i64 n.fNext] := by rw [hwq]; exact Bw.alloc (Bw.new' _ _ _ (by simp)) _
 have hbr : Bw wq (w.heap.size + 2) 27 [.slice none 0 0, .slice none 0 0, .slice none 0 0, .int .i64 0] := by rw [hwq]; exact Bw.new' _ _ _ (by simp)
 rw [<- hwq]
 clear hwq
 have hq0 := hbW.size
 refine (implDiskOk_b [.slice b0 n.fInodes.length d0, .slice b1 n.fNames.length d1, .slice b2 n.fSafe.length d2, .int .i64 n.fNext] n wq (rDisk_good.mono (rDisk_good.below (oDisk_good.read HO.out) hbW) hbW.size) hwn).mono ?_
 rintro e w1 ⟨rfl, hx1⟩
 have hb1 := bthen hbW hx1
 have hbd1 := hbd.under hx1
 have hbn1 := hbn.under hx1
 have hbr1 := hbr.under hx1
 have hl1 := hbn1.lt
 have hl2 := hbr1.lt
 have hl3 := hbd1.lt
 clear hbd hbn hbr
 by_cases hK : diskOk n = true
 ·have HV : Hid (fullD m n = n /\ fullC n = 0) := by refine ⟨?_, ?_⟩ <;> simp [fullD, fullC, hK]
  rw [hK]
  clear hK
  obtain ⟨y0, y1, y2, y3⟩ := hbn1.c4
  obtain ⟨ze0, ze1, ze2, ze3⟩ := hbr1.c4
  obtain ⟨zf0, zf1, zf2, zf3⟩ := hbr1.f4
  have hkey : ∀ W', Turn [w.heap.size + 2] w1 W' -> oDisk W' [.slice b0 n.fInodes.length d0, .slice b1 n.fNames.length d1, .slice b2 n.fSafe.length d2, .int .i64 n.fNext] n F /\ Below w.heap.size w W' := fun W' hT => by
   have hBf : Below w.heap.size w W' := hb1.trans (hT.below (fun k hk => by simp at hk; omega) hb1.size)
   exact ⟨oDisk_good.frame HO.out (fun b hb => hBf.block b (oDisk_good.lt HO.out b hb)), hBf⟩
  have HKEY := Hm hkey
  clear hkey
  go_wp2_with fail
  obtain ⟨h1, h3⟩ := HKEY.out _ (show Turn [w.heap.size + 2] w1 ((((w1.setCell ⟨w.heap.size + 2, 0, none⟩ (.slice b0 n.fInodes.length d0)).setCell ⟨w.heap.size + 2, 1, none⟩ (.slice b1 n.fNames.length d1)).setCell ⟨w.heap.size + 2, 2, none⟩ (.slice b2 n.fSafe.length d2)).setCell ⟨w.heap.size + 2, 3, none⟩ (.int .i64 n.fNext)) from turn4 _ _ _ _ _ _)
  exact bodyPost_ret (v := .tuple #[.agg #[.slice b0 n.fInodes.length d0, .slice b1 n.fNames.length d1, .slice b2 n.fSafe.length d2, .int .i64 n.fNext], .int .i64 0]) (by simp [results, Tryz.results66, go_sem, *]) rfl ⟨[.slice b0 n.fInodes.length d0, .slice b1 n.fNames.length d1, .slice b2 n.fSafe.length d2, .int .i64 n.fNext], F, by rw [HV.out.2], by rw [HV.out.1]; exact h1, HN.out, fun b hb => .inl hb, h3⟩
 ·have hK2 : diskOk n = false := Bool.eq_false_iff.2 hK
  have HV : Hid (fullD m n = m /\ fullC n = 4) := by refine ⟨?_, ?_⟩ <;> simp [fullD, fullC, hK2]
  rw [hK2]
  clear hK hK2
  obtain ⟨y0, y1, y2, y3⟩ := hbd1.c4
  go_wp2_with fail
  refine (copyDisk_any _ m w1 (rDisk_good.mono (rDisk_good.below HR.out hb1) hb1.size) HW.out).mono ?_
  rintro e w3 ⟨cs3, F3, rfl, ho3, hN3, hge3, hx3⟩
  have hb3 := bthen hb1 hx3
  have hbr3 := hbr1.under hx3
  have hl5 := hbr3.lt
  obtain ⟨q0, p0, q1, p1, q2, p2, G0, G1, G2, rfl, _, _, _, _, rfl⟩ := oDisk_cells ho3
  have hkey : ∀ W', Turn [w.heap.size + 2] w3 W' -> oDisk W' [.slice q0 m.fInodes.length p0, .slice q1 m.fNames.length p1, .slice q2 m.fSafe.length p2, .int .i64 m.fNext] m (G0 ++ G1 ++ G2 ++ []) /\ Below w.heap.size w W' := fun W' hT =>
   ⟨oDisk_good.frame ho3 (fun b hb => hT.block b (oDisk_good.lt ho3 b hb) (fun h => by simp at h; have := hge3 b hb; omega)), hb3.trans (hT.below (fun k hk => by simp at hk; omega) hb3.size)⟩
  have HKEY := Hm hkey
  have HGE := Hm hge3
  have HN3 := Hm hN3
  clear hkey ho3 hN3 hge3 y0 y1 y2 y3
  obtain ⟨ze0, ze1, ze2, ze3⟩ := hbr3.c4
  obtain ⟨zf0, zf1, zf2, zf3⟩ := hbr3.f4
  go_wp2_with fail
  obtain ⟨h1, h3⟩ := HKEY.out _ (show Turn [w.heap.size + 2] w3 ((((w3.setCell ⟨w.heap.size + 2, 0, none⟩ (.slice q0 m.fInodes.length p0)).setCell ⟨w.heap.size + 2, 1, none⟩ (.slice q1 m.fNames.length p1)).setCell ⟨w.heap.size + 2, 2, none⟩ (.slice q2 m.fSafe.length p2)).setCell ⟨w.heap.size + 2, 3, none⟩ (.int .i64 m.fNext)) from turn4 _ _ _ _ _ _)
  exact bodyPost_ret (v := .tuple #[.agg #[.slice q0 m.fInodes.length p0, .slice q1 m.fNames.length p1, .slice q2 m.fSafe.length p2, .int .i64 m.fNext], .int .i64 4]) (by simp [results, Tryz.results66, go_sem, *]) rfl ⟨[.slice q0 m.fInodes.length p0, .slice q1 m.fNames.length p1, .slice q2 m.fSafe.length p2, .int .i64 m.fNext], _, by rw [HV.out.2], by rw [HV.out.1]; exact h1, HN3.out, fun b hb => .inr (by have := HGE.out b hb; have := hb1.size; omega), h3⟩
end Go.Proofs.YtegonncmopecnaaGreatDoor

namespace Go.Proofs.YtegonncmopecnaaGreatDoor
open Go.RowKit Go.Maps Go.Shelf Go.Lib Go.Sort
theorem encs_len (l : List MEntry) : ∀ c, c ∈ l.map encE -> c.length = 2 := by
 intro c hc
 obtain ⟨e, _, rfl⟩ := List.mem_map.1 hc
 rfl
section
variable [Inhabited MEntry]
theorem flatK_at (d : Array MEntry) (t : Nat) (h : t < d.size * 2) : (d.toList.map encE).flatten[t]? = some ((flatK encE 2 d)[t]!) := by
 rw [get_flatK encE 2 d t h]
 have h1 : t / 2 < d.size := by omega
 have e1 : t = t / 2 * 2 + t % 2 := by omega
 have hf := flatten_at (encs_len d.toList) (j := t / 2) (i := t % 2) (by omega)
 rw [<- e1] at hf
 rw [hf, List.getElem?_map, List.getElem?_eq_getElem (by simpa using h1)]
 simp only [Option.map_some, Option.bind_some, Array.getElem_toList]
 rw [getElem!_pos d (t / 2) h1]
 have h2 : t % 2 < 2 := by omega
 generalize t % 2 = r at *
 match r, h2 with
 | 0, _ => rfl
 | 1, _ => rfl
theorem holdsE {w : World} {base g cap : Nat} {l : List MEntry} {e : TypeId} {B : Nat} (h : RowR 2 e rEntry B w base (.slice (some ⟨g, 0, none⟩) l.length cap) l) : HoldsK encE 2 w g 0 l.toArray /\ g < w.heap.size /\ base <= g /\ ∃ cur, w.heap[g]? = some (.cells cur e (0, 0)) /\ cur.size = cap * 2 /\ l.length <= cap /\ cap <= maxLen /\ ∀ x, x ∈ l -> x.fName.size <= 9223372036854775807 /\ (Lit.int .i64 x.fId).wf = true := by
 obtain ⟨css, r1, r2, r3, r4⟩ := h
 have hcss : css = l.map encE := by
  apply List.ext_getElem (by simp [r1])
  intro i h1 h2
  obtain ⟨e1, _⟩ := r3 i (by omega) h1
  rw [e1]
  simp [encE]
 rcases r4.2 with ⟨h0, _⟩ | ⟨g', cap', cur, h0, hb, hg, hnc, hm, hs, ht⟩
 ·cases h0
 ·simp only [Value.slice.injEq, Option.some.injEq, Addr.mk.injEq, and_true, true_and] at h0
  obtain ⟨rfl, rfl⟩ := h0
  refine ⟨?_, (Array.getElem?_eq_some_iff.1 hg).1, hb, cur, hg, hs, hnc, hm, ?_⟩
  ·intro j hj
   have hj2 : j < l.toArray.size * 2 := by simpa using hj
   refine ⟨?_, frozen_of_row w g _ cur e hg⟩
   rw [Nat.zero_add, cell_of_row w g j cur e (0, 0) hg]
   have hf := flatK_at l.toArray j hj2
   have hlt : j < l.length * 2 := by simpa using hj2
   rw [List.toList_toArray, <- hcss, <- ht, List.getElem?_take, if_pos hlt] at hf
   show cur[j]? = some ((flatK encE 2 l.toArray)[j]!)
   rw [<- hf]
   simp
  ·intro x hx
   obtain ⟨i, hi, rfl⟩ := List.mem_iff_getElem.1 hx
   obtain ⟨_, e2, e3, _⟩ := r3 i hi (by omega)
   exact ⟨e2, e3⟩
theorem sortedE {w : World} {g cap n : Nat} {e : TypeId} {cur : Array Value} (hg : w.heap[g]? = some (.cells cur e (0, 0))) (hs : cur.size = cap * 2) (hnc : n <= cap) (hm : cap <= maxLen) (d : Array MEntry) (hd : d.size = n) (hx : ∀ x, x ∈ d.toList -> x.fName.size <= 9223372036854775807 /\ (Lit.int .i64 x.fId).wf = true) (m : Nat) (os : Array Obj) :
  ownS 2 e oEntry (sortWorldK encE 2 w g 0 m d os) (.slice (some ⟨g, 0, none⟩) n cap) d.toList [g] /\ Turn [g] w (sortWorldK encE 2 w g 0 m d os) := by
 have hgl : g < w.heap.size := (Array.getElem?_eq_some_iff.1 hg).1
 have hheap : (sortWorldK encE 2 w g 0 m d os).heap = w.heap.modify g (onCells (putCells id 0 (flatK encE 2 d))) ++ os := rfl
 have hblk : (sortWorldK encE 2 w g 0 m d os).heap[g]? = some (.cells (putCells id 0 (flatK encE 2 d) cur) e (0, 0)) := by
  rw [hheap, Array.getElem?_append_left (by simpa using hgl), Array.getElem?_modify, if_pos rfl, hg]
  rfl
 have hput : ∀ t, t < n * 2 -> (putCells id 0 (flatK encE 2 d) cur)[t]? = (d.toList.map encE).flatten[t]? := by
  intro t ht
  have hcur : t < cur.size := by rw [hs]; have := Nat.mul_le_mul_right 2 hnc; omega
  rw [flatK_at d t (by rw [hd]; exact ht)]
  unfold putCells
  rw [Array.getElem?_mapIdx, Array.getElem?_eq_getElem hcur]
  simp only [Option.map_some, Nat.zero_add, Nat.zero_le, true_and, size_flatK, Nat.sub_zero, id]
  rw [if_pos (by rw [hd]; exact ht)]
 have hrow : (sortWorldK encE 2 w g 0 m d os).ownsRow 0 e 2 (.slice (some ⟨g, 0, none⟩) n cap) n (d.toList.map encE).flatten := by
  refine ⟨by rw [flat_len (encs_len _)]; simp [hd], .inr ⟨g, cap, _, rfl, Nat.zero_le _, hblk, hnc, hm, by unfold putCells; rw [Array.size_mapIdx]; exact hs, ?_⟩⟩
  apply List.ext_getElem?
  intro t
  rw [List.getElem?_take]
  by_cases ht : t < n * 2
  ·rw [if_pos ht, <- hput t ht]
   simp
  ·rw [if_neg ht, List.getElem?_eq_none (by rw [flat_len (encs_len _)]; simp [hd]; omega)]
 refine ⟨?_, ⟨rfl, rfl, rfl, by rw [hheap]; simp, fun b hb hne => ?_⟩⟩
 ·have h := ownS_row (l := d.toList) (css := d.toList.map encE) (B := 0) (w0 := w) (n := n) (by simpa using hd) (by simp) (encs_len _) (fun j h1 h2 => by
   have := hx d.toList[j] (List.getElem_mem h1)
   rw [List.getElem_map]
   exact ⟨rfl, this.1, this.2, trivial⟩) hrow
  simpa [Value.ownBlock] using h
 ·rw [hheap, Array.getElem?_append_left (by simpa using hb), Array.getElem?_modify, if_neg (by simp at hne; omega)]
theorem sorted_rise {l : List MEntry} {d d' : Array MEntry} (hl : d.toList.Perm l) (hr : Rise l) (hp : PermIn 0 d.size d d') (hs : SortedIn (ltOf cmpE) 0 d.size d') : d'.toList = l := by
 obtain ⟨h1, _, h3⟩ := hp
 have e1 : (d'.extract 0 d.size).toList = d'.toList := by simp [<- h1]
 have e2 : (d.extract 0 d.size).toList = d.toList := by simp
 rw [e1, e2] at h3
 have hperm : d'.toList.Perm l := h3.trans hl
 refine rise_unique hperm ?_ hr
 have hnd : l.Pairwise (fun x y => x.fName ≠ y.fName) := hr.imp (fun h e => by rw [e, strLt_irrefl] at h; cases h)
 have hnd' : d'.toList.Pairwise (fun x y => x.fName ≠ y.fName) := hperm.symm.pairwise hnd (fun {a b} h => Ne.symm h)
 unfold Rise
 rw [List.pairwise_iff_getElem] at hnd' ⊢
 intro i j hi hj hij
 have h4 := hs i j (Nat.zero_le _) hij (by simp at hj; omega)
 have hi' : i < d'.size := by simpa using hi
 have hj' : j < d'.size := by simpa using hj
 rw [getElem!_pos d' i hi', getElem!_pos d' j hj', ltOfE] at h4
 have h5 := hnd' i j hi hj hij
 simp only [Array.getElem_toList] at h5 ⊢
 exact strLt_tri h4 (Ne.symm h5)
end
end Go.Proofs.YtegonncmopecnaaGreatDoor

namespace Go.Proofs.YtegonncmopecnaaGreatDoor
open Go.RowKit Go.Maps Go.Shelf Go.Lib Go.Sort
set_option maxHeartbeats 2000000 in
theorem insNone (p : Option Addr) (cap : Nat) (fv : Value) (w : World) :
  Calls Tryz.prog 102 #[.slice p 0 cap, .int .i64 0, .int .i64 0, fv] w fun e w' => e = .returned (.tuple #[]) /\ w' = w := by
 go_enter Tryz.func102, Tryz.ntmps102
 go_wp2
 refine wp_loop_rounds 1 ?_
 rw [rounds_succ]
 go_wp2
 go_end0
 exact ⟨rfl, rfl⟩
set_option maxHeartbeats 2000000 in
theorem pdqNone (p : Option Addr) (cap : Nat) (lim : Int) (fv : Value) (w : World) :
  Calls Tryz.prog 99 #[.slice p 0 cap, .int .i64 0, .int .i64 0, .int .i64 lim, fv] w fun e w' => e = .returned (.tuple #[]) /\ w' = w := by
 have hi := fun W => insNone p cap fv W
 go_enter Tryz.func99, Tryz.ntmps99
 go_wp2_with fail
 refine wp_loop_rounds 1 ?_
 rw [rounds_succ]
 go_wp2_with (go_at_call 102; refine (hi _).mono ?_; rintro e w' ⟨rfl, rfl⟩)
 (try simp only [Exit.inBlock, Exit.then])
 refine bodyPost_ret (results_none rfl _ _ _) rfl ?_
 exact ⟨rfl, rfl⟩
set_option maxHeartbeats 2000000 in
theorem sortNone (p : Option Addr) (cap : Nat) (fv : Value) (w : World) :
  Calls Tryz.prog 96 #[.slice p 0 cap, fv] w fun e w' => e = .returned (.tuple #[]) /\ w' = w := by
 have hp := fun lim W => pdqNone p cap lim fv W
 have hl : ∀ W, Calls Tryz.prog 100 #[.int .u64 0] W fun e w' => e = .returned (.int .i64 (Lib.bitLen 0 : Nat)) /\ w' = W := fun W => by
  have h := Any.bits_Len (SlLaysF0.n15.bits (P := Tryz.prog) (ρ := sortEnt_ren) { sortEnt with }) 0 W (by omega) (by omega)
  exact h
 go_enter Tryz.func96, Tryz.ntmps96
 go_wp2_with (first | (go_at_call 100; refine (hl _).mono ?_; rintro e w' ⟨rfl, rfl⟩) | (go_at_call 99; refine (hp _ _).mono ?_; rintro e w' ⟨rfl, rfl⟩))
 go_end0
 exact ⟨rfl, rfl⟩
theorem keyStr_inv {key : Value} {kl : Lit} (h : keyOf Tryz.prog 9 key = some kl) : ∃ s : ByteArray, key = .string s := by
 obtain ⟨x, rfl, _⟩ := Maps.keyOf_str Tryz.underlying9 h
 exact ⟨_, rfl⟩
theorem keyStr_is {s : ByteArray} {kl : Lit} (h : keyOf Tryz.prog 9 (.string s) = some kl) : kl = kS s /\ s.size <= 9223372036854775807 := by
 obtain ⟨x, hx, rfl, hl⟩ := Maps.keyOf_str Tryz.underlying9 h
 simp only [encStr, Value.string.injEq] at hx
 subst hx
 refine ⟨by simp [kS], ?_⟩
 have h2 : (ByteArray.mk x.toArray).size = x.length := by show x.toArray.size = _; simp
 unfold maxLen at hl
 omega
theorem met_entry {D : DataW Unit} {l : List MEntry} (hM : MapIs D l) {s : ByteArray} {c : Int} (hat : ∀ zd, D.atKey (kS s) zd = .lit (.int .i64 c)) : (⟨s, c⟩ : MEntry) ∈ l := by
 have hh : Maps.has D (kS s) = true := has_true_of_atKey hat
 obtain ⟨e, he, hn⟩ := hasName_iff.1 ((hM.2.1 s).1 hh)
 have h1 := hM.2.2 e he
 rw [hn, hat] at h1
 simp only [DataW.lit.injEq, Lit.int.injEq, true_and] at h1
 have : (⟨s, c⟩ : MEntry) = e := by cases e; simp at hn h1; subst hn; subst h1; rfl
 rw [this]
 exact he
theorem nodup_fitB {l m : List (List UInt8)} (h : l.Nodup) (hs : ∀ x, x ∈ l -> x ∈ m) : l.length <= m.length := by
 induction l generalizing m with
 | nil => simp
 | cons x r ih =>
  have hn := List.nodup_cons.1 h
  have hx := hs x (by simp)
  have h1 := ih hn.2 (m := m.erase x) (fun y hy => (List.mem_erase_of_ne (fun (e : y = x) => hn.1 (by rw [<- e]; exact hy))).2 (hs y (by simp [hy])))
  have h2 := List.length_erase_of_mem hx
  have h3 : 0 < m.length := List.length_pos_of_mem hx
  simp only [List.length_cons]
  omega
theorem met_fit {l o : List MEntry} {left : Lit -> Bool} (h : Met l left o) : o.length <= l.length := by
 have h1 := nodup_fitB (l := o.map (fun e => e.fName.data.toList)) (m := l.map (fun e => e.fName.data.toList)) (List.pairwise_map.2 (h.once.imp (fun {a b} (hne : a.fName ≠ b.fName) (he : a.fName.data.toList = b.fName.data.toList) => kS_ne hne (by unfold kS; rw [he])))) (fun x hx => by
  obtain ⟨e, he, rfl⟩ := List.mem_map.1 hx
  exact List.mem_map.2 ⟨e, h.sub e he, rfl⟩)
 simpa using h1
theorem RowR.shape {α : Type} {size : Nat} {e : TypeId} {R : Rep α} {B base : Nat} {w : World} {v : Value} {l : List α} (h : RowR size e R B w base v l) (hl : 0 < l.length) : ∃ g cap, v = .slice (some ⟨g, 0, none⟩) l.length cap := by
 obtain ⟨css, r1, r2, r3, r4⟩ := h
 rcases r4.2 with ⟨_, h0⟩ | ⟨g, cap, cur, rfl, _⟩
 ·omega
 ·exact ⟨g, cap, rfl⟩
set_option maxHeartbeats 2000000 in
theorem entryList_any (b n : Nat) (D : DataW Unit) (l : List MEntry) (w : World) (hown : w.ownsMap Tryz.prog 9 (plainElem Tryz.prog 3) b n D) (hM : MapIs D l) (hr : Rise l) (hl : l.length <= 1000) :
  Calls Tryz.prog 95 #[.map (some b)] w fun e w' => ∃ (a : Option Addr) (c : Nat) (F : List Nat), e = .returned (.slice a l.length c) /\ ownS 2 74 oEntry w' (.slice a l.length c) l F /\ (∀ x, x ∈ F -> w.heap.size <= x) /\ Below w.heap.size w w' := by
 obtain ⟨iE, hiE, hzE0, hzE1, hzE2⟩ := info_parts Tryz.infoOfEntry
 have HM := Hm hM
 have HRI := Hm hr
 have hbl := ownsMap_lt hown
 clear hM hr
 go_enter Tryz.func95, Tryz.ntmps95
 go_wp2_with (at_range; refine wpList_range_own _ rfl _ 77 rfl 9 3 lawStr Tryz.underlying77 _ b n D rfl hown ?_; intro w0 hrg0 hg0 hs0)
 have hb0 : Below w.heap.size w w0 := rB.grown hg0 rN (fun k h => by cases h)
 have hs0' : w.heap.size + 1 <= w0.heap.size := by omega
 have HS0 := Hm hs0
 clear hs0 hg0
 go_frame
 go_loopw [3] (fun v wr => ∃ (left : Lit -> Bool) (cnt : Nat) (o : List MEntry), wr.ranges Tryz.prog 9 (plainElem Tryz.prog 3) b w.heap.size n D left cnt /\ Met l left o /\ RowR 2 74 rEntry w.heap.size wr (w.heap.size + 1) v o /\ Below w.heap.size w wr /\ w.heap.size + 1 <= wr.heap.size) (fun _ wr => wr.rangeLeft b w.heap.size)
 case atStart => exact ⟨_, _, [], hrg0, Met.start HM.out, RowR.start, hb0, hs0'⟩
 case round =>
  obtain ⟨left, cnt, o, hrg, hmet, hrow, hbk, hzk⟩ := hrel
  have HMET := Hm hmet
  have HROW := Hm hrow
  have hol : o.length <= 1000 := Nat.le_trans (met_fit hmet) hl
  clear hmet hrow hrg0 hb0 hs0'
  go_wp2_with (at_next; refine wpList_next_ranges _ rfl _ rfl 9 lawStr (plainElem Tryz.prog 3) Value.string (Value.int .i64) (fun key kl hkey => keyStr_inv hkey) (fun v y hv => by obtain ⟨c, rfl, _⟩ := plainElem_int_inv Tryz.underlying3 hv; exact ⟨c, rfl⟩) b w.heap.size n D left cnt rfl hrg ?_ ?_)
  ·intro hc0 hl0
   have hperm := HMET.out.perm HRI.out hl0
   have hlen : o.length = l.length := hperm.length_eq
   have HPERM := Hm hperm
   by_cases hl1 : l.length = 0
   ·have hln : l = [] := List.eq_nil_of_length_eq_zero hl1
    have hon : o = [] := List.eq_nil_of_length_eq_zero (by omega)
    subst hln
    subst hon
    obtain ⟨ar, cr, hv, _⟩ := HROW.out.leaf rEntry_good hbk.size
    subst hv
    have hos : ∃ F, ownS 2 74 oEntry wr (.slice ar 0 cr) [] F /\ ∀ x, x ∈ F -> w.heap.size <= x := by
     obtain ⟨css, r1, r2, r3, r4⟩ := HROW.out
     refine ⟨_, ownS_row (l := []) (n := 0) (B := w.heap.size) (w0 := wr) rfl r1 r2 (fun j h1 => by simp at h1) r4, fun x hx => ?_⟩
     have := (r4.lt x (by simpa using hx)).1
     omega
    have HOS := Hm hos
    clear hos hperm hc0 hl0 hrg
    simp only [List.length_nil] at *
    go_wp2_with (go_at_call 96; refine (sortNone ar cr _ _).mono ?_; rintro e w' ⟨rfl, rfl⟩)
    obtain ⟨F, h1, h2⟩ := HOS.out
    go_ret
    exact ⟨ar, cr, F, rfl, h1, h2, hbk⟩
   ·letI := inhE
    obtain ⟨g, cap, hv⟩ := RowR.shape HROW.out (by omega)
    subst hv
    obtain ⟨hH, hgl, hgb, cur, hg, hs, hnc, hmx, hxe⟩ := holdsE HROW.out
    have hcon := sortE_any g cap o.toArray wr hH hgl (by simp; omega)
    simp only [List.size_toArray] at hcon
    have HCON : Hid (∀ d' : Array MEntry, PermIn 0 o.length o.toArray d' -> SortedIn (ltOf cmpE) 0 o.length d' -> d'.toList = l) := fun d' h1 h2 => sorted_rise (d := o.toArray) (by simpa using HPERM.out) HRI.out (by simpa using h1) (by simpa using h2)
    have HSO : Hid (∀ (d' : Array MEntry) (m : Nat) (os : Array Obj), d'.toList = l -> ownS 2 74 oEntry (sortWorldK encE 2 wr g 0 m d' os) (.slice (some ⟨g, 0, none⟩) l.length cap) l [g] /\ Turn [g] wr (sortWorldK encE 2 wr g 0 m d' os)) := fun d' m os hd => by
     have h := sortedE (n := l.length) hg hs (by omega) hmx d' (by rw [<- hd]; simp) (fun x hx => hxe x (HPERM.out.mem_iff.2 (by rw [<- hd]; exact hx))) m os
     rw [hd] at h
     exact h
    clear hperm hc0 hl0 hrg hH hxe hg hs
    rw [hlen] at hcon ⊢
    go_wp2_with (go_at_call 96; refine hcon.mono ?_; rintro e w' ⟨rfl, d', m, os, h1, h2, rfl⟩)
    have hd := HCON.out d' (by rw [hlen]; exact h1) (by rw [hlen]; exact h2)
    obtain ⟨h3, h4⟩ := HSO.out d' m os hd
    go_ret
    exact ⟨some ⟨g, 0, none⟩, cap, [g], rfl, h3, fun x hx => by simp at hx; omega, hbk.trans (h4.below (fun k hk => by simp at hk; omega) hbk.size)⟩
  ·intro x c kl yd yp w1 cnt1 hkey hlk hv hat hrg1 hlt hg1 hs1 hen
   obtain ⟨hkl, hsz⟩ := keyStr_is hkey
   subst hkl
   obtain ⟨c', ec, ey, hwc⟩ := plainElem_int_inv Tryz.underlying3 hv
   cases ec
   simp only [Prod.mk.injEq] at ey
   obtain ⟨rfl, rfl⟩ := ey
   have HMET2 := Hm (HMET.out.step HRI.out (met_entry HM.out hat) hlk)
   have hT1 : Turn [w.heap.size] wr w1 := Turn.ofGrown hg1 (fun k hk => by cases hk; simp)
   have hrow1 := RowR.turn rEntry_good HROW.out hT1 (fun k hk => by simp at hk; omega) hbk.size rN
   have hb1 : Below w.heap.size w w1 := hbk.trans (hT1.below (fun k hk => by simp at hk; omega) hbk.size)
   have hz1 : w.heap.size + 1 <= w1.heap.size := by omega
   obtain ⟨css, r1, r2, r3, r4⟩ := hrow1
   have HRG := Hm hrg
   have HRG1 := Hm hrg1
   have hlc := hlt
   clear hs1 hat hlk hkey hv hrg hrg1 HROW HMET hT1 hg1
   go_wp2_with (at_builtin; refine wpList_append_own_at _ rfl _ _ 25 rfl (w.heap.size + 1) 74 iE (.agg #[.string ⟨#[]⟩, .int .i64 0]) 2 24 Tryz.underlying25 hiE hzE0 hzE1 hzE2 rfl (by decide) _ _ _ rfl (own_below r4 (rB.alloc rN _)) ⟨w1.heap.size, 0, none⟩ 1 1 [.string x, .int .i64 c] rfl rfl (bx_news (Bx.new w1 _ _)) (by intro u hu; simp at hu; rcases hu with rfl | rfl <;> rfl) (by unfold maxLen; omega) (by omega) (by simp; omega) ?_; intro v' w3 hown3 hgrow3 hnil hloc)
   have hT := Turn.after ((Below.refl w1.heap.size w1).alloc rN _) (turnOwn hgrow3)
   have hge : ∀ k, k ∈ (Value.ownBlock _).toList -> w.heap.size + 1 <= k := fun k hk => (r4.lt k (by simpa using hk)).1
   have hBl : Below w.heap.size w1 w3 := Turn.below hT (fun k hk => by have := hge k hk; omega) (by omega)
   have hrg3 := (HRG1.out.alloc (.cells #[.string x, .int .i64 c] 74)).kept hgrow3 (fun e => by have := (r4.lt b e.symm).1; omega) (fun e => by have := (r4.lt w.heap.size e.symm).1; omega)
   go_roundw
   case rel => exact ⟨_, cnt1, o ++ [⟨x, c⟩], hrg3, HMET2.out, RowR.push rEntry_good r1 r2 r3 hBl rfl ⟨rfl, hsz, hwc, trivial⟩ hown3, hb1.trans hBl, Nat.le_trans hz1 hT.size⟩
   case measure => rw [hrg3.left_eq, HRG.out.left_eq]; omega
end Go.Proofs.YtegonncmopecnaaGreatDoor

namespace Go.Proofs.YtegonncmopecnaaGreatDoor
open Go.RowKit Go.Maps
theorem rKeepR {B base : Nat} {W : World} {ak b1 b2 : Option Addr} {ck d1 d2 : Nat} {n : MDisk} (h : RowR 3 50 rInode B W base (.slice ak (keepI n).length ck) (keepI n)) (hB : B <= W.heap.size) (hN : LeafL 2 rEntry B W b1 d1 n.fNames) (hS : LeafL 2 rEntry B W b2 d2 n.fSafe) (hx : (Lit.int .i64 n.fNext).wf = true) :
  rDisk W.heap.size W [.slice ak (keepI n).length ck, .slice b1 n.fNames.length d1, .slice b2 n.fSafe.length d2, .int .i64 n.fNext] (keepD n) := by
 obtain ⟨a', c', he, h1⟩ := h.leaf rInode_good hB
 simp only [Value.slice.injEq, true_and] at he
 obtain ⟨rfl, rfl⟩ := he
 exact ⟨ak, ck, b1, d1, b2, d2, rfl, h1, LeafL.mono rEntry_good hN hB, LeafL.mono rEntry_good hS hB, hx, trivial⟩
set_option maxHeartbeats 4000000 in
theorem implSyncDir_c (cs : List Value) (m : MDisk) (w : World) (hr : rDisk w.heap.size w cs m) (hw : wDisk m <= 1048576) :
  Calls Tryz.prog 55 #[.agg cs.toArray] w fun e w' => ∃ (cs' : List Value) (F : List Nat), e = .returned (.tuple #[.agg cs'.toArray, .int .i64 (syncDirC m)]) /\ oDisk w' cs' (syncDirP m) F /\ F.Nodup /\ (∀ b, b ∈ F -> w.heap.size <= b) /\ Below w.heap.size w w' := by
 have hq := hr
 obtain ⟨a0, c0, a1, c1, a2, c2, rfl, hI, hNm, hSf, hnx, _⟩ := hq
 have hw2 : m.fInodes.length + sumW wInode m.fInodes + (m.fNames.length + sumW wEntry m.fNames) + (m.fSafe.length + sumW wEntry m.fSafe) <= 1048576 := hw
 have HW := Hm hw
 have HR := Hm hr
 have HI := Hm hI
 have HNM := Hm hNm
 clear hr hI hNm hSf hw
 go_enter Tryz.func55, Tryz.ntmps55
 go_wp2_with fail
 obtain ⟨wq, hwq⟩ : ∃ wq, wq = ((w.alloc (.cells #[.slice a0 m.fInodes.length c0, .slice a1 m.fNames.length c1, .slice a2 m.fSafe.length c2, .int .i64 m.fNext] 27)).alloc (.cells #[.slice none 0 0, .slice none 0 0, .slice none 0 0, .int .i64 0] 27)) := ⟨_, rfl⟩
 have hbW : Below w.heap.size w wq := by rw [hwq]; exact Below.alloc (Below.alloc rB (by exact rN) _) (by simp; try omega) _
 have hbd : Bw wq (w.heap.size) 27 [.slice a0 m.fInodes.length c0, .slice a1 m.fNames.length c1, .slice a2 m.fSafe.length c2, .int .i64 m.fNext] := by rw [hwq]; exact Bw.alloc (Bw.new' _ _ _ (by simp)) _
 have hbr : Bw wq (w.heap.size + 1) 27 [.slice none 0 0, .slice none 0 0, .slice none 0 0, .int .i64 0] := by rw [hwq]; exact Bw.new' _ _ _ (by simp)
 rw [<- hwq]
 clear hwq
 refine (implDiskOk_c _ m wq (rDisk_good.mono (rDisk_good.below HR.out hbW) hbW.size) HW.out).mono ?_
 rintro e w1 ⟨rfl, hx1⟩
 have hb1 := bthen hbW hx1
 have hbd1 := hbd.under hx1
 have hbr1 := hbr.under hx1
 have hl1 := hbd1.lt
 have hl1r := hbr1.lt
 obtain ⟨y0, y1, y2, y3⟩ := hbd1.c4
 clear hbd hbr
 by_cases hK : diskOk m = true
 ·have HV : Hid (syncDirP m = keepD { m with fSafe := m.fNames } /\ syncDirC m = 0) := by refine ⟨?_, ?_⟩ <;> simp [syncDirP, syncDirC, hK]
  have hwt := ok_weight hK
  have hwk : wDisk { m with fSafe := m.fNames } <= 1048576 := by rw [wDisk_eq]; simp only; omega
  have HWK1 : Hid (wDisk { m with fSafe := m.fNames } <= 16777216) := by show _ <= _; omega
  have HWK : Hid (wDisk (keepD { m with fSafe := m.fNames }) <= 1048576) := Nat.le_trans (keepD_weight _) hwk
  rw [hK]
  clear hK hwt hwk
  have f2 := hbd1.free 2
  go_wp2_with fail
  obtain ⟨ws, hws⟩ : ∃ ws, ws = w1.setCell ⟨w.heap.size, 2, none⟩ (.slice a1 m.fNames.length c1) := ⟨_, rfl⟩
  have hTs : Turn [w.heap.size] w1 ws := by rw [hws]; exact Turn.setCell (Turn.refl _ _) (by simp) _
  have hbds : Bw ws w.heap.size 27 [.slice a0 m.fInodes.length c0, .slice a1 m.fNames.length c1, .slice a1 m.fNames.length c1, .int .i64 m.fNext] := by rw [hws]; exact hbd1.put 2 _
  rw [<- hws]
  clear hws y0 y1 y2 y3 f2
  have hbrs := hbr1.turn hTs (by simp)
  have hBs : Below w.heap.size w ws := hb1.trans (hTs.below (fun k hk => by simp at hk; omega) hb1.size)
  refine (namedInodes_rowB a0 a1 a1 c0 c1 c1 { m with fSafe := m.fNames } ws w.heap.size hBs.size (HI.out.below rInode_good hBs) (LeafL.mono rEntry_good (HNM.out.below rEntry_good hBs) hBs.size) (LeafL.mono rEntry_good (HNM.out.below rEntry_good hBs) hBs.size) HWK1.out).mono ?_
  rintro e w2 ⟨ak, ck, rfl, hrow, _, hx2⟩
  have HROW := Hm hrow
  have hb2 := bthen hBs hx2
  have hbd2 := hbds.under hx2
  have hbr2 := hbrs.under hx2
  have hl2 := hbd2.lt
  have hl2s := hbds.lt
  have hl2r := hbrs.lt
  obtain ⟨y0, y1, y2, y3⟩ := hbd2.c4
  have f0 := hbd2.free 0
  clear hrow
  go_wp2_with fail
  obtain ⟨wt, hwt⟩ : ∃ wt, wt = w2.setCell ⟨w.heap.size, 0, none⟩ (.slice ak (keepI { m with fSafe := m.fNames }).length ck) := ⟨_, rfl⟩
  have hTt : Turn [w.heap.size] w2 wt := by rw [hwt]; exact Turn.setCell (Turn.refl _ _) (by simp) _
  rw [<- hwt]
  clear hwt y0 y1 y2 y3 f0
  have hbrt := hbr2.turn hTt (by simp)
  have hBt : Below w.heap.size w wt := hb2.trans (hTt.below (fun k hk => by simp at hk; omega) hb2.size)
  have hrk := rKeepR (RowR.turn rInode_good HROW.out hTt (fun k hk => by simp at hk; omega) hb2.size rN) hBt.size (HNM.out.below rEntry_good hBt) (HNM.out.below rEntry_good hBt) hnx
  refine (copyDisk_any _ (keepD { m with fSafe := m.fNames }) wt hrk HWK.out).mono ?_
  rintro e w3 ⟨cs3, F3, rfl, ho3, hN3, hge3, hx3⟩
  have hb3 := bthen hBt hx3
  have hbr3 := hbrt.under hx3
  have hl3 := hbr3.lt
  have hz3 := hBt.size
  have hlq3 := hbrt.lt
  obtain ⟨q0, p0, q1, p1, q2, p2, G0, G1, G2, rfl, _, _, _, _, rfl⟩ := oDisk_cells ho3
  have hkey : ∀ W', Turn [w.heap.size + 1] w3 W' -> oDisk W' [.slice q0 (keepD { m with fSafe := m.fNames }).fInodes.length p0, .slice q1 (keepD { m with fSafe := m.fNames }).fNames.length p1, .slice q2 (keepD { m with fSafe := m.fNames }).fSafe.length p2, .int .i64 (keepD { m with fSafe := m.fNames }).fNext] (keepD { m with fSafe := m.fNames }) (G0 ++ G1 ++ G2 ++ []) /\ Below w.heap.size w W' := fun W' hT =>
   ⟨oDisk_good.frame ho3 (fun b hb => hT.block b (oDisk_good.lt ho3 b hb) (fun h => by simp at h; have := hge3 b hb; omega)), hb3.trans (hT.below (fun k hk => by simp at hk; omega) hb3.size)⟩
  have HKEY := Hm hkey
  have HNQ := Hm hN3
  have HGQ : Hid (∀ b, b ∈ G0 ++ G1 ++ G2 ++ [] -> w.heap.size <= b) := fun b hb => by have := hge3 b hb; omega
  clear hkey ho3 hN3 hge3 
  obtain ⟨ze0, ze1, ze2, ze3⟩ := hbr3.c4
  obtain ⟨zf0, zf1, zf2, zf3⟩ := hbr3.f4
  go_wp2_with fail
  obtain ⟨h1, h3⟩ := HKEY.out _ (show Turn [w.heap.size + 1] w3 ((((w3.setCell ⟨w.heap.size + 1, 0, none⟩ (.slice q0 (keepD { m with fSafe := m.fNames }).fInodes.length p0)).setCell ⟨w.heap.size + 1, 1, none⟩ (.slice q1 (keepD { m with fSafe := m.fNames }).fNames.length p1)).setCell ⟨w.heap.size + 1, 2, none⟩ (.slice q2 (keepD { m with fSafe := m.fNames }).fSafe.length p2)).setCell ⟨w.heap.size + 1, 3, none⟩ (.int .i64 (keepD { m with fSafe := m.fNames }).fNext)) from turn4 _ _ _ _ _ _)
  exact bodyPost_ret (v := .tuple #[.agg #[.slice q0 (keepD { m with fSafe := m.fNames }).fInodes.length p0, .slice q1 (keepD { m with fSafe := m.fNames }).fNames.length p1, .slice q2 (keepD { m with fSafe := m.fNames }).fSafe.length p2, .int .i64 (keepD { m with fSafe := m.fNames }).fNext], .int .i64 0]) (by simp [results, Tryz.results55, go_sem, *]) rfl ⟨[.slice q0 (keepD { m with fSafe := m.fNames }).fInodes.length p0, .slice q1 (keepD { m with fSafe := m.fNames }).fNames.length p1, .slice q2 (keepD { m with fSafe := m.fNames }).fSafe.length p2, .int .i64 (keepD { m with fSafe := m.fNames }).fNext], _, by rw [HV.out.2], by rw [HV.out.1]; exact h1, HNQ.out, HGQ.out, h3⟩
 ·have hK2 : diskOk m = false := Bool.eq_false_iff.2 hK
  have HV : Hid (syncDirP m = m /\ syncDirC m = 1) := by refine ⟨?_, ?_⟩ <;> simp [syncDirP, syncDirC, hK2]
  rw [hK2]
  clear hK hK2
  go_wp2_with fail
  refine (copyDisk_any _ (m) w1 (rDisk_good.mono (rDisk_good.below HR.out hb1) hb1.size) HW.out).mono ?_
  rintro e w3 ⟨cs3, F3, rfl, ho3, hN3, hge3, hx3⟩
  have hb3 := bthen hb1 hx3
  have hbr3 := hbr1.under hx3
  have hl3 := hbr3.lt
  have hz3 := hb1.size
  have hlq3 := hbr1.lt
  obtain ⟨q0, p0, q1, p1, q2, p2, G0, G1, G2, rfl, _, _, _, _, rfl⟩ := oDisk_cells ho3
  have hkey : ∀ W', Turn [w.heap.size + 1] w3 W' -> oDisk W' [.slice q0 m.fInodes.length p0, .slice q1 m.fNames.length p1, .slice q2 m.fSafe.length p2, .int .i64 m.fNext] (m) (G0 ++ G1 ++ G2 ++ []) /\ Below w.heap.size w W' := fun W' hT =>
   ⟨oDisk_good.frame ho3 (fun b hb => hT.block b (oDisk_good.lt ho3 b hb) (fun h => by simp at h; have := hge3 b hb; omega)), hb3.trans (hT.below (fun k hk => by simp at hk; omega) hb3.size)⟩
  have HKEY := Hm hkey
  have HNQ := Hm hN3
  have HGQ : Hid (∀ b, b ∈ G0 ++ G1 ++ G2 ++ [] -> w.heap.size <= b) := fun b hb => by have := hge3 b hb; omega
  clear hkey ho3 hN3 hge3 y0 y1 y2 y3
  obtain ⟨ze0, ze1, ze2, ze3⟩ := hbr3.c4
  obtain ⟨zf0, zf1, zf2, zf3⟩ := hbr3.f4
  go_wp2_with fail
  obtain ⟨h1, h3⟩ := HKEY.out _ (show Turn [w.heap.size + 1] w3 ((((w3.setCell ⟨w.heap.size + 1, 0, none⟩ (.slice q0 m.fInodes.length p0)).setCell ⟨w.heap.size + 1, 1, none⟩ (.slice q1 m.fNames.length p1)).setCell ⟨w.heap.size + 1, 2, none⟩ (.slice q2 m.fSafe.length p2)).setCell ⟨w.heap.size + 1, 3, none⟩ (.int .i64 m.fNext)) from turn4 _ _ _ _ _ _)
  exact bodyPost_ret (v := .tuple #[.agg #[.slice q0 m.fInodes.length p0, .slice q1 m.fNames.length p1, .slice q2 m.fSafe.length p2, .int .i64 m.fNext], .int .i64 1]) (by simp [results, Tryz.results55, go_sem, *]) rfl ⟨[.slice q0 m.fInodes.length p0, .slice q1 m.fNames.length p1, .slice q2 m.fSafe.length p2, .int .i64 m.fNext], _, by rw [HV.out.2], by rw [HV.out.1]; exact h1, HNQ.out, HGQ.out, h3⟩
set_option maxHeartbeats 4000000 in
theorem withNames_any (cs : List Value) (m : MDisk) (b nn : Nat) (Dm : DataW Unit) (N : List MEntry) (w : World) (hr : rDisk w.heap.size w cs m) (hown : w.ownsMap Tryz.prog 9 (plainElem Tryz.prog 3) b nn Dm) (hM : MapIs Dm N) (hRi : Rise N) (hNl : N.length <= 1000) (hw : wDisk { m with fNames := N } <= 1048576) :
  Calls Tryz.prog 81 #[.agg cs.toArray, .map (some b)] w fun e w' => ∃ (cs' : List Value) (F : List Nat), e = .returned (.agg cs'.toArray) /\ oDisk w' cs' (keepD { m with fNames := N }) F /\ F.Nodup /\ (∀ x, x ∈ F -> w.heap.size <= x) /\ Below w.heap.size w w' := by
 have hq := hr
 obtain ⟨a0, c0, a1, c1, a2, c2, rfl, hI, hNm, hSf, hnx, _⟩ := hq
 have HW := Hm hw
 have HI := Hm hI
 have HSF := Hm hSf
 have HM := Hm hM
 have HRi := Hm hRi
 have HWK : Hid (wDisk (keepD { m with fNames := N }) <= 1048576) := Nat.le_trans (keepD_weight _) hw
 clear hr hI hNm hSf hw hM hRi
 go_enter Tryz.func81, Tryz.ntmps81
 go_wp2_with fail
 obtain ⟨wq, hwq⟩ : ∃ wq, wq = ((w.alloc (.cells #[.slice a0 m.fInodes.length c0, .slice a1 m.fNames.length c1, .slice a2 m.fSafe.length c2, .int .i64 m.fNext] 27)).alloc (.cells #[.slice none 0 0, .slice none 0 0, .slice none 0 0, .int .i64 0] 27)) := ⟨_, rfl⟩
 have hbW : Below w.heap.size w wq := by rw [hwq]; exact Below.alloc (Below.alloc rB (by exact rN) _) (by simp; try omega) _
 have hbd : Bw wq (w.heap.size) 27 [.slice a0 m.fInodes.length c0, .slice a1 m.fNames.length c1, .slice a2 m.fSafe.length c2, .int .i64 m.fNext] := by rw [hwq]; exact Bw.alloc (Bw.new' _ _ _ (by simp)) _
 have hbr : Bw wq (w.heap.size + 1) 27 [.slice none 0 0, .slice none 0 0, .slice none 0 0, .int .i64 0] := by rw [hwq]; exact Bw.new' _ _ _ (by simp)
 rw [<- hwq]
 clear hwq
 have hq0 := hbW.size
 have hlr := hbr.lt
 refine (entryList_any b nn Dm N wq (ownsMap_below hown hbW) HM.out HRi.out hNl).mono ?_
 rintro e w1 ⟨an, cn, FN, rfl, hoN, hgN, hx1⟩
 have hb1 := bthen hbW hx1
 have hbd1 := hbd.under hx1
 have hbr1 := hbr.under hx1
 have hl1 := hbd1.lt
 have hl1r := hbr1.lt
 have HON := Hm hoN
 have HGN := Hm hgN
 have f1 := hbd1.free 1
 obtain ⟨y0, y1, y2, y3⟩ := hbd1.c4
 clear hbd hbr hoN hgN hown
 go_wp2_with fail
 obtain ⟨ws, hws⟩ : ∃ ws, ws = w1.setCell ⟨w.heap.size, 1, none⟩ (.slice an N.length cn) := ⟨_, rfl⟩
 have hTs : Turn [w.heap.size] w1 ws := by rw [hws]; exact Turn.setCell (Turn.refl _ _) (by simp) _
 have hbds : Bw ws w.heap.size 27 [.slice a0 m.fInodes.length c0, .slice an N.length cn, .slice a2 m.fSafe.length c2, .int .i64 m.fNext] := by rw [hws]; exact hbd1.put 1 _
 rw [<- hws]
 clear hws y0 y1 y2 y3 f1
 have hbrs := hbr1.turn hTs (by simp)
 have hBs : Below w.heap.size w ws := hb1.trans (hTs.below (fun k hk => by simp at hk; omega) hb1.size)
 have hoNs := ownS.frame (w' := ws) oEntry_good HON.out (fun x hx => hTs.block x (ownS.lt oEntry_good HON.out x hx) (by have := HGN.out x hx; simp; omega))
 have HONS := Hm hoNs
 refine (namedInodes_rowB a0 an a2 c0 cn c2 { m with fNames := N } ws w.heap.size hBs.size (HI.out.below rInode_good hBs) (ownS.leaf oEntry_good hoNs) (LeafL.mono rEntry_good (HSF.out.below rEntry_good hBs) hBs.size) (by have := HW.out; omega)).mono ?_
 rintro e w2 ⟨ak, ck, rfl, hrow, _, hx2⟩
 have HROW := Hm hrow
 have hb2 := bthen hBs hx2
 have hbd2 := hbds.under hx2
 have hbr2 := hbrs.under hx2
 have hl2 := hbd2.lt
 have hl2s := hbds.lt
 have hl2r := hbrs.lt
 obtain ⟨y0, y1, y2, y3⟩ := hbd2.c4
 have f0 := hbd2.free 0
 clear hrow hoNs
 go_wp2_with fail
 obtain ⟨wt, hwt⟩ : ∃ wt, wt = w2.setCell ⟨w.heap.size, 0, none⟩ (.slice ak (keepI { m with fNames := N }).length ck) := ⟨_, rfl⟩
 have hTt : Turn [w.heap.size] w2 wt := by rw [hwt]; exact Turn.setCell (Turn.refl _ _) (by simp) _
 rw [<- hwt]
 clear hwt y0 y1 y2 y3 f0
 have hbrt := hbr2.turn hTt (by simp)
 have hBt : Below w.heap.size w wt := hb2.trans (hTt.below (fun k hk => by simp at hk; omega) hb2.size)
 have hoNt := ownS.frame (w' := wt) oEntry_good HONS.out (fun x hx => (hTt.block x (Nat.lt_of_lt_of_le (ownS.lt oEntry_good HONS.out x hx) hx2.size) (by have := HGN.out x hx; simp; omega)).trans (hx2.block x (ownS.lt oEntry_good HONS.out x hx)))
 have hrk : rDisk wt.heap.size wt [.slice ak (keepI { m with fNames := N }).length ck, .slice an N.length cn, .slice a2 m.fSafe.length c2, .int .i64 m.fNext] (keepD { m with fNames := N }) := by
  obtain ⟨a', c', he, h1⟩ := (RowR.turn rInode_good HROW.out hTt (fun k hk => by simp at hk; omega) hb2.size rN).leaf rInode_good hBt.size
  simp only [Value.slice.injEq, true_and] at he
  obtain ⟨rfl, rfl⟩ := he
  exact ⟨ak, ck, an, cn, a2, c2, rfl, h1, ownS.leaf oEntry_good hoNt, LeafL.mono rEntry_good (HSF.out.below rEntry_good hBt) hBt.size, hnx, trivial⟩
 clear hoNt
 obtain ⟨kd, hkd⟩ : ∃ kd, kd = keepD { m with fNames := N } := ⟨_, rfl⟩
 rw [<- hkd] at hrk HWK
 have HKD := Hm hkd
 clear hkd
 refine (copyDisk_any _ (kd) wt hrk HWK.out).mono ?_
 rintro e w3 ⟨cs3, F3, rfl, ho3, hN3, hge3, hx3⟩
 have hb3 := bthen hBt hx3
 have hbr3 := hbrt.under hx3
 have hl3 := hbr3.lt
 have hz3 := hBt.size
 have hlq3 := hbrt.lt
 obtain ⟨q0, p0, q1, p1, q2, p2, G0, G1, G2, rfl, _, _, _, _, rfl⟩ := oDisk_cells ho3
 have hkey : ∀ W', Turn [w.heap.size + 1] w3 W' -> oDisk W' [.slice q0 (kd).fInodes.length p0, .slice q1 (kd).fNames.length p1, .slice q2 (kd).fSafe.length p2, .int .i64 (kd).fNext] (kd) (G0 ++ G1 ++ G2 ++ []) /\ Below w.heap.size w W' := fun W' hT =>
  ⟨oDisk_good.frame ho3 (fun b hb => hT.block b (oDisk_good.lt ho3 b hb) (fun h => by simp at h; have := hge3 b hb; omega)), hb3.trans (hT.below (fun k hk => by simp at hk; omega) hb3.size)⟩
 have HKEY := Hm hkey
 have HNQ := Hm hN3
 have HGQ : Hid (∀ b, b ∈ G0 ++ G1 ++ G2 ++ [] -> w.heap.size <= b) := fun b hb => by have := hge3 b hb; omega
 clear hkey ho3 hN3 hge3 
 obtain ⟨ze0, ze1, ze2, ze3⟩ := hbr3.c4
 obtain ⟨zf0, zf1, zf2, zf3⟩ := hbr3.f4
 go_wp2_with fail
 obtain ⟨h1, h3⟩ := HKEY.out _ (show Turn [w.heap.size + 1] w3 ((((w3.setCell ⟨w.heap.size + 1, 0, none⟩ (.slice q0 (kd).fInodes.length p0)).setCell ⟨w.heap.size + 1, 1, none⟩ (.slice q1 (kd).fNames.length p1)).setCell ⟨w.heap.size + 1, 2, none⟩ (.slice q2 (kd).fSafe.length p2)).setCell ⟨w.heap.size + 1, 3, none⟩ (.int .i64 (kd).fNext)) from turn4 _ _ _ _ _ _)
 exact bodyPost_ret (v := .agg #[.slice q0 (kd).fInodes.length p0, .slice q1 (kd).fNames.length p1, .slice q2 (kd).fSafe.length p2, .int .i64 (kd).fNext]) (by simp [results, Tryz.results81, go_sem, *]) rfl ⟨[.slice q0 (kd).fInodes.length p0, .slice q1 (kd).fNames.length p1, .slice q2 (kd).fSafe.length p2, .int .i64 (kd).fNext], _, rfl, by rw [<- HKD.out]; exact h1, HNQ.out, HGQ.out, h3⟩
end Go.Proofs.YtegonncmopecnaaGreatDoor
