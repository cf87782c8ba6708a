/-
  Part 16 of the texts that the proof leans on.
-/
import Derived.Test.YtmbobjhplkpfoaaFnx13
import Derived.Test.YtmbobjhplkpfoaaFnx3
import Derived.Test.YtmbobjhplkpfoaaFnx7
import Derived.Test.YtmbobjhplkpfoaaFnx6
import Derived.Test.YtmbobjhplkpfoaaFnx8
import Derived.Test.YtmbobjhplkpfoaaFnx2
import Derived.Test.YtmbobjhplkpfoaaFnx1
import Derived.Test.YtmbobjhplkpfoaaFnx12
import Derived.Test.YtmbobjhplkpfoaaFnx0
import Derived.Deep.AppendSrc
import Derived.Test.YtmbobjhplkpfoaaFnx14
set_option linter.unusedVariables false
set_option linter.unusedSimpArgs false
set_option maxRecDepth 10000

namespace Go.Proofs.Ytmbobjhplkpfoaa
open Go.RowKit Go.Maps

end Go.Proofs.Ytmbobjhplkpfoaa

namespace Go.Proofs.Ytmbobjhplkpfoaa
open Go.RowKit Go.Maps Go.Shelf Go.Lib Go.Sort

theorem encs_len (l : List MEntry) : ∀ c, c ∈ l.map encE → c.length = 2 := by
  intro c hc
  obtain ⟨e, _, rfl⟩ := List.mem_map.1 hc
  rfl

section
variable [Inhabited MEntry]

theorem flatK_at (d : Array MEntry) (t : Nat) (h : t < d.size * 2) : (d.toList.map encE).flatten[t]? = some ((flatK encE 2 d)[t]!) := by
  rw [get_flatK encE 2 d t h]
  have h1 : t / 2 < d.size := by omega
  have e1 : t = t / 2 * 2 + t % 2 := by omega
  have hf := flatten_at (encs_len d.toList) (j := t / 2) (i := t % 2) (by omega)
  rw [← e1] at hf
  rw [hf, List.getElem?_map, List.getElem?_eq_getElem (by simpa using h1)]
  simp only [Option.map_some, Option.bind_some, Array.getElem_toList]
  rw [getElem!_pos d (t / 2) h1]
  have h2 : t % 2 < 2 := by omega
  generalize t % 2 = r at *
  match r, h2 with
  | 0, _ => rfl
  | 1, _ => rfl

/-- The row ahead of the sort. -/
theorem holdsE {w : World} {base g cap : Nat} {l : List MEntry} {e : TypeId} {B : Nat} (h : RowR 2 e rEntry B w base (.slice (some ⟨g, 0, none⟩) l.length cap) l) : HoldsK encE 2 w g 0 l.toArray ∧ g < w.heap.size ∧ base ≤ g ∧ ∃ cur, w.heap[g]? = some (.cells cur e (0, 0)) ∧ cur.size = cap * 2 ∧ l.length ≤ cap ∧ cap ≤ maxLen ∧ ∀ x, x ∈ l → x.fName.size ≤ 9223372036854775807 ∧ (Lit.int .i64 x.fId).wf = true := by
  obtain ⟨css, r1, r2, r3, r4⟩ := h
  have hcss : css = l.map encE := by
    apply List.ext_getElem (by simp [r1])
    intro i h1 h2
    obtain ⟨e1, _⟩ := r3 i (by omega) h1
    rw [e1]
    simp [encE]
  rcases r4.2 with ⟨h0, _⟩ | ⟨g', cap', cur, h0, hb, hg, hnc, hm, hs, ht⟩
  · cases h0
  · simp only [Value.slice.injEq, Option.some.injEq, Addr.mk.injEq, and_true, true_and] at h0
    obtain ⟨rfl, rfl⟩ := h0
    refine ⟨?_, (Array.getElem?_eq_some_iff.1 hg).1, hb, cur, hg, hs, hnc, hm, ?_⟩
    · intro j hj
      have hj2 : j < l.toArray.size * 2 := by simpa using hj
      refine ⟨?_, frozen_of_row w g _ cur e hg⟩
      rw [Nat.zero_add, cell_of_row w g j cur e (0, 0) hg]
      have hf := flatK_at l.toArray j hj2
      have hlt : j < l.length * 2 := by simpa using hj2
      rw [List.toList_toArray, ← hcss, ← ht, List.getElem?_take, if_pos hlt] at hf
      show cur[j]? = some ((flatK encE 2 l.toArray)[j]!)
      rw [← hf]
      simp
    · intro x hx
      obtain ⟨i, hi, rfl⟩ := List.mem_iff_getElem.1 hx
      obtain ⟨_, e2, e3, _⟩ := r3 i hi (by omega)
      exact ⟨e2, e3⟩

/-- The row behind it. -/
theorem sortedE {w : World} {g cap n : Nat} {e : TypeId} {cur : Array Value} (hg : w.heap[g]? = some (.cells cur e (0, 0))) (hs : cur.size = cap * 2) (hnc : n ≤ cap) (hm : cap ≤ maxLen) (d : Array MEntry) (hd : d.size = n) (hx : ∀ x, x ∈ d.toList → x.fName.size ≤ 9223372036854775807 ∧ (Lit.int .i64 x.fId).wf = true) (m : Nat) (os : Array Obj) :
    ownS 2 e oEntry (sortWorldK encE 2 w g 0 m d os) (.slice (some ⟨g, 0, none⟩) n cap) d.toList [g] ∧ Turn [g] w (sortWorldK encE 2 w g 0 m d os) := by
  have hgl : g < w.heap.size := (Array.getElem?_eq_some_iff.1 hg).1
  have hheap : (sortWorldK encE 2 w g 0 m d os).heap = w.heap.modify g (onCells (putCells id 0 (flatK encE 2 d))) ++ os := rfl
  have hblk : (sortWorldK encE 2 w g 0 m d os).heap[g]? = some (.cells (putCells id 0 (flatK encE 2 d) cur) e (0, 0)) := by
    rw [hheap, Array.getElem?_append_left (by simpa using hgl), Array.getElem?_modify, if_pos rfl, hg]
    rfl
  have hput : ∀ t, t < n * 2 → (putCells id 0 (flatK encE 2 d) cur)[t]? = (d.toList.map encE).flatten[t]? := by
    intro t ht
    have hcur : t < cur.size := by rw [hs]; have := Nat.mul_le_mul_right 2 hnc; omega
    rw [flatK_at d t (by rw [hd]; exact ht)]
    unfold putCells
    rw [Array.getElem?_mapIdx, Array.getElem?_eq_getElem hcur]
    simp only [Option.map_some, Nat.zero_add, Nat.zero_le, true_and, size_flatK, Nat.sub_zero, id]
    rw [if_pos (by rw [hd]; exact ht)]
  have hrow : (sortWorldK encE 2 w g 0 m d os).ownsRow 0 e 2 (.slice (some ⟨g, 0, none⟩) n cap) n (d.toList.map encE).flatten := by
    refine ⟨by rw [flat_len (encs_len _)]; simp [hd], .inr ⟨g, cap, _, rfl, Nat.zero_le _, hblk, hnc, hm, by unfold putCells; rw [Array.size_mapIdx]; exact hs, ?_⟩⟩
    apply List.ext_getElem?
    intro t
    rw [List.getElem?_take]
    by_cases ht : t < n * 2
    · rw [if_pos ht, ← hput t ht]
      simp
    · rw [if_neg ht, List.getElem?_eq_none (by rw [flat_len (encs_len _)]; simp [hd]; omega)]
  refine ⟨?_, ⟨rfl, rfl, rfl, by rw [hheap]; simp, fun b hb hne => ?_⟩⟩
  · have h := ownS_row (l := d.toList) (css := d.toList.map encE) (B := 0) (w0 := w) (n := n) (by simpa using hd) (by simp) (encs_len _) (fun j h1 h2 => by
      have := hx d.toList[j] (List.getElem_mem h1)
      rw [List.getElem_map]
      exact ⟨rfl, this.1, this.2, trivial⟩) hrow
    simpa [Value.ownBlock] using h
  · rw [hheap, Array.getElem?_append_left (by simpa using hb), Array.getElem?_modify, if_neg (by simp at hne; omega)]

theorem sorted_rise {l : List MEntry} {d d' : Array MEntry} (hl : d.toList.Perm l) (hr : Rise l) (hp : PermIn 0 d.size d d') (hs : SortedIn (ltOf cmpE) 0 d.size d') : d'.toList = l := by
  obtain ⟨h1, _, h3⟩ := hp
  have e1 : (d'.extract 0 d.size).toList = d'.toList := by simp [← h1]
  have e2 : (d.extract 0 d.size).toList = d.toList := by simp
  rw [e1, e2] at h3
  have hperm : d'.toList.Perm l := h3.trans hl
  refine rise_unique hperm ?_ hr
  have hnd : l.Pairwise (fun x y => x.fName ≠ y.fName) := hr.imp (fun h e => by rw [e, strLt_irrefl] at h; cases h)
  have hnd' : d'.toList.Pairwise (fun x y => x.fName ≠ y.fName) := hperm.symm.pairwise hnd (fun {a b} h => Ne.symm h)
  unfold Rise
  rw [List.pairwise_iff_getElem] at hnd' ⊢
  intro i j hi hj hij
  have h4 := hs i j (Nat.zero_le _) hij (by simp at hj; omega)
  have hi' : i < d'.size := by simpa using hi
  have hj' : j < d'.size := by simpa using hj
  rw [getElem!_pos d' i hi', getElem!_pos d' j hj', ltOfE] at h4
  have h5 := hnd' i j hi hj hij
  simp only [Array.getElem_toList] at h5 ⊢
  exact strLt_tri h4 (Ne.symm h5)

end

end Go.Proofs.Ytmbobjhplkpfoaa

namespace Go.Proofs.Ytmbobjhplkpfoaa
open Go.RowKit Go.Maps Go.Shelf Go.Lib Go.Sort

set_option maxHeartbeats 2000000 in
theorem insNone (p : Option Addr) (cap : Nat) (fv : Value) (w : World) :
    Calls Try.prog 79 #[.slice p 0 cap, .int .i64 0, .int .i64 0, fv] w fun e w' => e = .returned (.tuple #[]) ∧ w' = w := by
  go_enter Try.func79, Try.ntmps79
  go_wp2
  refine wp_loop_rounds 1 ?_
  rw [rounds_succ]
  go_wp2
  go_end0
  exact ⟨rfl, rfl⟩

set_option maxHeartbeats 2000000 in
theorem pdqNone (p : Option Addr) (cap : Nat) (lim : Int) (fv : Value) (w : World) :
    Calls Try.prog 75 #[.slice p 0 cap, .int .i64 0, .int .i64 0, .int .i64 lim, fv] w fun e w' => e = .returned (.tuple #[]) ∧ w' = w := by
  have hi := fun W => insNone p cap fv W
  go_enter Try.func75, Try.ntmps75
  go_wp2_with fail
  refine wp_loop_rounds 1 ?_
  rw [rounds_succ]
  go_wp2_with (go_at_call 79; refine (hi _).mono ?_; rintro e w' ⟨rfl, rfl⟩)
  (try simp only [Exit.inBlock, Exit.then])
  refine bodyPost_ret (results_none rfl _ _ _) rfl ?_
  exact ⟨rfl, rfl⟩

set_option maxHeartbeats 2000000 in
theorem sortNone (p : Option Addr) (cap : Nat) (fv : Value) (w : World) :
    Calls Try.prog 67 #[.slice p 0 cap, fv] w fun e w' => e = .returned (.tuple #[]) ∧ w' = w := by
  have hp := fun lim W => pdqNone p cap lim fv W
  have hl : ∀ W, Calls Try.prog 76 #[.int .u64 0] W fun e w' => e = .returned (.int .i64 (Lib.bitLen 0 : Nat)) ∧ w' = W := fun W => by
    have h := Any.bits_Len (SlLaysF0.n15.bits (P := Try.prog) (ρ := sortEnt_ren) { sortEnt with }) 0 W (by omega) (by omega)
    exact h
  go_enter Try.func67, Try.ntmps67
  go_wp2_with (first | (go_at_call 76; refine (hl _).mono ?_; rintro e w' ⟨rfl, rfl⟩) | (go_at_call 75; refine (hp _ _).mono ?_; rintro e w' ⟨rfl, rfl⟩))
  go_end0
  exact ⟨rfl, rfl⟩


theorem keyStr_inv {key : Value} {kl : Lit} (h : keyOf Try.prog 9 key = some kl) : ∃ s : ByteArray, key = .string s := by
  obtain ⟨x, rfl, _⟩ := Maps.keyOf_str Try.underlying9 h
  exact ⟨_, rfl⟩

theorem keyStr_is {s : ByteArray} {kl : Lit} (h : keyOf Try.prog 9 (.string s) = some kl) : kl = kS s ∧ s.size ≤ 9223372036854775807 := by
  obtain ⟨x, hx, rfl, hl⟩ := Maps.keyOf_str Try.underlying9 h
  simp only [encStr, Value.string.injEq] at hx
  subst hx
  refine ⟨by simp [kS], ?_⟩
  have h2 : (ByteArray.mk x.toArray).size = x.length := by show x.toArray.size = _; simp
  unfold maxLen at hl
  omega

/-- An entry that the walk meets is one of the list. -/
theorem met_entry {D : DataW Unit} {l : List MEntry} (hM : MapIs D l) {s : ByteArray} {c : Int} (hat : ∀ zd, D.atKey (kS s) zd = .lit (.int .i64 c)) : (⟨s, c⟩ : MEntry) ∈ l := by
  have hh : Maps.has D (kS s) = true := has_true_of_atKey hat
  obtain ⟨e, he, hn⟩ := hasName_iff.1 ((hM.2.1 s).1 hh)
  have h1 := hM.2.2 e he
  rw [hn, hat] at h1
  simp only [DataW.lit.injEq, Lit.int.injEq, true_and] at h1
  have : (⟨s, c⟩ : MEntry) = e := by cases e; simp at hn h1; subst hn; subst h1; rfl
  rw [this]
  exact he

theorem nodup_fitB {l m : List (List UInt8)} (h : l.Nodup) (hs : ∀ x, x ∈ l → x ∈ m) : l.length ≤ m.length := by
  induction l generalizing m with
  | nil => simp
  | cons x r ih =>
    have hn := List.nodup_cons.1 h
    have hx := hs x (by simp)
    have h1 := ih hn.2 (m := m.erase x) (fun y hy => (List.mem_erase_of_ne (fun (e : y = x) => hn.1 (by rw [← e]; exact hy))).2 (hs y (by simp [hy])))
    have h2 := List.length_erase_of_mem hx
    have h3 : 0 < m.length := List.length_pos_of_mem hx
    simp only [List.length_cons]
    omega

theorem met_fit {l o : List MEntry} {left : Lit → Bool} (h : Met l left o) : o.length ≤ l.length := by
  have h1 := nodup_fitB (l := o.map (fun e => e.fName.data.toList)) (m := l.map (fun e => e.fName.data.toList)) (List.pairwise_map.2 (h.once.imp (fun {a b} (hne : a.fName ≠ b.fName) (he : a.fName.data.toList = b.fName.data.toList) => kS_ne hne (by unfold kS; rw [he])))) (fun x hx => by
    obtain ⟨e, he, rfl⟩ := List.mem_map.1 hx
    exact List.mem_map.2 ⟨e, h.sub e he, rfl⟩)
  simpa using h1

theorem RowR.shape {α : Type} {size : Nat} {e : TypeId} {R : Rep α} {B base : Nat} {w : World} {v : Value} {l : List α} (h : RowR size e R B w base v l) (hl : 0 < l.length) : ∃ g cap, v = .slice (some ⟨g, 0, none⟩) l.length cap := by
  obtain ⟨css, r1, r2, r3, r4⟩ := h
  rcases r4.2 with ⟨_, h0⟩ | ⟨g, cap, cur, rfl, _⟩
  · omega
  · exact ⟨g, cap, rfl⟩

set_option maxHeartbeats 2000000 in
theorem entryList_any (b n : Nat) (D : DataW Unit) (l : List MEntry) (w : World) (hown : w.ownsMap Try.prog 9 (plainElem Try.prog 3) b n D) (hM : MapIs D l) (hr : Rise l) (hl : l.length ≤ 1000) :
    Calls Try.prog 57 #[.map (some b)] w fun e w' => ∃ (a : Option Addr) (c : Nat) (F : List Nat), e = .returned (.slice a l.length c) ∧ ownS 2 61 oEntry w' (.slice a l.length c) l F ∧ (∀ x, x ∈ F → w.heap.size ≤ x) ∧ Below w.heap.size w w' := by
  obtain ⟨iE, hiE, hzE0, hzE1, hzE2⟩ := info_parts Try.infoOfEntry
  have HM := Hid.mk hM
  have HRI := Hid.mk hr
  have hbl := ownsMap_lt hown
  clear hM hr
  go_enter Try.func57, Try.ntmps57
  go_wp2_with (at_range; refine wpList_range_own _ rfl _ 51 rfl 9 3 lawStr Try.underlying51 _ b n D rfl hown ?_; intro w0 hrg0 hg0 hs0)
  have hb0 : Below w.heap.size w w0 := (Below.refl _ _).grown hg0 (Nat.le_refl _) (fun k h => by cases h)
  have hs0' : w.heap.size + 1 ≤ w0.heap.size := by omega
  have HS0 := Hid.mk hs0
  clear hs0 hg0
  go_frame
  go_loopw [3] (fun v wr => ∃ (left : Lit → Bool) (cnt : Nat) (o : List MEntry), wr.ranges Try.prog 9 (plainElem Try.prog 3) b w.heap.size n D left cnt ∧ Met l left o ∧ RowR 2 61 rEntry w.heap.size wr (w.heap.size + 1) v o ∧ Below w.heap.size w wr ∧ w.heap.size + 1 ≤ wr.heap.size) (fun _ wr => wr.rangeLeft b w.heap.size)
  case atStart => exact ⟨_, _, [], hrg0, Met.start HM.out, RowR.start, hb0, hs0'⟩
  case round =>
    obtain ⟨left, cnt, o, hrg, hmet, hrow, hbk, hzk⟩ := hrel
    have HMET := Hid.mk hmet
    have HROW := Hid.mk hrow
    have hol : o.length ≤ 1000 := Nat.le_trans (met_fit hmet) hl
    clear hmet hrow hrg0 hb0 hs0'
    go_wp2_with (at_next; refine wpList_next_ranges _ rfl _ rfl 9 lawStr (plainElem Try.prog 3) Value.string (Value.int .i64) (fun key kl hkey => keyStr_inv hkey) (fun v y hv => by obtain ⟨c, rfl, _⟩ := plainElem_int_inv Try.underlying3 hv; exact ⟨c, rfl⟩) b w.heap.size n D left cnt rfl hrg ?_ ?_)
    · intro hc0 hl0
      have hperm := HMET.out.perm HRI.out hl0
      have hlen : o.length = l.length := hperm.length_eq
      have HPERM := Hid.mk hperm
      by_cases hl1 : l.length = 0
      · have hln : l = [] := List.eq_nil_of_length_eq_zero hl1
        have hon : o = [] := List.eq_nil_of_length_eq_zero (by omega)
        subst hln
        subst hon
        obtain ⟨ar, cr, hv, _⟩ := HROW.out.leaf rEntry_good hbk.size
        subst hv
        have hos : ∃ F, ownS 2 61 oEntry wr (.slice ar 0 cr) [] F ∧ ∀ x, x ∈ F → w.heap.size ≤ x := by
          obtain ⟨css, r1, r2, r3, r4⟩ := HROW.out
          refine ⟨_, ownS_row (l := []) (n := 0) (B := w.heap.size) (w0 := wr) rfl r1 r2 (fun j h1 => by simp at h1) r4, fun x hx => ?_⟩
          have := (r4.lt x (by simpa using hx)).1
          omega
        have HOS := Hid.mk hos
        clear hos hperm hc0 hl0 hrg
        simp only [List.length_nil] at *
        go_wp2_with (go_at_call 67; refine (sortNone ar cr _ _).mono ?_; rintro e w' ⟨rfl, rfl⟩)
        obtain ⟨F, h1, h2⟩ := HOS.out
        go_ret
        exact ⟨ar, cr, F, rfl, h1, h2, hbk⟩
      · letI := inhE
        obtain ⟨g, cap, hv⟩ := RowR.shape HROW.out (by omega)
        subst hv
        obtain ⟨hH, hgl, hgb, cur, hg, hs, hnc, hmx, hxe⟩ := holdsE HROW.out
        have hcon := sortE_any g cap o.toArray wr hH hgl (by simp; omega)
        simp only [List.size_toArray] at hcon
        have HCON : Hid (∀ d' : Array MEntry, PermIn 0 o.length o.toArray d' → SortedIn (ltOf cmpE) 0 o.length d' → d'.toList = l) := fun d' h1 h2 => sorted_rise (d := o.toArray) (by simpa using HPERM.out) HRI.out (by simpa using h1) (by simpa using h2)
        have HSO : Hid (∀ (d' : Array MEntry) (m : Nat) (os : Array Obj), d'.toList = l → ownS 2 61 oEntry (sortWorldK encE 2 wr g 0 m d' os) (.slice (some ⟨g, 0, none⟩) l.length cap) l [g] ∧ Turn [g] wr (sortWorldK encE 2 wr g 0 m d' os)) := fun d' m os hd => by
          have h := sortedE (n := l.length) hg hs (by omega) hmx d' (by rw [← hd]; simp) (fun x hx => hxe x (HPERM.out.mem_iff.2 (by rw [← hd]; exact hx))) m os
          rw [hd] at h
          exact h
        clear hperm hc0 hl0 hrg hH hxe hg hs
        rw [hlen] at hcon ⊢
        go_wp2_with (go_at_call 67; refine hcon.mono ?_; rintro e w' ⟨rfl, d', m, os, h1, h2, rfl⟩)
        have hd := HCON.out d' (by rw [hlen]; exact h1) (by rw [hlen]; exact h2)
        obtain ⟨h3, h4⟩ := HSO.out d' m os hd
        go_ret
        exact ⟨some ⟨g, 0, none⟩, cap, [g], rfl, h3, fun x hx => by simp at hx; omega, hbk.trans (h4.below (fun k hk => by simp at hk; omega) hbk.size)⟩
    · intro x c kl yd yp w1 cnt1 hkey hlk hv hat hrg1 hlt hg1 hs1 hen
      obtain ⟨hkl, hsz⟩ := keyStr_is hkey
      subst hkl
      obtain ⟨c', ec, ey, hwc⟩ := plainElem_int_inv Try.underlying3 hv
      cases ec
      simp only [Prod.mk.injEq] at ey
      obtain ⟨rfl, rfl⟩ := ey
      have HMET2 := Hid.mk (HMET.out.step HRI.out (met_entry HM.out hat) hlk)
      have hT1 : Turn [w.heap.size] wr w1 := Turn.ofGrown hg1 (fun k hk => by cases hk; simp)
      have hrow1 := RowR.turn rEntry_good HROW.out hT1 (fun k hk => by simp at hk; omega) hbk.size (Nat.le_refl _)
      have hb1 : Below w.heap.size w w1 := hbk.trans (hT1.below (fun k hk => by simp at hk; omega) hbk.size)
      have hz1 : w.heap.size + 1 ≤ w1.heap.size := by omega
      obtain ⟨css, r1, r2, r3, r4⟩ := hrow1
      have HRG := Hid.mk hrg
      have HRG1 := Hid.mk hrg1
      have hlc := hlt
      clear hs1 hat hlk hkey hv hrg hrg1 HROW HMET hT1 hg1
      go_wp2_with (at_builtin; refine wpList_append_own_at _ rfl _ _ 25 rfl (w.heap.size + 1) 61 iE (.agg #[.string ⟨#[]⟩, .int .i64 0]) 2 24 Try.underlying25 hiE hzE0 hzE1 hzE2 rfl (by decide) _ _ _ rfl (own_below r4 ((Below.refl _ _).alloc (Nat.le_refl _) _)) ⟨w1.heap.size, 0, none⟩ 1 1 [.string x, .int .i64 c] rfl rfl (bx_news (Bx.new w1 _ _)) (by intro u hu; simp at hu; rcases hu with rfl | rfl <;> rfl) (by unfold maxLen; omega) (by omega) (by simp; omega) ?_; intro v' w3 hown3 hgrow3 hnil hloc)
      have hT := Turn.after ((Below.refl w1.heap.size w1).alloc (Nat.le_refl _) _) (turnOwn hgrow3)
      have hge : ∀ k, k ∈ (Value.ownBlock _).toList → w.heap.size + 1 ≤ k := fun k hk => (r4.lt k (by simpa using hk)).1
      have hBl : Below w.heap.size w1 w3 := Turn.below hT (fun k hk => by have := hge k hk; omega) (by omega)
      have hrg3 := (HRG1.out.alloc (.cells #[.string x, .int .i64 c] 61)).kept hgrow3 (fun e => by have := (r4.lt b e.symm).1; omega) (fun e => by have := (r4.lt w.heap.size e.symm).1; omega)
      go_roundw
      case rel => exact ⟨_, cnt1, o ++ [⟨x, c⟩], hrg3, HMET2.out, RowR.push rEntry_good r1 r2 r3 hBl rfl ⟨rfl, hsz, hwc, trivial⟩ hown3, hb1.trans hBl, Nat.le_trans hz1 hT.size⟩
      case measure => rw [hrg3.left_eq, HRG.out.left_eq]; omega

end Go.Proofs.Ytmbobjhplkpfoaa

namespace Go.Proofs.Ytmbobjhplkpfoaa
open Go.RowKit Go.Maps

set_option maxHeartbeats 4000000 in
theorem withNames_any (cs : List Value) (m : MDisk) (b nn : Nat) (Dm : DataW Unit) (N : List MEntry) (w : World) (hr : rDisk w.heap.size w cs m) (hown : w.ownsMap Try.prog 9 (plainElem Try.prog 3) b nn Dm) (hM : MapIs Dm N) (hRi : Rise N) (hNl : N.length ≤ 1000) (hw : wDisk { m with fNames := N } ≤ 1048576) :
    Calls Try.prog 30 #[.agg cs.toArray, .map (some b)] w fun e w' => ∃ (cs' : List Value) (F : List Nat), e = .returned (.agg cs'.toArray) ∧ oDisk w' cs' (keepD { m with fNames := N }) F ∧ F.Nodup ∧ (∀ x, x ∈ F → w.heap.size ≤ x) ∧ Below w.heap.size w w' := by
  have hq := hr
  obtain ⟨a0, c0, a1, c1, a2, c2, rfl, hI, hNm, hSf, hnx, _⟩ := hq
  have HW := Hid.mk hw
  have HI := Hid.mk hI
  have HSF := Hid.mk hSf
  have HM := Hid.mk hM
  have HRi := Hid.mk hRi
  have HWK : Hid (wDisk (keepD { m with fNames := N }) ≤ 1048576) := Nat.le_trans (keepD_weight _) hw
  clear hr hI hNm hSf hw hM hRi
  go_enter Try.func30, Try.ntmps30
  go_wp2_with fail
  obtain ⟨wq, hwq⟩ : ∃ wq, wq = ((w.alloc (.cells #[.slice a0 m.fInodes.length c0, .slice a1 m.fNames.length c1, .slice a2 m.fSafe.length c2, .int .i64 m.fNext] 27)).alloc (.cells #[.slice none 0 0, .slice none 0 0, .slice none 0 0, .int .i64 0] 27)) := ⟨_, rfl⟩
  have hbW : Below w.heap.size w wq := by rw [hwq]; exact Below.alloc (Below.alloc (Below.refl _ _) (by exact Nat.le_refl _) _) (by simp; try omega) _
  have hbd : Bw wq (w.heap.size) 27 [.slice a0 m.fInodes.length c0, .slice a1 m.fNames.length c1, .slice a2 m.fSafe.length c2, .int .i64 m.fNext] := by rw [hwq]; exact Bw.alloc (Bw.new' _ _ _ (by simp)) _
  have hbr : Bw wq (w.heap.size + 1) 27 [.slice none 0 0, .slice none 0 0, .slice none 0 0, .int .i64 0] := by rw [hwq]; exact Bw.new' _ _ _ (by simp)
  rw [← hwq]
  clear hwq
  have hq0 := hbW.size
  have hlr := hbr.lt
  refine (entryList_any b nn Dm N wq (ownsMap_below hown hbW) HM.out HRi.out hNl).mono ?_
  rintro e w1 ⟨an, cn, FN, rfl, hoN, hgN, hx1⟩
  have hb1 := bthen hbW hx1
  have hbd1 := hbd.under hx1
  have hbr1 := hbr.under hx1
  have hl1 := hbd1.lt
  have hl1r := hbr1.lt
  have HON := Hid.mk hoN
  have HGN := Hid.mk hgN
  have f1 := hbd1.free 1
  have y0 := hbd1.cell 0 _ rfl
  have y1 := hbd1.cell 1 _ rfl
  have y2 := hbd1.cell 2 _ rfl
  have y3 := hbd1.cell 3 _ rfl
  clear hbd hbr hoN hgN hown
  go_wp2_with fail
  obtain ⟨ws, hws⟩ : ∃ ws, ws = w1.setCell ⟨w.heap.size, 1, none⟩ (.slice an N.length cn) := ⟨_, rfl⟩
  have hTs : Turn [w.heap.size] w1 ws := by rw [hws]; exact Turn.setCell (Turn.refl _ _) (by simp) _
  have hbds : Bw ws w.heap.size 27 [.slice a0 m.fInodes.length c0, .slice an N.length cn, .slice a2 m.fSafe.length c2, .int .i64 m.fNext] := by rw [hws]; exact hbd1.put 1 _
  rw [← hws]
  clear hws y0 y1 y2 y3 f1
  have hbrs := hbr1.turn hTs (by simp)
  have hBs : Below w.heap.size w ws := hb1.trans (hTs.below (fun k hk => by simp at hk; omega) hb1.size)
  have hoNs := ownS.frame (w' := ws) oEntry_good HON.out (fun x hx => hTs.block x (ownS.lt oEntry_good HON.out x hx) (by have := HGN.out x hx; simp; omega))
  have HONS := Hid.mk hoNs
  refine (namedInodes_rowB a0 an a2 c0 cn c2 { m with fNames := N } ws w.heap.size hBs.size (HI.out.below rInode_good hBs) (ownS.leaf oEntry_good hoNs) (LeafL.mono rEntry_good (HSF.out.below rEntry_good hBs) hBs.size) (by have := HW.out; omega)).mono ?_
  rintro e w2 ⟨ak, ck, rfl, hrow, _, hx2⟩
  have HROW := Hid.mk hrow
  have hb2 := bthen hBs hx2
  have hbd2 := hbds.under hx2
  have hbr2 := hbrs.under hx2
  have hl2 := hbd2.lt
  have hl2s := hbds.lt
  have hl2r := hbrs.lt
  have y0 := hbd2.cell 0 _ rfl
  have y1 := hbd2.cell 1 _ rfl
  have y2 := hbd2.cell 2 _ rfl
  have y3 := hbd2.cell 3 _ rfl
  have f0 := hbd2.free 0
  clear hrow hoNs
  go_wp2_with fail
  obtain ⟨wt, hwt⟩ : ∃ wt, wt = w2.setCell ⟨w.heap.size, 0, none⟩ (.slice ak (keepI { m with fNames := N }).length ck) := ⟨_, rfl⟩
  have hTt : Turn [w.heap.size] w2 wt := by rw [hwt]; exact Turn.setCell (Turn.refl _ _) (by simp) _
  rw [← hwt]
  clear hwt y0 y1 y2 y3 f0
  have hbrt := hbr2.turn hTt (by simp)
  have hBt : Below w.heap.size w wt := hb2.trans (hTt.below (fun k hk => by simp at hk; omega) hb2.size)
  have hoNt := ownS.frame (w' := wt) oEntry_good HONS.out (fun x hx => (hTt.block x (Nat.lt_of_lt_of_le (ownS.lt oEntry_good HONS.out x hx) hx2.size) (by have := HGN.out x hx; simp; omega)).trans (hx2.block x (ownS.lt oEntry_good HONS.out x hx)))
  have hrk : rDisk wt.heap.size wt [.slice ak (keepI { m with fNames := N }).length ck, .slice an N.length cn, .slice a2 m.fSafe.length c2, .int .i64 m.fNext] (keepD { m with fNames := N }) := by
    obtain ⟨a', c', he, h1⟩ := (RowR.turn rInode_good HROW.out hTt (fun k hk => by simp at hk; omega) hb2.size (Nat.le_refl _)).leaf rInode_good hBt.size
    simp only [Value.slice.injEq, true_and] at he
    obtain ⟨rfl, rfl⟩ := he
    exact ⟨ak, ck, an, cn, a2, c2, rfl, h1, ownS.leaf oEntry_good hoNt, LeafL.mono rEntry_good (HSF.out.below rEntry_good hBt) hBt.size, hnx, trivial⟩
  clear hoNt
  obtain ⟨kd, hkd⟩ : ∃ kd, kd = keepD { m with fNames := N } := ⟨_, rfl⟩
  rw [← hkd] at hrk HWK
  have HKD := Hid.mk hkd
  clear hkd
  refine (copyDisk_any _ (kd) wt hrk HWK.out).mono ?_
  rintro e w3 ⟨cs3, F3, rfl, ho3, hN3, hge3, hx3⟩
  have hb3 := bthen hBt hx3
  have hbr3 := hbrt.under hx3
  have hl3 := hbr3.lt
  have hz3 := hBt.size
  have hlq3 := hbrt.lt
  obtain ⟨q0, p0, q1, p1, q2, p2, G0, G1, G2, rfl, _, _, _, _, rfl⟩ := oDisk_cells ho3
  have hkey : ∀ W', Turn [w.heap.size + 1] w3 W' → oDisk W' [.slice q0 (kd).fInodes.length p0, .slice q1 (kd).fNames.length p1, .slice q2 (kd).fSafe.length p2, .int .i64 (kd).fNext] (kd) (G0 ++ G1 ++ G2 ++ []) ∧ Below w.heap.size w W' := fun W' hT =>
    ⟨oDisk_good.frame ho3 (fun b hb => hT.block b (oDisk_good.lt ho3 b hb) (fun h => by simp at h; have := hge3 b hb; omega)), hb3.trans (hT.below (fun k hk => by simp at hk; omega) hb3.size)⟩
  have HKEY := Hid.mk hkey
  have HNQ := Hid.mk hN3
  have HGQ : Hid (∀ b, b ∈ G0 ++ G1 ++ G2 ++ [] → w.heap.size ≤ b) := fun b hb => by have := hge3 b hb; omega
  clear hkey ho3 hN3 hge3 
  have ze0 := hbr3.cell 0 _ rfl
  have ze1 := hbr3.cell 1 _ rfl
  have ze2 := hbr3.cell 2 _ rfl
  have ze3 := hbr3.cell 3 _ rfl
  have zf0 := hbr3.free 0
  have zf1 := hbr3.free 1
  have zf2 := hbr3.free 2
  have zf3 := hbr3.free 3
  go_wp2_with fail
  obtain ⟨h1, h3⟩ := HKEY.out _ (show Turn [w.heap.size + 1] w3 ((((w3.setCell ⟨w.heap.size + 1, 0, none⟩ (.slice q0 (kd).fInodes.length p0)).setCell ⟨w.heap.size + 1, 1, none⟩ (.slice q1 (kd).fNames.length p1)).setCell ⟨w.heap.size + 1, 2, none⟩ (.slice q2 (kd).fSafe.length p2)).setCell ⟨w.heap.size + 1, 3, none⟩ (.int .i64 (kd).fNext)) from turn4 _ _ _ _ _ _)
  exact bodyPost_ret (v := .agg #[.slice q0 (kd).fInodes.length p0, .slice q1 (kd).fNames.length p1, .slice q2 (kd).fSafe.length p2, .int .i64 (kd).fNext]) (by simp [results, Try.results30, go_sem, *]) rfl ⟨[.slice q0 (kd).fInodes.length p0, .slice q1 (kd).fNames.length p1, .slice q2 (kd).fSafe.length p2, .int .i64 (kd).fNext], _, rfl, by rw [← HKD.out]; exact h1, HNQ.out, HGQ.out, h3⟩


theorem ownS_block {α : Type} {size : Nat} {e : TypeId} {O : ORep α} {w : World} {v : Value} {l : List α} {F : List Nat} (h : ownS size e O w v l F) : ∀ k, v.ownBlock = some k → k ∈ F := by
  intro k hk
  rcases h with ⟨rfl, _, _⟩ | ⟨g, cap, cur, Fs, rfl, h2, h3, h4, h5, h6, h7, rfl⟩
  · simp [Value.ownBlock] at hk
  · simp [Value.ownBlock] at hk
    simp [hk]
theorem newI_own {m : MDisk} (h : (Lit.int .i64 m.fNext).wf = true) (w : World) : oInode w [.int .i64 m.fNext, .slice none 0 0, .int .i64 0] (newI m) [] :=
  ⟨.slice none 0 0, [], rfl, h, ⟨⟨rfl, .inl ⟨rfl, rfl⟩⟩, (by intro z hz; cases hz), rfl⟩, rfl, rfl⟩
theorem create_weight {m : MDisk} {s : ByteArray} (h : diskOk m = true) (hs : s.size ≤ 12) : wDisk (createD m s) ≤ 1000000 ∧ (withE m.fNames ⟨s, m.fNext⟩).length ≤ 1000 ∧ wDisk { m with fNames := withE m.fNames ⟨s, m.fNext⟩ } ≤ 1000000 := by
  have h1 := ok_weight h
  have h2 := withE_length (l := m.fNames) (e := ⟨s, m.fNext⟩)
  have h3 := sumW_withE (l := m.fNames) (e := ⟨s, m.fNext⟩)
  have h4 : wEntry ⟨s, m.fNext⟩ = s.size := rfl
  have h5 : sumW wInode [newI m] = 0 := rfl
  refine ⟨?_, by omega, ?_⟩
  · rw [wDisk_eq]
    unfold createD
    simp only [sumW_append, List.length_append, List.length_cons, List.length_nil]
    omega
  · rw [wDisk_eq]
    simp only
    omega

end Go.Proofs.Ytmbobjhplkpfoaa

namespace Go.Proofs.Ytmbobjhplkpfoaa
open Go.RowKit

set_option maxHeartbeats 1000000 in
theorem l2Call_any (cs : List Value) (m : MDisk) (s : ByteArray) (w : World) (hr : rDisk w.heap.size w cs m) (hw : wDisk m ≤ 1048576) (hs : s.size ≤ 9223372036854775807) :
    Calls Try.prog 33 #[.agg cs.toArray, .string s] w fun e w' => e = .returned (.int .i64 (callP m s)) ∧ Below w.heap.size w w' := by
  have hq := hr
  obtain ⟨a0, c0, a1, c1, a2, c2, rfl, hI, hNm, hSf, hnx, _⟩ := hq
  have hw2 : m.fInodes.length + sumW wInode m.fInodes + (m.fNames.length + sumW wEntry m.fNames) + (m.fSafe.length + sumW wEntry m.fSafe) ≤ 1048576 := hw
  have HW := Hid.mk hw
  have HR := Hid.mk hr
  have HNL := Hid.mk hNm
  clear hr hI hNm hSf hw
  have hbA := (Below.refl w.heap.size w).alloc (Nat.le_refl _) (.cells #[.slice a0 m.fInodes.length c0, .slice a1 m.fNames.length c1, .slice a2 m.fSafe.length c2, .int .i64 m.fNext] 27)
  have hCd := fun W (hb : Below w.heap.size w W) => specDiskOk_c _ m W (rDisk_good.mono (rDisk_good.below HR.out hb) hb.size) HW.out
  go_enter Try.func33, Try.ntmps33
  go_wp2_with fail
  refine Calls.mono (hCd _ hbA) ?_
  rintro e w1 ⟨rfl, hx1⟩
  have hb1 := bthen hbA hx1
  have hbx := (Bx.new w [.slice a0 m.fInodes.length c0, .slice a1 m.fNames.length c1, .slice a2 m.fSafe.length c2, .int .i64 m.fNext] 27).under hx1
  have y1 := hbx.2 1 _ rfl
  clear hCd
  by_cases hD : diskOk m = true
  · rw [hD]
    go_wp2_with fail
    refine (l2Name_any s w1 hs).mono ?_
    rintro e w2 ⟨rfl, hw2e⟩
    replace hw2e := hw2e.symm
    subst hw2e
    by_cases hN : nameOk s = true
    · rw [hN]
      have hrd := HNL.out.2.2.below rEntry_good hb1
      by_cases hH : hasName m.fNames s = true
      · have HV : Hid (callP m s = 0) := by show callP m s = 0; unfold callP; rw [hD, hN, hH]; rfl
        have hz : (nameZ m.fNames s < 0) = False := eq_false (by unfold nameZ; rw [hH, if_pos rfl]; omega)
        go_wp2_with fail
        refine (l2At_any a1 _ c1 m.fNames s w1 w.heap.size rfl (by omega) hrd).mono ?_
        rintro e w3 ⟨rfl, hw3⟩
        replace hw3 := hw3.symm
        subst hw3
        generalize nameZ m.fNames s = nz at *
        go_wp2_with fail
        go_ret
        exact ⟨by rw [HV.out]; rfl, hb1⟩
      · have hH2 : hasName m.fNames s = false := Bool.eq_false_iff.2 hH
        have HV : Hid (callP m s = 2) := by show callP m s = 2; unfold callP; rw [hD, hN, hH2]; rfl
        have hz : nameZ m.fNames s < 0 := by unfold nameZ; rw [hH2]; simp
        go_wp2_with fail
        refine (l2At_any a1 _ c1 m.fNames s w1 w.heap.size rfl (by omega) hrd).mono ?_
        rintro e w3 ⟨rfl, hw3⟩
        replace hw3 := hw3.symm
        subst hw3
        generalize nameZ m.fNames s = nz at *
        go_wp2_with fail
        go_ret
        exact ⟨by rw [HV.out]; rfl, hb1⟩
    · have hN2 : nameOk s = false := Bool.eq_false_iff.2 hN
      have HV : Hid (callP m s = 1) := by show callP m s = 1; unfold callP; rw [hD, hN2]; rfl
      rw [hN2]
      go_wp2_with fail
      go_ret
      exact ⟨by rw [HV.out]; rfl, hb1⟩
  · have hD2 : diskOk m = false := Bool.eq_false_iff.2 hD
    have HV : Hid (callP m s = 1) := by show callP m s = 1; unfold callP; rw [hD2]; rfl
    rw [hD2]
    go_wp2_with fail
    go_ret
    exact ⟨by rw [HV.out]; rfl, hb1⟩

end Go.Proofs.Ytmbobjhplkpfoaa

namespace Go.Proofs.Ytmbobjhplkpfoaa
open Go.RowKit Go.Maps

set_option maxHeartbeats 4000000 in
theorem specCreate_o (cs : List Value) (m : MDisk) (s : ByteArray) (w : World) (hr : rDisk w.heap.size w cs m) (hs : s.size ≤ 9223372036854775807) (hw : wDisk m ≤ 1048576) (hw1 : s.size ≤ 1048576) :
    Calls Try.prog 9 #[.agg cs.toArray, .string s] w fun e w' => ∃ cs' : List Value, e = .returned (.tuple #[.agg cs'.toArray, .int .i64 (createC m s)]) ∧ (∃ F, oDisk w' cs' (createP m s) F ∧ ∀ b, b ∈ F → w.heap.size ≤ b) ∧ Below w.heap.size w w' := by
  obtain ⟨iI, hiI, hzI0, hzI1, hzI2⟩ := info_parts Try.infoOfInode
  have hq := hr
  obtain ⟨a0, c0, a1, c1, a2, c2, rfl, hI, hNm, hSf, hnx, _⟩ := hq
  have hw2 : m.fInodes.length + sumW wInode m.fInodes + (m.fNames.length + sumW wEntry m.fNames) + (m.fSafe.length + sumW wEntry m.fSafe) ≤ 1048576 := hw
  have HW := Hid.mk hw
  have HR := Hid.mk hr
  clear hr hI hNm hSf hw
  go_enter Try.func9, Try.ntmps9
  go_wp2_with fail
  obtain ⟨wq, hwq⟩ : ∃ wq, wq = ((w.alloc (.cells #[.slice a0 m.fInodes.length c0, .slice a1 m.fNames.length c1, .slice a2 m.fSafe.length c2, .int .i64 m.fNext] 27)).alloc (.cells #[.slice none 0 0, .slice none 0 0, .slice none 0 0, .int .i64 0] 27)) := ⟨_, rfl⟩
  have hbW : Below w.heap.size w wq := by rw [hwq]; exact Below.alloc (Below.alloc (Below.refl _ _) (by exact Nat.le_refl _) _) (by simp; try omega) _
  have hbd : Bw wq (w.heap.size) 27 [.slice a0 m.fInodes.length c0, .slice a1 m.fNames.length c1, .slice a2 m.fSafe.length c2, .int .i64 m.fNext] := by rw [hwq]; exact Bw.alloc (Bw.new' _ _ _ (by simp)) _
  have hbr : Bw wq (w.heap.size + 1) 27 [.slice none 0 0, .slice none 0 0, .slice none 0 0, .int .i64 0] := by rw [hwq]; exact Bw.new' _ _ _ (by simp)
  rw [← hwq]
  clear hwq
  refine (l2Copy_any _ m wq (rDisk_good.mono (rDisk_good.below HR.out hbW) hbW.size) HW.out).mono ?_
  rintro e w1 ⟨cs2, F2, rfl, ho2, hN2, hge2, hx1⟩
  obtain ⟨d0, e0, d1, e1, d2, e2, G0, G1, G2, rfl, o0, o1, o2, _, rfl⟩ := oDisk_cells ho2
  have HO0 := Hid.mk o0
  have HO1 := Hid.mk o1
  have HO2 := Hid.mk o2
  have HO := Hid.mk ho2
  have HN := Hid.mk hN2
  have HGE : Hid (∀ b, b ∈ G0 ++ G1 ++ G2 ++ [] → wq.heap.size ≤ b) := hge2
  have HLT : Hid (∀ b, b ∈ G0 ++ G1 ++ G2 ++ [] → b < w1.heap.size) := fun b hb => oDisk_good.lt ho2 b hb
  clear ho2 hN2 hge2 o0 o1 o2
  have hb1 := bthen hbW hx1
  have hbd1 := hbd.under hx1
  have hbr1 := hbr.under hx1
  have hz1 := hx1.size
  have hzW := hbW.size
  have hl0 := hbr.lt
  have y0 := hbd1.cell 0 _ rfl
  have y1 := hbd1.cell 1 _ rfl
  have y2 := hbd1.cell 2 _ rfl
  have y3 := hbd1.cell 3 _ rfl
  have hl1 := hbd1.lt
  go_wp2_with fail
  obtain ⟨wa, hwa⟩ : ∃ wa, wa = w1.alloc (.cells #[.slice d0 m.fInodes.length e0, .slice d1 m.fNames.length e1, .slice d2 m.fSafe.length e2, .int .i64 m.fNext] 27) := ⟨_, rfl⟩
  have hba : Below w1.heap.size w1 wa := by rw [hwa]; exact (Below.refl _ _).alloc (Nat.le_refl _) _
  have hwb0 : Bw wa w1.heap.size 27 [.slice d0 m.fInodes.length e0, .slice d1 m.fNames.length e1, .slice d2 m.fSafe.length e2, .int .i64 m.fNext] := by rw [hwa]; exact Bw.new _ _ _
  rw [← hwa]
  clear hwa
  have hba1 := bthen hb1 hba
  have hbda := (hbd1.under hba)
  refine (l2Call_any _ m s wa (rDisk_good.mono (rDisk_good.below HR.out hba1) hba1.size) HW.out hs).mono ?_
  rintro e w2 ⟨rfl, hx2⟩
  have hb12 := bthen hba hx2
  have hb2 := bthen hba1 hx2
  have hwb := hwb0.under hx2
  have hbr2 := (hbr1.under hba).under hx2
  have hbd2 := hbda.under hx2
  clear hwb0 hbda hbd1 y0 y1 y2 y3
  have zo0 := hwb.cell 0 _ rfl
  have zo1 := hwb.cell 1 _ rfl
  have zo2 := hwb.cell 2 _ rfl
  have zo3 := hwb.cell 3 _ rfl
  by_cases h1 : callP m s = 1
  · have HCP : Hid (createC m s = 1) := by show _ = _; unfold createC; rw [h1]; rfl
    have HV : Hid (createP m s = m) := by show _ = _; unfold createP; rw [h1]; simp
    rw [h1]
    clear h1
    have ze0 := hbr2.cell 0 _ rfl
    have zf0 := hbr2.free 0
    have ze1 := hbr2.cell 1 _ rfl
    have zf1 := hbr2.free 1
    have ze2 := hbr2.cell 2 _ rfl
    have zf2 := hbr2.free 2
    have ze3 := hbr2.cell 3 _ rfl
    have zf3 := hbr2.free 3
    have hlt0 := hbr2.lt
    have hO3 : oDisk w2 [.slice d0 m.fInodes.length e0, .slice d1 m.fNames.length e1, .slice d2 m.fSafe.length e2, .int .i64 m.fNext] (createP m s) (G0 ++ G1 ++ G2 ++ []) := by rw [HV.out]; exact oDisk_good.frame HO.out (fun b hb => hb12.block b (HLT.out b hb))
    have hG3 : ∀ b, b ∈ G0 ++ G1 ++ G2 ++ [] → w.heap.size + 2 ≤ b := fun b hb => by have := HGE.out b hb; omega
    have HBf := Hid.mk hb2
    have HO3 := Hid.mk hO3
    clear hO3
    go_wp2_with fail
    refine bodyPost_ret (v := .tuple #[.agg #[.slice d0 m.fInodes.length e0, .slice d1 m.fNames.length e1, .slice d2 m.fSafe.length e2, .int .i64 m.fNext], .int .i64 1]) (by simp [results, Try.results9, go_sem, *]) rfl ⟨[.slice d0 m.fInodes.length e0, .slice d1 m.fNames.length e1, .slice d2 m.fSafe.length e2, .int .i64 m.fNext], by first | rfl | rw [HCP.out], ?_, ?_⟩
    · exact ⟨_, oDisk_good.frame HO3.out (fun b hb => (show Turn [w.heap.size + 1] w2 _ from by repeat (first | with_reducible exact Turn.refl _ _ | with_reducible refine Turn.setCell ?_ (by simp) _ | with_reducible refine Turn.alloc ?_ _ | with_reducible refine Turn.drew ?_)).block b (oDisk_good.lt HO3.out b hb) (by intro h; simp at h; have := hG3 b hb; omega)), fun b hb => by first | (have := hG3 b hb; omega) | (have := hge b hb; omega) | (rcases hF4 b hb with h2 | h2; (have := HSUB.out b h2; omega); omega)⟩
    · exact HBf.out.trans ((show Turn [w.heap.size + 1] w2 _ from by repeat (first | with_reducible exact Turn.refl _ _ | with_reducible refine Turn.setCell ?_ (by simp) _ | with_reducible refine Turn.alloc ?_ _ | with_reducible refine Turn.drew ?_)).below (fun k hk => by simp at hk; omega) HBf.out.size)
  by_cases h0 : callP m s = 0
  · have HCP : Hid (createC m s = 3) := by show _ = _; unfold createC; rw [h0]; rfl
    have HV : Hid (createP m s = m) := by show _ = _; unfold createP; rw [h0]; simp
    rw [h0]
    clear h0 h1
    have ze0 := hbr2.cell 0 _ rfl
    have zf0 := hbr2.free 0
    have ze1 := hbr2.cell 1 _ rfl
    have zf1 := hbr2.free 1
    have ze2 := hbr2.cell 2 _ rfl
    have zf2 := hbr2.free 2
    have ze3 := hbr2.cell 3 _ rfl
    have zf3 := hbr2.free 3
    have hlt0 := hbr2.lt
    have hO3 : oDisk w2 [.slice d0 m.fInodes.length e0, .slice d1 m.fNames.length e1, .slice d2 m.fSafe.length e2, .int .i64 m.fNext] (createP m s) (G0 ++ G1 ++ G2 ++ []) := by rw [HV.out]; exact oDisk_good.frame HO.out (fun b hb => hb12.block b (HLT.out b hb))
    have hG3 : ∀ b, b ∈ G0 ++ G1 ++ G2 ++ [] → w.heap.size + 2 ≤ b := fun b hb => by have := HGE.out b hb; omega
    have HBf := Hid.mk hb2
    have HO3 := Hid.mk hO3
    clear hO3
    go_wp2_with fail
    refine bodyPost_ret (v := .tuple #[.agg #[.slice d0 m.fInodes.length e0, .slice d1 m.fNames.length e1, .slice d2 m.fSafe.length e2, .int .i64 m.fNext], .int .i64 3]) (by simp [results, Try.results9, go_sem, *]) rfl ⟨[.slice d0 m.fInodes.length e0, .slice d1 m.fNames.length e1, .slice d2 m.fSafe.length e2, .int .i64 m.fNext], by first | rfl | rw [HCP.out], ?_, ?_⟩
    · exact ⟨_, oDisk_good.frame HO3.out (fun b hb => (show Turn [w.heap.size + 1] w2 _ from by repeat (first | with_reducible exact Turn.refl _ _ | with_reducible refine Turn.setCell ?_ (by simp) _ | with_reducible refine Turn.alloc ?_ _ | with_reducible refine Turn.drew ?_)).block b (oDisk_good.lt HO3.out b hb) (by intro h; simp at h; have := hG3 b hb; omega)), fun b hb => by first | (have := hG3 b hb; omega) | (have := hge b hb; omega) | (rcases hF4 b hb with h2 | h2; (have := HSUB.out b h2; omega); omega)⟩
    · exact HBf.out.trans ((show Turn [w.heap.size + 1] w2 _ from by repeat (first | with_reducible exact Turn.refl _ _ | with_reducible refine Turn.setCell ?_ (by simp) _ | with_reducible refine Turn.alloc ?_ _ | with_reducible refine Turn.drew ?_)).below (fun k hk => by simp at hk; omega) HBf.out.size)
  have hC2 : callP m s = 2 := by
    unfold callP at h1 h0 ⊢
    by_cases ha : (diskOk m && nameOk s) = true
    · rw [if_pos ha] at h0 ⊢
      by_cases hb : hasName m.fNames s = true
      · rw [if_pos hb] at h0; exact absurd rfl h0
      · rw [if_neg hb]
    · rw [if_neg ha] at h1; exact absurd rfl h1
  obtain ⟨hgd, hNs, _⟩ := call_none hC2
  have hs12 : s.size ≤ 12 := by
    unfold nameOk at hNs
    simp at hNs
    omega
  have hDR := diskOk_iff.1 hgd
  have HRI : Hid (Rise m.fNames) := hDR.names.rise
  have hwt := create_weight (s := s) hgd hs12
  have hok := ok_weight hgd
  obtain ⟨N, hN⟩ : ∃ N, N = withE m.fNames ⟨s, m.fNext⟩ := ⟨_, rfl⟩
  obtain ⟨n, hn⟩ : ∃ n, n = createD m s := ⟨_, rfl⟩
  have HNE := Hid.mk hN
  rw [← hN, ← hn] at hwt
  have HWK : Hid (wDisk n ≤ 16777216) := by show _ ≤ _; omega
  have HNX : Hid (n.fInodes = m.fInodes ++ [newI m] ∧ n.fNames = N ∧ n.fSafe = m.fSafe ∧ n.fNext = m.fNext + 1 ∧ n.fInodes.length = m.fInodes.length + 1) := by
    rw [hn, hN]
    refine ⟨rfl, rfl, rfl, rfl, ?_⟩
    simp [createD]
  have HLL : Hid (n.fInodes.length ≤ 1048576 ∧ n.fNames.length ≤ 1048576 ∧ n.fSafe.length ≤ 1048576) := by
    rw [HNX.out.2.2.2.2, HNX.out.2.1, HNX.out.2.2.1]
    have := hwt.2.1
    refine ⟨?_, ?_, ?_⟩ <;> omega
  have HE : Hid (endsD m n = createP m s ∧ endsC n = createC m s) := by
    have hk := create_keep hC2
    rw [← hn] at hk
    refine ⟨?_, ?_⟩
    · unfold endsD createP; rw [hk, hC2, ← hn]; simp
    · unfold endsC createC; rw [hk, hC2, ← hn]; simp
  have hil : m.fInodes.length ≤ 1000 := by omega
  have hnn : m.fNext ≤ 1000000 := hDR.next.2
  have hnn1 : 1 ≤ m.fNext := hDR.next.1
  rw [hC2]
  clear hC2 h0 h1 hgd hNs hDR hwt hok hN hn
  have hNN := HN.out
  rw [List.append_nil, List.append_assoc, List.nodup_append] at hNN
  have HNN := Hid.mk hNN
  obtain ⟨Wx, hWx⟩ : ∃ Wx, Wx = w2.alloc (.cells #[.int .i64 m.fNext, .slice none 0 0, .int .i64 0] 56) := ⟨_, rfl⟩
  have hWs : Wx.heap.size = w2.heap.size + 1 := by rw [hWx]; simp
  have hbx0 : Below w2.heap.size w2 Wx := by rw [hWx]; exact (Below.refl _ _).alloc (Nat.le_refl _) _
  have hb1x := bthen hb12 hbx0
  have hwbx := hwb.under hbx0
  have hbx : Bx Wx w2.heap.size [.int .i64 m.fNext, .slice none 0 0, .int .i64 0] := by rw [hWx]; exact Bx.new _ _ _
  have hbdx := hbd2.under hbx0
  have hbrx := hbr2.under hbx0
  have hox := ownS.frame (w' := Wx) oInode_good HO0.out (fun b hb => hb1x.block b (HLT.out b (by simp [hb])))
  obtain ⟨xs, hxs, hpush⟩ := ownS.push oInode_good hox hNN.1
  have hg0 : ∀ k, (Value.slice d0 m.fInodes.length e0).ownBlock = some k → wq.heap.size ≤ k ∧ k < w1.heap.size ∧ k ∈ G0 := fun k hk => by
    have hkG := ownS_block hox k hk
    exact ⟨HGE.out k (by simp [hkG]), HLT.out k (by simp [hkG]), hkG⟩
  have hlw := hwb.lt
  have hld := hbd2.lt
  have hlr := hbr2.lt
  have hz12 := hb12.size
  have HAFT : Hid (∀ (v5 : Value) (w5 : World), w5.ownsRow 0 56 3 v5 (m.fInodes.length + 1) (xs ++ [.int .i64 m.fNext, .slice none 0 0, .int .i64 0]) → Wx.grownBy w5 (Value.slice d0 m.fInodes.length e0).ownBlock → (v5.ownBlock = (Value.slice d0 m.fInodes.length e0).ownBlock ∨ v5.ownBlock = some Wx.heap.size) →
      ∃ r5 q5, v5 = .slice r5 (m.fInodes.length + 1) q5 ∧ Bw w5 w1.heap.size 27 [.slice d0 m.fInodes.length e0, .slice d1 m.fNames.length e1, .slice d2 m.fSafe.length e2, .int .i64 m.fNext] ∧ Bw w5 w.heap.size 27 [.slice a0 m.fInodes.length c0, .slice a1 m.fNames.length c1, .slice a2 m.fSafe.length c2, .int .i64 m.fNext] ∧ Bw w5 (w.heap.size + 1) 27 [.slice none 0 0, .slice none 0 0, .slice none 0 0, .int .i64 0] ∧ Below w.heap.size w w5 ∧ w1.heap.size < w5.heap.size ∧
        ∃ F', ownS 3 56 oInode w5 (.slice r5 (m.fInodes.length + 1) q5) (m.fInodes ++ [newI m]) F' ∧ ownS 2 61 oEntry w5 (.slice d1 m.fNames.length e1) m.fNames G1 ∧ ownS 2 61 oEntry w5 (.slice d2 m.fSafe.length e2) m.fSafe G2 ∧ (∀ b, b ∈ F' → w.heap.size + 2 ≤ b ∧ b ≠ w1.heap.size)) := by
    intro v5 w5 hown5 hgrow5 hloc5
    obtain ⟨r5, q5, rfl⟩ := own_slice hown5
    have hT5 := turnOwn hgrow5
    have hn : ∀ b, b < wq.heap.size ∨ w1.heap.size ≤ b → b ∉ (Value.slice d0 m.fInodes.length e0).ownBlock.toList := fun b hb h => by
      have := hg0 b (by simpa using h)
      omega
    have hB5 : Below wq.heap.size Wx w5 := hT5.below (fun k hk => (hg0 k (by simpa using hk)).1) (by omega)
    obtain ⟨F', p1, p2, p3⟩ := hpush w5 (.slice r5 (m.fInodes.length + 1) q5) [.int .i64 m.fNext, .slice none 0 0, .int .i64 0] (newI m) [] hown5 hgrow5 hloc5 (newI_own hnx Wx) List.nodup_nil (fun b hb => by cases hb)
    have hwb5 := hwbx.turn hT5 (hn _ (by omega))
    have hfr : ∀ b, b ∈ G1 ++ G2 → w5.heap[b]? = w1.heap[b]? := fun b hb => by
      have hb' : b ∈ G0 ++ G1 ++ G2 ++ [] := by simp at hb ⊢; exact .inr hb
      rw [hT5.block b (by have := HLT.out b hb'; omega) (fun h => HNN.out.2.2 b (hg0 b (by simpa using h)).2.2 b hb rfl), hb1x.block b (HLT.out b hb')]
    refine ⟨r5, q5, rfl, hwb5, hbdx.turn hT5 (hn _ (by omega)), hbrx.turn hT5 (hn _ (by omega)), (bthen hb2 hbx0).trans (hB5.mono (by omega)), hwb5.lt, F', p1, ownS.frame (w' := w5) oEntry_good HO1.out (fun b hb => hfr b (by simp [hb])), ownS.frame (w' := w5) oEntry_good HO2.out (fun b hb => hfr b (by simp [hb])), ?_⟩
    intro b hb
    rcases p3 b hb with h | h | h
    · have h1 := HGE.out b (by simp [h]); have h2 := HLT.out b (by simp [h]); omega
    · cases h
    · omega
  have HGF : Hid (∀ b, b ∈ G1 ++ G2 → w.heap.size + 2 ≤ b ∧ b < w1.heap.size) := fun b hb => by
    have hb' : b ∈ G0 ++ G1 ++ G2 ++ [] := by simp at hb ⊢; exact .inr hb
    have h1 := HGE.out b hb'
    have h2 := HLT.out b hb'
    omega
  have y0 := hbd2.cell 0 _ rfl
  have y1 := hbd2.cell 1 _ rfl
  have y2 := hbd2.cell 2 _ rfl
  have y3 := hbd2.cell 3 _ rfl
  clear hNN hpush hg0 hox hbx0 hWs hbd2 hbr2 hwbx hbdx hbrx hwb
  go_wp2_with (at_builtin; rw [← hWx]; refine wpList_append_own_at _ rfl _ _ 24 rfl 0 56 iI (.agg #[.int .i64 0, .slice none 0 0, .int .i64 0]) 3 40 Try.underlying24 hiI hzI0 hzI1 hzI2 rfl (by decide) _ _ _ rfl hxs ⟨w2.heap.size, 0, none⟩ 1 1 [.int .i64 m.fNext, .slice none 0 0, .int .i64 0] rfl rfl (bx_news hbx) (by intro u hu; simp at hu; rcases hu with rfl | rfl | rfl <;> rfl) (by unfold maxLen; omega) (by omega) (Nat.zero_le _) ?_; intro v5 w5 hown5 hgrow5 hnil5 hloc5; obtain ⟨r5, q5, rfl, hwb5, hbd5, hbr5, hb5, hl5, F5, hO5, hP5, hS5, hF5⟩ := HAFT.out v5 w5 hown5 hgrow5 hloc5; clear hown5 hgrow5 hloc5 hnil5; have hl5d := hbd5.lt; have hl5r := hbr5.lt; have x0 := hwb5.cell 0 _ rfl; have x1 := hwb5.cell 1 _ rfl; have x2 := hwb5.cell 2 _ rfl; have x3 := hwb5.cell 3 _ rfl; have f0 := hwb5.free 0; have f3 := hwb5.free 3; have z0 := hbd5.cell 0 _ rfl; have z1 := hbd5.cell 1 _ rfl; have z2 := hbd5.cell 2 _ rfl; have z3 := hbd5.cell 3 _ rfl)
  obtain ⟨wr, hwr⟩ : ∃ wr, wr = w5.setCell ⟨w1.heap.size, 0, none⟩ (.slice r5 (m.fInodes.length + 1) q5) := ⟨_, rfl⟩
  have hTr : Turn [w1.heap.size] w5 wr := by rw [hwr]; exact Turn.setCell (Turn.refl _ _) (by simp) _
  have hwbr : Bw wr w1.heap.size 27 [.slice r5 (m.fInodes.length + 1) q5, .slice d1 m.fNames.length e1, .slice d2 m.fSafe.length e2, .int .i64 m.fNext] := by rw [hwr]; exact hwb5.put 0 _
  have hfr5 : ∀ b, b ∈ G1 ++ G2 → b < w5.heap.size ∧ b ∉ [w1.heap.size] := fun b hb => by have := HGF.out b hb; simp; omega
  have hOr := ownS.frame (w' := wr) oInode_good hO5 (fun b hb => hTr.block b (ownS.lt oInode_good hO5 b hb) (by intro h; simp at h; exact (hF5 b hb).2 h))
  have hPr := ownS.frame (w' := wr) oEntry_good hP5 (fun b hb => hTr.block b (hfr5 b (by simp [hb])).1 (hfr5 b (by simp [hb])).2)
  have hSr := ownS.frame (w' := wr) oEntry_good hS5 (fun b hb => hTr.block b (hfr5 b (by simp [hb])).1 (hfr5 b (by simp [hb])).2)
  have hbdr := hbd5.turn hTr (by simp; omega)
  have hbrr := hbr5.turn hTr (by simp; omega)
  have hBr : Below w.heap.size w wr := hb5.trans (hTr.below (fun k hk => by simp at hk; omega) hb5.size)
  have hzr := hTr.size
  have HOR := Hid.mk hOr
  have HPR := Hid.mk hPr
  have HSR := Hid.mk hSr
  have HF5 := Hid.mk hF5
  rw [← hwr]
  clear hwr hTr x0 x1 x2 x3 f0 f3 z0 z1 z2 z3 hwb5 hbd5 hbr5 hO5 hP5 hS5 hfr5 hOr hPr hSr hF5 hb5
  have hcall := l2With_any d1 _ e1 m.fNames ⟨s, m.fNext⟩ wr rfl (by omega) (ownS.leaf oEntry_good HPR.out) HRI.out hs hnx
  rw [← HNE.out] at hcall
  refine hcall.mono ?_
  clear hcall
  rintro e w6 ⟨r6, q6, F6, rfl, ho6, hg6, hx6⟩
  have HO6 := Hid.mk ho6
  have HGS := Hid.mk hg6
  clear ho6 hg6
  have hwb6 := hwbr.under hx6
  have hbd6 := hbdr.under hx6
  have hbr6 := hbrr.under hx6
  have hB6 := bthen hBr hx6
  have hl6 := hwb6.lt
  have hl6d := hbd6.lt
  have hz6 := hx6.size
  have g1 := hwb6.free 1
  have g3 := hwb6.free 3
  have zd0 := hwb6.cell 0 _ rfl
  have zd1 := hwb6.cell 1 _ rfl
  have zd2 := hwb6.cell 2 _ rfl
  have zd3 := hwb6.cell 3 _ rfl
  have yd0 := hbd6.cell 0 _ rfl
  have yd1 := hbd6.cell 1 _ rfl
  have yd2 := hbd6.cell 2 _ rfl
  have yd3 := hbd6.cell 3 _ rfl
  go_wp2_with fail
  obtain ⟨ws, hws⟩ : ∃ ws, ws = (w6.setCell ⟨w1.heap.size, 1, none⟩ (.slice r6 N.length q6)).setCell ⟨w1.heap.size, 3, none⟩ (.int .i64 (m.fNext + 1)) := ⟨_, rfl⟩
  have hTs : Turn [w1.heap.size] w6 ws := by rw [hws]; exact Turn.setCell (Turn.setCell (Turn.refl _ _) (by simp) _) (by simp) _
  have hbrs := hbr6.turn hTs (by simp; omega)
  have hBs : Below w.heap.size w ws := hB6.trans (hTs.below (fun k hk => by simp at hk; omega) hB6.size)
  have hne : ∀ b, b < wr.heap.size → b ≠ w1.heap.size → ws.heap[b]? = wr.heap[b]? := fun b hb h1 => by
    rw [hTs.block b (by omega) (by simpa using h1), hx6.block b hb]
  have t0 := ownS.frame (w' := ws) oInode_good HOR.out (fun b hb => hne b (ownS.lt oInode_good HOR.out b hb) (HF5.out b hb).2)
  have t2 := ownS.frame (w' := ws) oEntry_good HSR.out (fun b hb => hne b (ownS.lt oEntry_good HSR.out b hb) (by have := HGF.out b (by simp [hb]); omega))
  have t1 := ownS.frame (w' := ws) oEntry_good HO6.out (fun b hb => hTs.block b (ownS.lt oEntry_good HO6.out b hb) (by intro h; simp at h; have := HGS.out b hb; omega))
  have HSUB : Hid (∀ b, b ∈ F5 ++ F6 ++ G2 → w.heap.size + 2 ≤ b) := by
    intro b hb
    rw [List.mem_append, List.mem_append] at hb
    rcases hb with (hb | hb) | hb
    · exact (HF5.out b hb).1
    · have := HGS.out b hb; omega
    · exact (HGF.out b (by simp [hb])).1
  have HBS := Hid.mk hBs
  rw [← hws]
  clear hws hTs zd0 zd1 zd2 zd3 yd0 yd1 yd2 yd3 g1 g3 hne
  have hcon := l2Ends_any _ r5 r6 d2 q5 q6 e2 m n F5 F6 G2 ws (rDisk_good.mono (rDisk_good.below HR.out HBS.out) HBS.out.size) HW.out (by rw [HNX.out.2.2.2.2, HNX.out.1]; exact t0) (by rw [HNX.out.2.1]; exact t1) (by rw [HNX.out.2.2.1]; exact t2) (by rw [HNX.out.2.2.2.1]; exact WalkArith.wf_i64 (by omega)) HWK.out HLL.out
  rw [HNX.out.2.2.2.2, HNX.out.2.1, HNX.out.2.2.1, HNX.out.2.2.2.1] at hcon
  clear t0 t1 t2
  refine hcon.mono ?_
  clear hcon
  rintro e w7 ⟨cs4, F4, rfl, ho4, hF4, hx7⟩
  have hb7 := bthen HBS.out hx7
  have hbr7 := hbrs.under hx7
  have hl7 := hbr7.lt
  have hzE := HBS.out.size
  have hlE := hbrs.lt
  rw [HE.out.1] at ho4
  obtain ⟨q0, p0, q1, p1, q2, p2, E0, E1, E2, rfl, _, _, _, _, rfl⟩ := oDisk_cells ho4
  have hkey : ∀ W', Turn [w.heap.size + 1] w7 W' → (∃ F, oDisk W' [.slice q0 (createP m s).fInodes.length p0, .slice q1 (createP m s).fNames.length p1, .slice q2 (createP m s).fSafe.length p2, .int .i64 (createP m s).fNext] (createP m s) F ∧ ∀ b, b ∈ F → w.heap.size ≤ b) ∧ Below w.heap.size w W' := fun W' hT =>
    ⟨⟨_, oDisk_good.frame ho4 (fun b hb => hT.block b (oDisk_good.lt ho4 b hb) (fun h => by simp at h; rcases hF4 b hb with h2 | h2; (have := HSUB.out b h2; omega); omega)), fun b hb => by first | (have := hG3 b hb; omega) | (have := hge b hb; omega) | (rcases hF4 b hb with h2 | h2; (have := HSUB.out b h2; omega); omega)⟩, hb7.trans (hT.below (fun k hk => by simp at hk; omega) hb7.size)⟩
  have HKEY := Hid.mk hkey
  clear hkey ho4 hF4
  have ze0 := hbr7.cell 0 _ rfl
  have ze1 := hbr7.cell 1 _ rfl
  have ze2 := hbr7.cell 2 _ rfl
  have ze3 := hbr7.cell 3 _ rfl
  have zf0 := hbr7.free 0
  have zf1 := hbr7.free 1
  have zf2 := hbr7.free 2
  have zf3 := hbr7.free 3
  have HEC : Hid (endsC n = createC m s) := HE.out.2
  rw [HEC.out]
  go_wp2_with fail
  obtain ⟨h1, h3⟩ := HKEY.out _ (show Turn [w.heap.size + 1] w7 ((((w7.setCell ⟨w.heap.size + 1, 0, none⟩ (.slice q0 (createP m s).fInodes.length p0)).setCell ⟨w.heap.size + 1, 1, none⟩ (.slice q1 (createP m s).fNames.length p1)).setCell ⟨w.heap.size + 1, 2, none⟩ (.slice q2 (createP m s).fSafe.length p2)).setCell ⟨w.heap.size + 1, 3, none⟩ (.int .i64 (createP m s).fNext)) from turn4 _ _ _ _ _ _)
  exact bodyPost_ret (v := .tuple #[.agg #[.slice q0 (createP m s).fInodes.length p0, .slice q1 (createP m s).fNames.length p1, .slice q2 (createP m s).fSafe.length p2, .int .i64 (createP m s).fNext], .int .i64 (createC m s)]) (by simp [results, Try.results9, go_sem, *]) rfl ⟨[.slice q0 (createP m s).fInodes.length p0, .slice q1 (createP m s).fNames.length p1, .slice q2 (createP m s).fSafe.length p2, .int .i64 (createP m s).fNext], rfl, h1, h3⟩

end Go.Proofs.Ytmbobjhplkpfoaa
