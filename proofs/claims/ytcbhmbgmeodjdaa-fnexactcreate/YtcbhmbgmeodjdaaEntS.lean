/-
  A row of entries that the library's sort has turned: what it holds; no walk here.
-/
import Derived.Test.YtcbhmbgmeodjdaaEntl
import Derived.Test.YtcbhmbgmeodjdaaKeep
namespace Go.Proofs.Ytcbhmbgmeodjdaa
open Go.RowKit Go.Maps Go.Shelf Go.Lib Go.Sort
set_option linter.unusedVariables false
set_option linter.unusedSimpArgs false

theorem encs_len (l : List MEntry) : ∀ c, c ∈ l.map encE → c.length = 2 := by
  intro c hc
  obtain ⟨e, _, rfl⟩ := List.mem_map.1 hc
  rfl

section
variable [Inhabited MEntry]

theorem flatK_at (d : Array MEntry) (t : Nat) (h : t < d.size * 2) : (d.toList.map encE).flatten[t]? = some ((flatK encE 2 d)[t]!) := by
  rw [get_flatK encE 2 d t h]
  have h1 : t / 2 < d.size := by omega
  have e1 : t = t / 2 * 2 + t % 2 := by omega
  have hf := flatten_at (encs_len d.toList) (j := t / 2) (i := t % 2) (by omega)
  rw [← e1] at hf
  rw [hf, List.getElem?_map, List.getElem?_eq_getElem (by simpa using h1)]
  simp only [Option.map_some, Option.bind_some, Array.getElem_toList]
  rw [getElem!_pos d (t / 2) h1]
  have h2 : t % 2 < 2 := by omega
  generalize t % 2 = r at *
  match r, h2 with
  | 0, _ => rfl
  | 1, _ => rfl

/-- The row ahead of the sort. -/
theorem holdsE {w : World} {base g cap : Nat} {l : List MEntry} {e : TypeId} {B : Nat} (h : RowR 2 e rEntry B w base (.slice (some ⟨g, 0, none⟩) l.length cap) l) : HoldsK encE 2 w g 0 l.toArray ∧ g < w.heap.size ∧ base ≤ g ∧ ∃ cur, w.heap[g]? = some (.cells cur e (0, 0)) ∧ cur.size = cap * 2 ∧ l.length ≤ cap ∧ cap ≤ maxLen ∧ ∀ x, x ∈ l → x.fName.size ≤ 9223372036854775807 ∧ (Lit.int .i64 x.fId).wf = true := by
  obtain ⟨css, r1, r2, r3, r4⟩ := h
  have hcss : css = l.map encE := by
    apply List.ext_getElem (by simp [r1])
    intro i h1 h2
    obtain ⟨e1, _⟩ := r3 i (by omega) h1
    rw [e1]
    simp [encE]
  rcases r4.2 with ⟨h0, _⟩ | ⟨g', cap', cur, h0, hb, hg, hnc, hm, hs, ht⟩
  · cases h0
  · simp only [Value.slice.injEq, Option.some.injEq, Addr.mk.injEq, and_true, true_and] at h0
    obtain ⟨rfl, rfl⟩ := h0
    refine ⟨?_, (Array.getElem?_eq_some_iff.1 hg).1, hb, cur, hg, hs, hnc, hm, ?_⟩
    · intro j hj
      have hj2 : j < l.toArray.size * 2 := by simpa using hj
      refine ⟨?_, frozen_of_row w g _ cur e hg⟩
      rw [Nat.zero_add, cell_of_row w g j cur e (0, 0) hg]
      have hf := flatK_at l.toArray j hj2
      have hlt : j < l.length * 2 := by simpa using hj2
      rw [List.toList_toArray, ← hcss, ← ht, List.getElem?_take, if_pos hlt] at hf
      show cur[j]? = some ((flatK encE 2 l.toArray)[j]!)
      rw [← hf]
      simp
    · intro x hx
      obtain ⟨i, hi, rfl⟩ := List.mem_iff_getElem.1 hx
      obtain ⟨_, e2, e3, _⟩ := r3 i hi (by omega)
      exact ⟨e2, e3⟩

/-- The row behind it. -/
theorem sortedE {w : World} {g cap n : Nat} {e : TypeId} {cur : Array Value} (hg : w.heap[g]? = some (.cells cur e (0, 0))) (hs : cur.size = cap * 2) (hnc : n ≤ cap) (hm : cap ≤ maxLen) (d : Array MEntry) (hd : d.size = n) (hx : ∀ x, x ∈ d.toList → x.fName.size ≤ 9223372036854775807 ∧ (Lit.int .i64 x.fId).wf = true) (m : Nat) (os : Array Obj) :
    ownS 2 e oEntry (sortWorldK encE 2 w g 0 m d os) (.slice (some ⟨g, 0, none⟩) n cap) d.toList [g] ∧ Turn [g] w (sortWorldK encE 2 w g 0 m d os) := by
  have hgl : g < w.heap.size := (Array.getElem?_eq_some_iff.1 hg).1
  have hheap : (sortWorldK encE 2 w g 0 m d os).heap = w.heap.modify g (onCells (putCells id 0 (flatK encE 2 d))) ++ os := rfl
  have hblk : (sortWorldK encE 2 w g 0 m d os).heap[g]? = some (.cells (putCells id 0 (flatK encE 2 d) cur) e (0, 0)) := by
    rw [hheap, Array.getElem?_append_left (by simpa using hgl), Array.getElem?_modify, if_pos rfl, hg]
    rfl
  have hput : ∀ t, t < n * 2 → (putCells id 0 (flatK encE 2 d) cur)[t]? = (d.toList.map encE).flatten[t]? := by
    intro t ht
    have hcur : t < cur.size := by rw [hs]; have := Nat.mul_le_mul_right 2 hnc; omega
    rw [flatK_at d t (by rw [hd]; exact ht)]
    unfold putCells
    rw [Array.getElem?_mapIdx, Array.getElem?_eq_getElem hcur]
    simp only [Option.map_some, Nat.zero_add, Nat.zero_le, true_and, size_flatK, Nat.sub_zero, id]
    rw [if_pos (by rw [hd]; exact ht)]
  have hrow : (sortWorldK encE 2 w g 0 m d os).ownsRow 0 e 2 (.slice (some ⟨g, 0, none⟩) n cap) n (d.toList.map encE).flatten := by
    refine ⟨by rw [flat_len (encs_len _)]; simp [hd], .inr ⟨g, cap, _, rfl, Nat.zero_le _, hblk, hnc, hm, by unfold putCells; rw [Array.size_mapIdx]; exact hs, ?_⟩⟩
    apply List.ext_getElem?
    intro t
    rw [List.getElem?_take]
    by_cases ht : t < n * 2
    · rw [if_pos ht, ← hput t ht]
      simp
    · rw [if_neg ht, List.getElem?_eq_none (by rw [flat_len (encs_len _)]; simp [hd]; omega)]
  refine ⟨?_, ⟨rfl, rfl, rfl, by rw [hheap]; simp, fun b hb hne => ?_⟩⟩
  · have h := ownS_row (l := d.toList) (css := d.toList.map encE) (B := 0) (w0 := w) (n := n) (by simpa using hd) (by simp) (encs_len _) (fun j h1 h2 => by
      have := hx d.toList[j] (List.getElem_mem h1)
      rw [List.getElem_map]
      exact ⟨rfl, this.1, this.2, trivial⟩) hrow
    simpa [Value.ownBlock] using h
  · rw [hheap, Array.getElem?_append_left (by simpa using hb), Array.getElem?_modify, if_neg (by simp at hne; omega)]

theorem sorted_rise {l : List MEntry} {d d' : Array MEntry} (hl : d.toList.Perm l) (hr : Rise l) (hp : PermIn 0 d.size d d') (hs : SortedIn (ltOf cmpE) 0 d.size d') : d'.toList = l := by
  obtain ⟨h1, _, h3⟩ := hp
  have e1 : (d'.extract 0 d.size).toList = d'.toList := by simp [← h1]
  have e2 : (d.extract 0 d.size).toList = d.toList := by simp
  rw [e1, e2] at h3
  have hperm : d'.toList.Perm l := h3.trans hl
  refine rise_unique hperm ?_ hr
  have hnd : l.Pairwise (fun x y => x.fName ≠ y.fName) := hr.imp (fun h e => by rw [e, strLt_irrefl] at h; cases h)
  have hnd' : d'.toList.Pairwise (fun x y => x.fName ≠ y.fName) := hperm.symm.pairwise hnd (fun {a b} h => Ne.symm h)
  unfold Rise
  rw [List.pairwise_iff_getElem] at hnd' ⊢
  intro i j hi hj hij
  have h4 := hs i j (Nat.zero_le _) hij (by simp at hj; omega)
  have hi' : i < d'.size := by simpa using hi
  have hj' : j < d'.size := by simpa using hj
  rw [getElem!_pos d' i hi', getElem!_pos d' j hj', ltOfE] at h4
  have h5 := hnd' i j hi hj hij
  simp only [Array.getElem_toList] at h5 ⊢
  exact strLt_tri h4 (Ne.symm h5)

end

end Go.Proofs.Ytcbhmbgmeodjdaa
