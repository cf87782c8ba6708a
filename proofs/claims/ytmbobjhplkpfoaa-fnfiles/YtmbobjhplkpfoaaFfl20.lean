/-
  Part 21 of the texts that the proof leans on.
-/
import Derived.Test.YtmbobjhplkpfoaaFfl9
import Derived.Test.YtmbobjhplkpfoaaFfl19
import Derived.Test.YtmbobjhplkpfoaaFfl0
set_option linter.unusedVariables false
set_option linter.unusedSimpArgs false
set_option maxRecDepth 10000

namespace Go.Proofs.Ytmbobjhplkpfoaa
open Go.RowKit

theorem hasId_map {k i : Int} : ∀ l : List MInode, hasId (l.map (cutI k)) i = hasId l i := by
  intro l
  unfold hasId
  rw [List.any_map]
  rfl
theorem fall_ok {m : MDisk} {k : Int} (h : diskOk m = true) (hk : 0 ≤ k) : diskOk (fallP m k) = true := by
  have hr := diskOk_iff.1 h
  have h1 := keep_ok (N := m.fSafe) (S := m.fSafe) hr hr.few' hr.few' hr.safe hr.safe
  have hd : fallP m k = { m with fNames := m.fSafe, fInodes := (keepI { m with fNames := m.fSafe }).map (cutI k) } := by unfold fallP; rw [if_pos ⟨h, hk⟩]
  rw [hd]
  refine diskOk_iff.2 ⟨h1.next, ?_, ?_, ?_, h1.few, h1.few', ?_, ?_, ?_⟩
  · intro n hn
    obtain ⟨x, hx, rfl⟩ := List.mem_map.1 hn
    have h2 := h1.each x hx
    have h3 := cutI_length (k := k) (n := x) hk h2.2.2.1 h2.2.2.2
    refine ⟨h2.1, h2.2.1, ?_, by omega⟩
    show 0 ≤ x.fSure + min k (x.fData.length - x.fSure)
    omega
  · exact List.pairwise_map.2 h1.rise
  · have h2 := sumW_map_le (f := cutI k) (fun n => by unfold cutI wInode; simp; omega) (keepI { m with fNames := m.fSafe })
    exact Nat.le_trans h2 h1.size
  · exact ⟨fun e he => by rw [hasId_map]; exact h1.names.1 e he, h1.names.2⟩
  · exact ⟨fun e he => by rw [hasId_map]; exact h1.safe.1 e he, h1.safe.2⟩
  · intro n hn
    obtain ⟨x, hx, rfl⟩ := List.mem_map.1 hn
    exact h1.all x hx

theorem upd_ids {f : MInode → MInode} (hf : ∀ n, (f n).fId = n.fId) (l : List MInode) (k : Nat) : (updI l k f).map (·.fId) = l.map (·.fId) := by
  unfold updI
  split
  · rename_i n hn
    rw [List.map_set]
    apply List.ext_getElem?
    intro j
    rw [List.getElem?_set]
    split
    · rename_i hj
      subst hj
      obtain ⟨hk, rfl⟩ := List.getElem?_eq_some_iff.1 hn
      rw [if_pos (by simpa using hk), List.getElem?_map, List.getElem?_eq_getElem hk]
      simp [hf]
    · rfl
  · rfl
theorem hasId_ids (l : List MInode) (i : Int) : hasId l i = (l.map (·.fId)).any (fun z => decide (z = i)) := by
  unfold hasId
  rw [List.any_map]
  rfl
theorem hasId_upd {f : MInode → MInode} (hf : ∀ n, (f n).fId = n.fId) (l : List MInode) (k : Nat) (i : Int) : hasId (updI l k f) i = hasId l i := by rw [hasId_ids, hasId_ids, upd_ids hf]
/-- One inode is changed, but not its number. -/
theorem upd_ok {m : MDisk} {k : Nat} {f : MInode → MInode} (h : diskOk m = true) (hf : ∀ n, (f n).fId = n.fId) (hs : ∀ n, n ∈ m.fInodes → 0 ≤ (f n).fSure ∧ (f n).fSure ≤ (f n).fData.length) (hsz : sumW wInode (updI m.fInodes k f) ≤ 60000) :
    diskOk { m with fInodes := updI m.fInodes k f } = true := by
  have hr := diskOk_iff.1 h
  refine diskOk_iff.2 ⟨hr.next, ?_, ?_, hsz, hr.few, hr.few', ?_, ?_, ?_⟩
  · intro n hn
    rcases updI_mem (show n ∈ updI m.fInodes k f from hn) with hn | ⟨x, hx, rfl⟩
    · exact hr.each n hn
    · have h1 := hr.each x hx
      have h2 := hs x hx
      rw [hf]
      exact ⟨h1.1, h1.2.1, h2.1, h2.2⟩
  · have h1 := hr.rise
    have e : ∀ l : List MInode, l.Pairwise (fun x y => x.fId < y.fId) ↔ (l.map (·.fId)).Pairwise (· < ·) := fun l => (List.pairwise_map (f := fun n : MInode => n.fId) (R := (· < ·)) (l := l)).symm
    rw [e] at h1 ⊢
    rw [upd_ids hf]
    exact h1
  · exact ⟨fun e he => by rw [hasId_upd hf]; exact hr.names.1 e he, hr.names.2⟩
  · exact ⟨fun e he => by rw [hasId_upd hf]; exact hr.safe.1 e he, hr.safe.2⟩
  · intro n hn
    rcases updI_mem (show n ∈ updI m.fInodes k f from hn) with hn | ⟨x, hx, rfl⟩
    · exact hr.all n hn
    · have h1 := isNamed_iff.1 (hr.all x hx)
      refine isNamed_iff.2 ?_
      rw [hf]
      exact h1
theorem sum_long {l : List MInode} {k : Nat} {b : List Int} : sumW wInode (updI l k (longI b)) ≤ sumW wInode l + b.length := sumW_updI (l := l) (k := k) (f := longI b) (c := b.length) (fun n => by simp [longI, wInode])
theorem append_fits {m : MDisk} {s : ByteArray} {b : List Int} (h : callP m s = 0) (hz : sumW wInode m.fInodes + b.length ≤ 60000) : diskOk (appendD m s b) = true := by
  have h1 := (call_good h).1
  have hr := diskOk_iff.1 h1
  refine upd_ok h1 (fun n => rfl) (fun n hn => ?_) (Nat.le_trans sum_long hz)
  have := hr.each n hn
  simp only [longI, List.length_append]
  omega
theorem sync_ok {m : MDisk} {s : ByteArray} (h : callP m s = 0) : diskOk { m with fInodes := updI m.fInodes (fileAt m s) sureI } = true := by
  have h1 := (call_good h).1
  have hr := diskOk_iff.1 h1
  have h2 := sumW_updI (l := m.fInodes) (k := fileAt m s) (f := sureI) (c := 0) (fun n => Nat.le_refl _)
  exact upd_ok h1 (fun n => rfl) (fun n hn => by simp [sureI]) (Nat.le_trans h2 hr.size)

/-- A file is there, and its inode is so. -/
def FileIs (m : MDisk) (s : ByteArray) (P : MInode → Prop) : Prop := callP m s = 0 ∧ ∃ x, x ∈ m.fInodes ∧ x.fId = idOf m.fNames s ∧ P x
theorem call_of {m : MDisk} {s : ByteArray} (h1 : diskOk m = true) (h2 : nameOk s = true) (h3 : hasName m.fNames s = true) : callP m s = 0 := by
  unfold callP
  rw [h1, h2, h3]
  rfl
theorem call_off {m : MDisk} {s : ByteArray} (h3 : hasName m.fNames s = false) : callP m s ≠ 0 := fun h => by
  have := (call_good h).2.2
  rw [h3] at this
  cases this
section
variable {m : MDisk} {s : ByteArray} {P : MInode → Prop} {b : List Int} {k : Int}
theorem FileIs.data (h : FileIs m s P) : ∃ x, P x ∧ dataOf m s = x.fData := by
  obtain ⟨hc, x, hx, hid, hp⟩ := h
  exact ⟨x, hp, data_eq hc hx hid⟩
theorem create_good (h : createC m s = 0) : callP m s = 2 ∧ diskOk (createD m s) = true ∧ createP m s = createD m s := by
  unfold createC at h
  by_cases h1 : callP m s = 2
  · rw [if_pos h1] at h
    by_cases h2 : diskOk (createD m s) = true
    · exact ⟨h1, h2, by unfold createP; rw [if_pos ⟨h1, h2⟩]⟩
    · rw [if_neg h2] at h; cases h
  · rw [if_neg h1] at h
    split at h <;> cases h
theorem file_create (h : createC m s = 0) : FileIs (createP m s) s (fun x => x.fData = [] ∧ x.fSure = 0) := by
  obtain ⟨h1, h2, h3⟩ := create_good h
  obtain ⟨_, hs, _⟩ := call_none h1
  rw [h3]
  have hmem : (⟨s, m.fNext⟩ : MEntry) ∈ (createD m s).fNames := mem_withE.2 (.inl rfl)
  have hc : callP (createD m s) s = 0 := call_of h2 hs (hasName_iff.2 ⟨_, hmem, rfl⟩)
  refine ⟨hc, newI m, List.mem_append_right _ (by simp), ?_, rfl, rfl⟩
  exact (idOf_eq (diskOk_iff.1 h2).names.rise hmem).symm
theorem file_upd {f : MInode → MInode} (h : FileIs m s P) (hf : ∀ n, (f n).fId = n.fId) (hok : diskOk { m with fInodes := updI m.fInodes (fileAt m s) f } = true) : FileIs { m with fInodes := updI m.fInodes (fileAt m s) f } s (fun x => ∃ y, P y ∧ x = f y) := by
  obtain ⟨hc, x, hx, hid, hp⟩ := h
  obtain ⟨h1, h2, h3⟩ := call_good hc
  refine ⟨call_of hok h2 h3, f x, ?_, (hf x).trans hid, x, hp, rfl⟩
  obtain ⟨p, hpl, rfl⟩ := List.mem_iff_getElem.1 hx
  have hpp := file_only hc hpl hid
  subst hpp
  show _ ∈ updI m.fInodes (fileAt m s) f
  rw [updI_at hpl]
  exact List.mem_iff_getElem.2 ⟨fileAt m s, by simpa using hpl, by simp⟩
theorem file_append (h : FileIs m s P) (hz : sumW wInode m.fInodes + b.length ≤ 60000) : FileIs (appendP m s b) s (fun x => ∃ y, P y ∧ x = longI b y) := by
  have hok := append_fits (b := b) h.1 hz
  have : appendP m s b = appendD m s b := by unfold appendP; rw [if_pos ⟨h.1, hok⟩]
  rw [this]
  exact file_upd h (fun n => rfl) hok
theorem file_append_any (h : FileIs m s P) : FileIs (appendP m s b) s (fun x => ∃ y, P y ∧ (x = y ∨ x = longI b y)) := by
  unfold appendP
  split
  · rename_i hc
    obtain ⟨hc2, x, hx, hid, y, hy, he⟩ := file_upd (f := longI b) h (fun n => rfl) hc.2
    exact ⟨hc2, x, hx, hid, y, hy, .inr he⟩
  · obtain ⟨hc2, x, hx, hid, hp⟩ := h
    exact ⟨hc2, x, hx, hid, x, hp, .inl rfl⟩
theorem file_sync (h : FileIs m s P) : FileIs (syncP m s) s (fun x => ∃ y, P y ∧ x = sureI y) := by
  have : syncP m s = { m with fInodes := updI m.fInodes (fileAt m s) sureI } := by unfold syncP; rw [if_pos h.1]
  rw [this]
  exact file_upd h (fun n => rfl) (sync_ok h.1)
theorem file_syncDir (h : FileIs m s P) : FileIs (syncDirP m) s P ∧ (syncDirP m).fSafe = (syncDirP m).fNames := by
  obtain ⟨hc, x, hx, hid, hp⟩ := h
  obtain ⟨h1, h2, h3⟩ := call_good hc
  have : syncDirP m = keepD { m with fSafe := m.fNames } := by unfold syncDirP; rw [if_pos h1]
  rw [this]
  refine ⟨⟨call_of (syncDir_ok h1) h2 h3, x, ?_, hid, hp⟩, rfl⟩
  show x ∈ keepI { m with fSafe := m.fNames }
  refine List.mem_filter.2 ⟨hx, isNamed_iff.2 (List.mem_append_left _ (List.mem_map.2 ⟨⟨s, idOf m.fNames s⟩, entry_of h3, hid.symm⟩))⟩
theorem append_names : (appendP m s b).fNames = m.fNames ∧ (appendP m s b).fSafe = m.fSafe := by
  unfold appendP
  split <;> exact ⟨rfl, rfl⟩
theorem file_fall (h : FileIs m s P) (hn : m.fSafe = m.fNames) (hk : 0 ≤ k) : FileIs (fallP m k) s (fun x => ∃ y, P y ∧ x = cutI k y) := by
  obtain ⟨hc, x, hx, hid, hp⟩ := h
  obtain ⟨h1, h2, h3⟩ := call_good hc
  have hd : fallP m k = { m with fNames := m.fSafe, fInodes := (keepI { m with fNames := m.fSafe }).map (cutI k) } := by unfold fallP; rw [if_pos ⟨h1, hk⟩]
  have hok := fall_ok h1 hk
  rw [hd] at hok ⊢
  refine ⟨call_of hok h2 (by show hasName m.fSafe s = true; rw [hn]; exact h3), cutI k x, ?_, ?_, x, hp, rfl⟩
  · refine List.mem_map.2 ⟨x, List.mem_filter.2 ⟨hx, isNamed_iff.2 ?_⟩, rfl⟩
    refine List.mem_append_right _ (List.mem_map.2 ⟨⟨s, idOf m.fNames s⟩, ?_, hid.symm⟩)
    show _ ∈ m.fSafe
    rw [hn]
    exact entry_of h3
  · show x.fId = idOf m.fSafe s
    rw [hn]
    exact hid
theorem create_safe : (createP m s).fSafe = m.fSafe := by unfold createP; split <;> rfl
theorem sync_safe : (syncP m s).fSafe = m.fSafe := by unfold syncP; split <;> rfl
theorem create_sum : sumW wInode (createP m s).fInodes = sumW wInode m.fInodes := by
  have key : ∀ l : List MInode, sumW wInode (l ++ [newI m]) = sumW wInode l := by
    intro l
    induction l with
    | nil => simp [sumW, wInode, newI]
    | cons y r ih => simp only [List.cons_append, sumW, ih]
  unfold createP
  split
  · exact key _
  · rfl
end

/-- All that the law of files asks of a file of its own. -/
structure FilesOk (m : MDisk) (s : ByteArray) (b c : List Int) (k : Int) : Prop where
  lost : callP (fallP (syncP (appendP (createP m s) s b) s) k) s ≠ 0
  lostOk : diskOk (fallP (syncP (appendP (createP m s) s b) s) k) = true
  kept : callP (fallP (appendP (syncDirP (syncP (appendP (createP m s) s b) s)) s c) k) s = 0
  keptOk : diskOk (fallP (appendP (syncDirP (syncP (appendP (createP m s) s b) s)) s c) k) = true
  len : b.length ≤ (bytesP (fallP (appendP (syncDirP (syncP (appendP (createP m s) s b) s)) s c) k) s).length
  take : (bytesP (fallP (appendP (syncDirP (syncP (appendP (createP m s) s b) s)) s c) k) s).take b.length = b
theorem files_ok {m : MDisk} {s : ByteArray} {b c : List Int} {k : Int} (hc : createC m s = 0) (hz : sumW wInode m.fInodes + b.length ≤ 60000) (hs : hasName m.fSafe s = false) (hk : 0 ≤ k) : FilesOk m s b c k := by
  have f1 := file_create hc
  have f2 := file_append (b := b) f1 (by rw [create_sum]; exact hz)
  have f3 := file_sync f2
  obtain ⟨f4, e4⟩ := file_syncDir f3
  have f5 := file_append_any (b := c) f4
  have f6 := file_fall f5 (by rw [append_names.1, append_names.2]; exact e4) hk
  have hn : (fallP (syncP (appendP (createP m s) s b) s) k).fNames = m.fSafe := by
    rw [fall_names (call_good f3.1).1 hk, sync_safe, append_names.2, create_safe]
  obtain ⟨x, ⟨y, ⟨y4, ⟨y2, ⟨y1, ⟨hd, _⟩, rfl⟩, rfl⟩, hy⟩, rfl⟩, hdat⟩ := f6.data
  have hb : bytesP (fallP (appendP (syncDirP (syncP (appendP (createP m s) s b) s)) s c) k) s = (cutI k y).fData := by
    unfold bytesP
    rw [if_pos f6.1, hdat]
  have hs1 : (sureI (longI b y1)).fSure = b.length := by simp [sureI, longI, hd]
  have hs2 : (sureI (longI b y1)).fData = b := by simp [sureI, longI, hd]
  have hys : y.fSure = b.length ∧ ∃ r, y.fData = b ++ r := by
    rcases hy with rfl | rfl
    · exact ⟨hs1, [], by rw [hs2]; simp⟩
    · exact ⟨hs1, c, by show (sureI (longI b y1)).fData ++ c = _; rw [hs2]⟩
  obtain ⟨hys1, r, hys2⟩ := hys
  have hcut : (cutI k y).fData = (b ++ r).take (b.length + min k ((b ++ r).length - b.length)).toNat := by
    show y.fData.take (y.fSure + min k (y.fData.length - y.fSure)).toNat = _
    rw [hys1, hys2]
  have hge : b.length ≤ ((b.length : Int) + min k ((b ++ r).length - b.length)).toNat := by
    simp only [List.length_append]
    omega
  refine ⟨call_off (by rw [hn]; exact hs), fall_ok (call_good f3.1).1 hk, f6.1, (call_good f6.1).1, ?_, ?_⟩
  · rw [hb, hcut, List.length_take, List.length_append]
    omega
  · rw [hb, hcut, List.take_take, Nat.min_eq_left hge, List.take_left' rfl]
theorem list_same {m : MDisk} {s : ByteArray} (hc : createC m s ≠ 0) : createP m s = m := by
  unfold createP
  split
  · rename_i h
    exact absurd (by unfold createC; rw [if_pos h.1, if_pos h.2]) hc
  · rfl

end Go.Proofs.Ytmbobjhplkpfoaa
