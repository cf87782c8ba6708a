/-
  The calls on a disk, as plain functions; no program is named here.
-/
import Derived.Test.YtcbhmbgmeodjdaaDoorMapP
namespace Go.Proofs.YtcbhmbgmeodjdaaDoor
open Go.RowKit
set_option linter.unusedVariables false
set_option linter.unusedSimpArgs false

/-- An inode changed in its place. -/
def updI (l : List MInode) (k : Nat) (f : MInode → MInode) : List MInode := match l[k]? with | some n => l.set k (f n) | none => l
theorem updI_at {l : List MInode} {k : Nat} {f : MInode → MInode} (h : k < l.length) : updI l k f = l.set k (f l[k]) := by unfold updI; rw [List.getElem?_eq_getElem h]
theorem updI_length {l : List MInode} {k : Nat} {f : MInode → MInode} : (updI l k f).length = l.length := by unfold updI; split <;> simp
theorem updI_mem {l : List MInode} {k : Nat} {f : MInode → MInode} {n : MInode} (h : n ∈ updI l k f) : n ∈ l ∨ ∃ x, x ∈ l ∧ n = f x := by
  unfold updI at h
  split at h
  · next x hx =>
    rcases List.mem_or_eq_of_mem_set h with h | h
    · exact .inl h
    · exact .inr ⟨x, List.mem_of_getElem? hx, h⟩
  · exact .inl h

def fileAt (m : MDisk) (s : ByteArray) : Nat := placeOf m.fInodes (idOf m.fNames s)

theorem call_good {m : MDisk} {s : ByteArray} (h : callP m s = 0) : diskOk m = true ∧ nameOk s = true ∧ hasName m.fNames s = true := by
  unfold callP at h
  by_cases h1 : (diskOk m && nameOk s) = true
  · rw [if_pos h1] at h
    rw [Bool.and_eq_true] at h1
    by_cases h2 : hasName m.fNames s = true
    · exact ⟨h1.1, h1.2, h2⟩
    · rw [if_neg h2] at h; cases h
  · rw [if_neg h1] at h; cases h
theorem call_none {m : MDisk} {s : ByteArray} (h : callP m s = 2) : diskOk m = true ∧ nameOk s = true ∧ hasName m.fNames s = false := by
  unfold callP at h
  by_cases h1 : (diskOk m && nameOk s) = true
  · rw [if_pos h1] at h
    rw [Bool.and_eq_true] at h1
    by_cases h2 : hasName m.fNames s = true
    · rw [if_pos h2] at h; cases h
    · exact ⟨h1.1, h1.2, Bool.eq_false_iff.2 h2⟩
  · rw [if_neg h1] at h; cases h
theorem call_which (m : MDisk) (s : ByteArray) : callP m s = 0 ∨ callP m s = 1 ∨ callP m s = 2 := by
  unfold callP
  split
  · split
    · exact .inl rfl
    · exact .inr (.inr rfl)
  · exact .inr (.inl rfl)

/-- Where the file that a call names stands. -/
theorem file_at {m : MDisk} {s : ByteArray} (h : callP m s = 0) : ∃ hk : fileAt m s < m.fInodes.length, m.fInodes[fileAt m s].fId = idOf m.fNames s := by
  obtain ⟨h1, _, h2⟩ := call_good h
  obtain ⟨_, _, h3⟩ := file_there h1 h2
  exact hasId_at h3

theorem ids_once {l : List MInode} (h : l.Pairwise fun x y => x.fId < y.fId) {i j : Nat} (hi : i < l.length) (hj : j < l.length) (he : l[i].fId = l[j].fId) : i = j := by
  rcases Nat.lt_trichotomy i j with hlt | rfl | hlt
  · have := List.pairwise_iff_getElem.1 h i j hi hj hlt; omega
  · rfl
  · have := List.pairwise_iff_getElem.1 h j i hj hi hlt; omega

/-- The place that holds the file's id is its place. -/
theorem file_only {m : MDisk} {s : ByteArray} (h : callP m s = 0) {p : Nat} (hp : p < m.fInodes.length) (he : m.fInodes[p].fId = idOf m.fNames s) : p = fileAt m s := by
  obtain ⟨hk, hid⟩ := file_at h
  exact ids_once (diskOk_iff.1 (call_good h).1).rise hp hk (he.trans hid.symm)

def sureI (n : MInode) : MInode := { n with fSure := n.fData.length }
def syncP (m : MDisk) (s : ByteArray) : MDisk := if callP m s = 0 then { m with fInodes := updI m.fInodes (fileAt m s) sureI } else m

def syncDirP (m : MDisk) : MDisk := if diskOk m then keepD { m with fSafe := m.fNames } else m
def syncDirC (m : MDisk) : Int := if diskOk m then 0 else 1
theorem syncDir_ok {m : MDisk} (h : diskOk m = true) : diskOk (keepD { m with fSafe := m.fNames }) = true := by
  have hr := diskOk_iff.1 h
  exact diskOk_iff.2 (keep_ok (N := m.fNames) (S := m.fNames) hr hr.few hr.few hr.names hr.names)

def longI (b : List Int) (n : MInode) : MInode := { n with fData := n.fData ++ b }
def appendD (m : MDisk) (s : ByteArray) (b : List Int) : MDisk := { m with fInodes := updI m.fInodes (fileAt m s) (longI b) }
def appendP (m : MDisk) (s : ByteArray) (b : List Int) : MDisk := if callP m s = 0 ∧ diskOk (appendD m s b) = true then appendD m s b else m
def appendC (m : MDisk) (s : ByteArray) (b : List Int) : Int := if callP m s = 0 then (if diskOk (appendD m s b) then 0 else 4) else callP m s
theorem append_keep {m : MDisk} {s : ByteArray} {b : List Int} (h : callP m s = 0) : keepD (appendD m s b) = appendD m s b := by
  have hr := diskOk_iff.1 (call_good h).1
  unfold keepD
  rw [keepI_all]
  intro n hn
  rcases updI_mem (show n ∈ updI m.fInodes (fileAt m s) (longI b) from hn) with hn | ⟨x, hx, rfl⟩
  · exact hr.all n hn
  · exact hr.all x hx

def removeD (m : MDisk) (s : ByteArray) : MDisk := keepD { m with fNames := without m.fNames s }
def removeP (m : MDisk) (s : ByteArray) : MDisk := if callP m s = 0 then removeD m s else m
theorem remove_ok {m : MDisk} {s : ByteArray} (h : diskOk m = true) : diskOk (removeD m s) = true := by
  have hr := diskOk_iff.1 h
  exact diskOk_iff.2 (keep_ok (N := without m.fNames s) (S := m.fSafe) hr (Nat.le_trans (List.length_filter_le _ _) hr.few) hr.few' (hr.names.sub List.filter_sublist) hr.safe)

def renameN (m : MDisk) (s t : ByteArray) : List MEntry := withE (without m.fNames s) ⟨t, idOf m.fNames s⟩
def renameD (m : MDisk) (s t : ByteArray) : MDisk := keepD { m with fNames := renameN m s t }
def renameC (m : MDisk) (s t : ByteArray) : Int := if nameOk t then callP m s else 1
def renameP (m : MDisk) (s t : ByteArray) : MDisk := if renameC m s t = 0 then renameD m s t else m

theorem entry_of {m : MDisk} {s : ByteArray} (h : hasName m.fNames s = true) : ⟨s, idOf m.fNames s⟩ ∈ m.fNames := by
  obtain ⟨hk, hn⟩ := hasName_at h
  have : idOf m.fNames s = m.fNames[nameAt m.fNames s].fId := by unfold idOf; rw [List.getElem?_eq_getElem hk]; rfl
  rw [this]
  have e : (⟨s, m.fNames[nameAt m.fNames s].fId⟩ : MEntry) = m.fNames[nameAt m.fNames s] := by
    cases hx : m.fNames[nameAt m.fNames s] with
    | mk a b => rw [hx] at hn; simp at hn; subst hn; rfl
  rw [e]
  exact List.getElem_mem hk

theorem ids_once' {ins : List MInode} {l : List MEntry} (h : EntOk ins l) {x y : MEntry} (hx : x ∈ l) (hy : y ∈ l) (he : x.fId = y.fId) : x = y := by
  obtain ⟨i, hi, rfl⟩ := List.mem_iff_getElem.1 hx
  obtain ⟨j, hj, rfl⟩ := List.mem_iff_getElem.1 hy
  rcases Nat.lt_trichotomy i j with hlt | rfl | hlt
  · exact absurd he (List.pairwise_iff_getElem.1 h.2 i j hi hj hlt).2
  · rfl
  · exact absurd he.symm (List.pairwise_iff_getElem.1 h.2 j i hj hi hlt).2
theorem names_once' {l : List MEntry} (h : Rise l) {x y : MEntry} (hx : x ∈ l) (hy : y ∈ l) (he : x.fName = y.fName) : x = y := by
  obtain ⟨i, hi, rfl⟩ := List.mem_iff_getElem.1 hx
  obtain ⟨j, hj, rfl⟩ := List.mem_iff_getElem.1 hy
  have := names_once h hi hj he
  subst this
  rfl

theorem without_length {l : List MEntry} {s : ByteArray} (h : hasName l s = true) : (without l s).length < l.length := by
  obtain ⟨e, he, hs⟩ := hasName_iff.1 h
  unfold without
  rcases Nat.lt_or_ge (l.filter fun e => decide (e.fName ≠ s)).length l.length with h1 | h1
  · exact h1
  · have h2 := List.length_filter_eq_length_iff.1 (Nat.le_antisymm (List.length_filter_le _ _) h1) e he
    simp [hs] at h2

theorem renameN_ok {m : MDisk} {s t : ByteArray} (hr : DiskR m) (hn : hasName m.fNames s = true) (ht : nameOk t = true) : EntOk m.fInodes (renameN m s t) ∧ (renameN m s t).length ≤ 30 := by
  have hmem := entry_of hn
  have hw : EntOk m.fInodes (without m.fNames s) := hr.names.sub List.filter_sublist
  refine ⟨EntOk.withE hw (hr.names.1 _ hmem).1 ht ?_, ?_⟩
  · intro x hx hid
    have hx' := List.mem_filter.1 (show x ∈ m.fNames.filter _ from hx)
    have := ids_once' hr.names hx'.1 hmem hid
    rw [this] at hx'
    simp at hx'
  · have h1 := withE_length (l := without m.fNames s) (e := ⟨t, idOf m.fNames s⟩)
    have h2 := without_length hn
    have h3 := hr.few
    unfold renameN
    omega

theorem rename_ok {m : MDisk} {s t : ByteArray} (h : callP m s = 0) (ht : nameOk t = true) : diskOk (renameD m s t) = true := by
  obtain ⟨h1, _, h2⟩ := call_good h
  have hr := diskOk_iff.1 h1
  have h3 := renameN_ok hr h2 ht
  exact diskOk_iff.2 (keep_ok (N := renameN m s t) (S := m.fSafe) hr h3.2 hr.few' h3.1 hr.safe)

theorem keepD_self {m : MDisk} (h : diskOk m = true) : keepD m = m := by
  unfold keepD
  rw [keepI_all (diskOk_iff.1 h).all]

/-- A file that is renamed to its own name. -/
theorem rename_self {m : MDisk} {s : ByteArray} (h : callP m s = 0) : renameD m s s = m := by
  obtain ⟨h1, hs, h2⟩ := call_good h
  have hr := diskOk_iff.1 h1
  have h3 := renameN_ok hr h2 hs
  have hmem := entry_of h2
  have : renameN m s s = m.fNames := by
    have n1 : (renameN m s s).Nodup := h3.1.rise.imp (fun hlt he => by rw [he, strLt_irrefl] at hlt; cases hlt)
    have n2 : m.fNames.Nodup := hr.names.rise.imp (fun hlt he => by rw [he, strLt_irrefl] at hlt; cases hlt)
    refine rise_unique ((List.perm_ext_iff_of_nodup n1 n2).2 fun e => ?_) h3.1.rise hr.names.rise
    unfold renameN
    rw [mem_withE]
    unfold without
    rw [List.mem_filter]
    constructor
    · rintro (rfl | ⟨⟨h4, _⟩, _⟩)
      · exact hmem
      · exact h4
    · intro he
      by_cases hes : e.fName = s
      · left
        exact names_once' hr.names.rise he hmem hes
      · right
        exact ⟨⟨he, by simpa using hes⟩, hes⟩
  unfold renameD
  rw [this]
  exact keepD_self h1

def newI (m : MDisk) : MInode := ⟨m.fNext, [], 0⟩
def createD (m : MDisk) (s : ByteArray) : MDisk := { m with fInodes := m.fInodes ++ [newI m], fNames := withE m.fNames ⟨s, m.fNext⟩, fNext := m.fNext + 1 }
def createC (m : MDisk) (s : ByteArray) : Int := if callP m s = 2 then (if diskOk (createD m s) then 0 else 4) else if callP m s = 0 then 3 else 1
def createP (m : MDisk) (s : ByteArray) : MDisk := if callP m s = 2 ∧ diskOk (createD m s) = true then createD m s else m

theorem create_named {m : MDisk} {s : ByteArray} (h : callP m s = 2) : ∀ n, n ∈ m.fInodes → isNamed { m with fNames := withE m.fNames ⟨s, m.fNext⟩ } n = true := by
  obtain ⟨h1, _, h2⟩ := call_none h
  have hr := diskOk_iff.1 h1
  intro n hn
  have h3 := isNamed_iff.1 (hr.all n hn)
  rw [isNamed_iff]
  rw [List.mem_append] at h3 ⊢
  rcases h3 with h3 | h3
  · left
    obtain ⟨e, he, hid⟩ := List.mem_map.1 h3
    refine List.mem_map.2 ⟨e, mem_withE.2 (.inr ⟨he, fun hh => ?_⟩), hid⟩
    have : hasName m.fNames s = true := hasName_iff.2 ⟨e, he, hh⟩
    rw [h2] at this
    cases this
  · exact .inr h3

/-- The program's way: the names first, what they don't name gone, then the inode. -/
theorem create_way {m : MDisk} {s : ByteArray} (h : callP m s = 2) : keepD { m with fNames := withE m.fNames ⟨s, m.fNext⟩ } = { m with fNames := withE m.fNames ⟨s, m.fNext⟩ } := by
  unfold keepD
  rw [keepI_all (create_named h)]
theorem create_keep {m : MDisk} {s : ByteArray} (h : callP m s = 2) : keepD (createD m s) = createD m s := by
  unfold keepD
  rw [keepI_all]
  intro n hn
  rcases List.mem_append.1 (show n ∈ m.fInodes ++ [newI m] from hn) with hn | hn
  · exact create_named h n hn
  · simp at hn
    subst hn
    rw [isNamed_iff]
    exact List.mem_append_left _ (List.mem_map.2 ⟨⟨s, m.fNext⟩, mem_withE.2 (.inl rfl), rfl⟩)

/-- What a crash leaves of a file. -/
def cutI (k : Int) (n : MInode) : MInode := { n with fData := n.fData.take (n.fSure + min k (n.fData.length - n.fSure)).toNat, fSure := n.fSure + min k (n.fData.length - n.fSure) }
def fallP (m : MDisk) (k : Int) : MDisk := if diskOk m = true ∧ 0 ≤ k then { m with fNames := m.fSafe, fInodes := (keepI { m with fNames := m.fSafe }).map (cutI k) } else m

theorem cutI_length {k : Int} {n : MInode} (h : 0 ≤ k) (h1 : 0 ≤ n.fSure) (h2 : n.fSure ≤ n.fData.length) : ((cutI k n).fData.length : Int) = (cutI k n).fSure := by
  unfold cutI
  simp only [List.length_take]
  omega

/-! What they weigh. -/
theorem wDisk_eq (m : MDisk) : wDisk m = (m.fInodes.length + sumW wInode m.fInodes) + (m.fNames.length + sumW wEntry m.fNames) + (m.fSafe.length + sumW wEntry m.fSafe) := rfl
theorem sumW_append {α : Type} {f : α → Nat} : ∀ {l k : List α}, sumW f (l ++ k) = sumW f l + sumW f k
  | [], k => by simp [sumW]
  | x :: r, k => by simp only [List.cons_append, sumW, sumW_append]; omega
theorem sumW_set {l : List MInode} {k : Nat} {n : MInode} (h : k < l.length) : sumW wInode (l.set k n) + wInode l[k] = sumW wInode l + wInode n := by
  induction l generalizing k with
  | nil => simp at h
  | cons x r ih =>
    cases k with
    | zero => simp [sumW]; omega
    | succ k => simp only [List.set_cons_succ, sumW, List.getElem_cons_succ]; have := ih (k := k) (by simpa using h); omega
theorem sumW_updI {l : List MInode} {k : Nat} {f : MInode → MInode} {c : Nat} (h : ∀ n, wInode (f n) ≤ wInode n + c) : sumW wInode (updI l k f) ≤ sumW wInode l + c := by
  by_cases hk : k < l.length
  · rw [updI_at hk]
    have := sumW_set (l := l) (n := f l[k]) hk
    have := h l[k]
    omega
  · unfold updI
    rw [List.getElem?_eq_none (by omega)]
    simp
theorem keepD_weight (m : MDisk) : wDisk (keepD m) ≤ wDisk m := by
  have hs : (keepI m).Sublist m.fInodes := List.filter_sublist
  have h1 := sumW_sublist (f := wInode) hs
  have h2 := hs.length_le
  rw [wDisk_eq, wDisk_eq]
  show (keepI m).length + sumW wInode (keepI m) + _ + _ ≤ _
  show (keepI m).length + sumW wInode (keepI m) + (m.fNames.length + sumW wEntry m.fNames) + (m.fSafe.length + sumW wEntry m.fSafe) ≤ _
  omega
theorem sumW_withE {l : List MEntry} {e : MEntry} : sumW wEntry (withE l e) ≤ sumW wEntry l + sumW wEntry l + wEntry e := by
  unfold withE
  rw [sumW_append]
  simp only [sumW]
  have h1 := sumW_sublist (f := wEntry) (List.filter_sublist (l := l) (p := fun x => strLt x.fName e.fName))
  have h2 := sumW_sublist (f := wEntry) (List.filter_sublist (l := l) (p := fun x => strLt e.fName x.fName))
  omega

theorem boundSync_0 (m : MDisk) (s : ByteArray) (hw : wDisk m ≤ 1048576) (hw1 : s.size ≤ 1048576) : wDisk (syncP m s) ≤ 1099511627776 := by
  unfold syncP
  split
  · rw [wDisk_eq] at hw ⊢
    have h1 := sumW_updI (l := m.fInodes) (k := fileAt m s) (f := sureI) (c := 0) (fun n => Nat.le_refl _)
    have h2 := updI_length (l := m.fInodes) (k := fileAt m s) (f := sureI)
    simp only [h2]
    omega
  · omega
theorem boundSyncDir_0 (m : MDisk) (hw : wDisk m ≤ 1048576) : wDisk (syncDirP m) ≤ 1099511627776 := by
  unfold syncDirP
  split
  · have h1 := keepD_weight { m with fSafe := m.fNames }
    rw [wDisk_eq { m with fSafe := m.fNames }] at h1
    rw [wDisk_eq] at hw
    simp only at h1
    omega
  · omega
theorem boundAppend_0 (m : MDisk) (s : ByteArray) (b : List Int) (hw : wDisk m ≤ 1048576) (hw1 : s.size ≤ 1048576) (hw2 : b.length ≤ 1048576) : wDisk (appendP m s b) ≤ 1099511627776 := by
  unfold appendP
  split
  · unfold appendD
    rw [wDisk_eq] at hw ⊢
    have h1 := sumW_updI (l := m.fInodes) (k := fileAt m s) (f := longI b) (c := b.length) (fun n => by unfold longI wInode; simp)
    have h2 := updI_length (l := m.fInodes) (k := fileAt m s) (f := longI b)
    simp only [h2]
    omega
  · omega
theorem boundRemove_0 (m : MDisk) (s : ByteArray) (hw : wDisk m ≤ 1048576) (hw1 : s.size ≤ 1048576) : wDisk (removeP m s) ≤ 1099511627776 := by
  unfold removeP
  split
  · have h1 := keepD_weight { m with fNames := without m.fNames s }
    rw [wDisk_eq { m with fNames := without m.fNames s }] at h1
    rw [wDisk_eq] at hw
    have hs : (without m.fNames s).Sublist m.fNames := List.filter_sublist
    have h2 := sumW_sublist (f := wEntry) hs
    have h3 := hs.length_le
    unfold removeD
    simp only at h1
    omega
  · omega
theorem boundRename_0 (m : MDisk) (s t : ByteArray) (hw : wDisk m ≤ 1048576) (hw1 : s.size ≤ 1048576) (hw2 : t.size ≤ 1048576) : wDisk (renameP m s t) ≤ 1099511627776 := by
  unfold renameP
  split
  · have h1 := keepD_weight { m with fNames := renameN m s t }
    rw [wDisk_eq { m with fNames := renameN m s t }] at h1
    rw [wDisk_eq] at hw
    have hs : (without m.fNames s).Sublist m.fNames := List.filter_sublist
    have h2 := sumW_sublist (f := wEntry) hs
    have h3 := hs.length_le
    have h4 := withE_length (l := without m.fNames s) (e := ⟨t, idOf m.fNames s⟩)
    have h5 := sumW_withE (l := without m.fNames s) (e := ⟨t, idOf m.fNames s⟩)
    have h6 : wEntry ⟨t, idOf m.fNames s⟩ = t.size := rfl
    have h7 : renameN m s t = withE (without m.fNames s) ⟨t, idOf m.fNames s⟩ := rfl
    rw [← h7] at h4 h5
    unfold renameD
    simp only at h1
    omega
  · omega
theorem boundCreate_0 (m : MDisk) (s : ByteArray) (hw : wDisk m ≤ 1048576) (hw1 : s.size ≤ 1048576) : wDisk (createP m s) ≤ 1099511627776 := by
  unfold createP
  split
  · unfold createD
    rw [wDisk_eq] at hw ⊢
    have h4 := withE_length (l := m.fNames) (e := ⟨s, m.fNext⟩)
    have h5 := sumW_withE (l := m.fNames) (e := ⟨s, m.fNext⟩)
    have h6 : wEntry ⟨s, m.fNext⟩ = s.size := rfl
    have h8 : wInode (newI m) = 0 := rfl
    simp only [sumW_append, List.length_append, List.length_cons, List.length_nil, sumW, h8]
    omega
  · omega
theorem sumW_map_le {f : MInode → MInode} (h : ∀ n, wInode (f n) ≤ wInode n) : ∀ l : List MInode, sumW wInode (l.map f) ≤ sumW wInode l
  | [] => Nat.le_refl _
  | x :: r => by simp only [List.map_cons, sumW]; have := h x; have := sumW_map_le h r; omega
theorem boundFall_0 (m : MDisk) (k : Int) (hw : wDisk m ≤ 1048576) : wDisk (fallP m k) ≤ 1099511627776 := by
  unfold fallP
  split
  · have h1 := keepD_weight { m with fNames := m.fSafe }
    rw [wDisk_eq { m with fNames := m.fSafe }] at h1
    unfold keepD at h1
    rw [wDisk_eq] at h1
    rw [wDisk_eq] at hw ⊢
    have h2 := sumW_map_le (f := cutI k) (fun n => by unfold cutI wInode; simp; omega) (keepI { m with fNames := m.fSafe })
    simp only [List.length_map] at h1 ⊢
    omega
  · omega

end Go.Proofs.YtcbhmbgmeodjdaaDoor
