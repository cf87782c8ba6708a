/-
  Part 2 of the texts that the proof leans on.
-/
import Derived.Test.YtmbobjhplkpfoaaFfl0
import Derived.Maps.OwnSet
import Derived.Maps.RangeWalk
import Derived.Sort.KeysCollected
import Derived.Test.YtmbobjhplkpfoaaRows
import Derived.Test.YtmbobjhplkpfoaaChecked
import Derived.Maps.AppendAt
set_option linter.unusedVariables false
set_option linter.unusedSimpArgs false
set_option maxRecDepth 10000

namespace Go.Proofs.Ytmbobjhplkpfoaa
open Go.RowKit

theorem okE_iff {ins : List MInode} : ∀ {l : List MEntry} {seen : List Int} {prev : ByteArray}, okE ins seen prev l = true ↔
    ((∀ e, e ∈ l → hasId ins e.fId = true ∧ nameOk e.fName = true ∧ e.fId ∉ seen ∧ strLt prev e.fName = true) ∧ l.Pairwise (fun x y => strLt x.fName y.fName = true ∧ x.fId ≠ y.fId))
  | [], seen, prev => by simp [okE]
  | x :: r, seen, prev => by
    rw [okE, Bool.and_eq_true, okE_iff (l := r), List.pairwise_cons]
    unfold stepE
    simp only [Bool.and_eq_true, Bool.not_eq_true', List.contains_eq_mem, decide_eq_false_iff_not, List.mem_append, List.mem_singleton, not_or]
    constructor
    · rintro ⟨⟨⟨⟨h1, h2⟩, h3⟩, h4⟩, h5, h6⟩
      refine ⟨?_, fun e he => ⟨(h5 e he).2.2.2, fun hh => (h5 e he).2.2.1.2 hh.symm⟩, h6⟩
      intro e he
      rcases List.mem_cons.1 he with rfl | he
      · exact ⟨h1, h4, h2, h3⟩
      · exact ⟨(h5 e he).1, (h5 e he).2.1, (h5 e he).2.2.1.1, strLt_trans h3 (h5 e he).2.2.2⟩
    · rintro ⟨h1, h2, h3⟩
      have hx := h1 x (by simp)
      refine ⟨⟨⟨⟨hx.1, hx.2.2.1⟩, hx.2.2.2⟩, hx.2.1⟩, fun e he => ?_, h3⟩
      have h4 := h1 e (by simp [he])
      exact ⟨h4.1, h4.2.1, ⟨h4.2.2.1, fun hh => (h2 e he).2 hh.symm⟩, (h2 e he).1⟩

/-- A list of entries that is right over these inodes. -/
def EntOk (ins : List MInode) (l : List MEntry) : Prop :=
  (∀ e, e ∈ l → hasId ins e.fId = true ∧ nameOk e.fName = true) ∧ l.Pairwise (fun x y => strLt x.fName y.fName = true ∧ x.fId ≠ y.fId)

theorem okE_start {ins : List MInode} {l : List MEntry} : okE ins [] ByteArray.empty l = true ↔ EntOk ins l := by
  rw [okE_iff]
  unfold EntOk
  constructor
  · rintro ⟨h1, h2⟩
    exact ⟨fun e he => ⟨(h1 e he).1, (h1 e he).2.1⟩, h2⟩
  · rintro ⟨h1, h2⟩
    exact ⟨fun e he => ⟨(h1 e he).1, (h1 e he).2, by simp, empty_lt (nameOk_pos (h1 e he).2)⟩, h2⟩

theorem okI_iff {next : Int} : ∀ {l : List MInode} {prev : Int}, okI next prev l = true ↔
    ((∀ n, n ∈ l → prev < n.fId ∧ n.fId < next ∧ 0 ≤ n.fSure ∧ n.fSure ≤ n.fData.length) ∧ l.Pairwise (fun x y => x.fId < y.fId))
  | [], prev => by simp [okI]
  | x :: r, prev => by
    rw [okI, Bool.and_eq_true, okI_iff (l := r), List.pairwise_cons]
    unfold stepI
    rw [decide_eq_true_iff]
    constructor
    · rintro ⟨h1, h2, h3⟩
      refine ⟨?_, fun n hn => (h2 n hn).1, h3⟩
      intro n hn
      rcases List.mem_cons.1 hn with rfl | hn
      · exact h1
      · have := h2 n hn; omega
    · rintro ⟨h1, h2, h3⟩
      refine ⟨h1 x (by simp), fun n hn => ?_, h3⟩
      have := h1 n (by simp [hn])
      have := h2 n hn
      omega

structure DiskR (m : MDisk) : Prop where
  next : 1 ≤ m.fNext ∧ m.fNext ≤ 1000000
  each : ∀ n, n ∈ m.fInodes → 0 < n.fId ∧ n.fId < m.fNext ∧ 0 ≤ n.fSure ∧ n.fSure ≤ n.fData.length
  rise : m.fInodes.Pairwise (fun x y => x.fId < y.fId)
  size : sumW wInode m.fInodes ≤ 60000
  few : m.fNames.length ≤ 30
  few' : m.fSafe.length ≤ 30
  names : EntOk m.fInodes m.fNames
  safe : EntOk m.fInodes m.fSafe
  all : ∀ n, n ∈ m.fInodes → isNamed m n = true

theorem diskOk_iff {m : MDisk} : diskOk m = true ↔ DiskR m := by
  unfold diskOk
  simp only [Bool.and_eq_true, decide_eq_true_iff, okE_start, okI_iff, List.all_eq_true]
  constructor
  · rintro ⟨⟨⟨⟨⟨⟨⟨h1, h2, h3⟩, h4⟩, h5⟩, h6⟩, h7⟩, h8⟩, h9⟩
    exact ⟨h1, h2, h3, h4, h5, h7, h6, h8, h9⟩
  · rintro ⟨h1, h2, h3, h4, h5, h7, h6, h8, h9⟩
    exact ⟨⟨⟨⟨⟨⟨⟨h1, h2, h3⟩, h4⟩, h5⟩, h6⟩, h7⟩, h8⟩, h9⟩

theorem sumW_sublist {α : Type} {f : α → Nat} {l k : List α} (h : l.Sublist k) : sumW f l ≤ sumW f k := by
  induction h with
  | slnil => exact Nat.le_refl _
  | cons a _ ih => simp only [sumW]; omega
  | cons_cons a _ ih => simp only [sumW]; omega

theorem hasId_iff {l : List MInode} {id : Int} : hasId l id = true ↔ ∃ n, n ∈ l ∧ n.fId = id := by
  unfold hasId
  rw [List.any_eq_true]
  simp

theorem named_iff {l : List MEntry} {id : Int} : named l id = true ↔ id ∈ l.map (·.fId) := by
  constructor
  · exact named_mem
  · intro h
    obtain ⟨e, he, rfl⟩ := List.mem_map.1 h
    obtain ⟨k, hk, rfl⟩ := List.mem_iff_getElem.1 he
    exact named_yes hk rfl

theorem isNamed_iff {d : MDisk} {n : MInode} : isNamed d n = true ↔ n.fId ∈ d.fNames.map (·.fId) ++ d.fSafe.map (·.fId) := by
  unfold isNamed
  rw [Bool.or_eq_true, named_iff, named_iff, List.mem_append]

/-- A disk without what no list names. -/
def keepD (m : MDisk) : MDisk := { m with fInodes := keepI m }

theorem keepI_all {m : MDisk} (h : ∀ n, n ∈ m.fInodes → isNamed m n = true) : keepI m = m.fInodes := by
  unfold keepI
  exact List.filter_eq_self.2 h

theorem EntOk.kept {m : MDisk} {l : List MEntry} (h : EntOk m.fInodes l) (hl : ∀ e, e ∈ l → e.fId ∈ m.fNames.map (·.fId) ++ m.fSafe.map (·.fId)) : EntOk (keepI m) l := by
  refine ⟨fun e he => ⟨?_, (h.1 e he).2⟩, h.2⟩
  obtain ⟨n, hn, hid⟩ := hasId_iff.1 (h.1 e he).1
  refine hasId_iff.2 ⟨n, ?_, hid⟩
  unfold keepI
  refine List.mem_filter.2 ⟨hn, isNamed_iff.2 ?_⟩
  rw [hid]
  exact hl e he

/-- Other lists of names over the same inodes: what they don't name goes. -/
theorem keep_ok {m : MDisk} (h : DiskR m) {N S : List MEntry} (hN : N.length ≤ 30) (hS : S.length ≤ 30) (oN : EntOk m.fInodes N) (oS : EntOk m.fInodes S) :
    DiskR (keepD { m with fNames := N, fSafe := S }) := by
  have hsub : (keepI { m with fNames := N, fSafe := S }).Sublist m.fInodes := List.filter_sublist
  refine ⟨h.next, fun n hn => h.each n (hsub.subset hn), h.rise.sublist hsub, Nat.le_trans (sumW_sublist hsub) h.size, hN, hS, ?_, ?_, ?_⟩
  · exact EntOk.kept (m := { m with fNames := N, fSafe := S }) oN (fun e he => List.mem_append_left _ (List.mem_map.2 ⟨e, he, rfl⟩))
  · exact EntOk.kept (m := { m with fNames := N, fSafe := S }) oS (fun e he => List.mem_append_right _ (List.mem_map.2 ⟨e, he, rfl⟩))
  · intro n hn
    exact (List.mem_filter.1 (show n ∈ List.filter (isNamed { m with fNames := N, fSafe := S }) m.fInodes from hn)).2

/-- A list without a name; with an entry, in its place. -/
def without (l : List MEntry) (s : ByteArray) : List MEntry := l.filter fun e => decide (e.fName ≠ s)
def withE (l : List MEntry) (e : MEntry) : List MEntry := l.filter (fun x => strLt x.fName e.fName) ++ e :: l.filter (fun x => strLt e.fName x.fName)

/-- The same as a walk along the list. -/
def withL (e : MEntry) : Bool → List MEntry → List MEntry
  | put, [] => if put then [] else [e]
  | put, x :: r => (if put = false ∧ strLt x.fName e.fName = false then [e] else []) ++ ((if x.fName = e.fName then [] else [x]) ++ withL e (put || !strLt x.fName e.fName) r)

theorem strLt_irrefl (s : ByteArray) : strLt s s = false := bl_irrefl _
theorem strLt_asymm {a b : ByteArray} (h : strLt a b = true) : strLt b a = false := bl_asymm h
theorem strLt_tri {a b : ByteArray} (h1 : strLt a b = false) (h2 : a ≠ b) : strLt b a = true := bl_total h1 (fun e => h2 (str_eq.1 (by rw [e]; simp)))

def Rise (l : List MEntry) : Prop := l.Pairwise (fun x y => strLt x.fName y.fName = true)

theorem withL_true {e : MEntry} : ∀ {l : List MEntry}, (∀ x, x ∈ l → strLt e.fName x.fName = true) → withL e true l = l
  | [], _ => rfl
  | x :: r, h => by
    have hx := h x (by simp)
    have hne : x.fName ≠ e.fName := fun hh => by rw [hh, strLt_irrefl] at hx; cases hx
    simp only [withL, if_neg hne, Bool.true_or]
    rw [withL_true (fun y hy => h y (by simp [hy]))]
    simp

theorem withL_false {e : MEntry} : ∀ {l : List MEntry}, Rise l → withL e false l = withE l e
  | [], _ => rfl
  | x :: r, h => by
    unfold Rise at h
    rw [List.pairwise_cons] at h
    unfold withE
    by_cases hlt : strLt x.fName e.fName = true
    · have hne : x.fName ≠ e.fName := fun hh => by rw [hh, strLt_irrefl] at hlt; cases hlt
      have ih := withL_false (e := e) h.2
      unfold withE at ih
      simp only [withL, hlt, if_neg hne, Bool.not_true, Bool.or_self, ih, List.filter_cons, strLt_asymm hlt]
      simp
    · have hlt2 : strLt x.fName e.fName = false := Bool.eq_false_iff.2 hlt
      have hnil : List.filter (fun x => strLt x.fName e.fName) r = [] := by
        rw [List.filter_eq_nil_iff]
        intro y hy hye
        exact hlt (strLt_trans (h.1 y hy) hye)
      by_cases heq : x.fName = e.fName
      · have hr : ∀ y, y ∈ r → strLt e.fName y.fName = true := fun y hy => by rw [← heq]; exact h.1 y hy
        simp only [withL, hlt2, heq, strLt_irrefl, Bool.not_false, Bool.or_true, List.filter_cons, hnil, withL_true hr]
        simp [List.filter_eq_self.2 hr]
      · have hxe := strLt_tri hlt2 heq
        have hr : ∀ y, y ∈ r → strLt e.fName y.fName = true := fun y hy => strLt_trans hxe (h.1 y hy)
        simp only [withL, hlt2, if_neg heq, Bool.not_false, Bool.or_true, List.filter_cons, hnil, withL_true hr, hxe]
        simp [List.filter_eq_self.2 hr]

theorem EntOk.rise {ins : List MInode} {l : List MEntry} (h : EntOk ins l) : Rise l := h.2.imp (fun h => h.1)

theorem EntOk.sub {ins : List MInode} {l k : List MEntry} (h : EntOk ins l) (hs : k.Sublist l) : EntOk ins k := ⟨fun e he => h.1 e (hs.subset he), h.2.sublist hs⟩

theorem EntOk.withE {ins : List MInode} {l : List MEntry} {e : MEntry} (h : EntOk ins l) (he : hasId ins e.fId = true) (hn : nameOk e.fName = true) (hfresh : ∀ x, x ∈ l → x.fId = e.fId → x.fName = e.fName) : EntOk ins (withE l e) := by
  unfold Go.Proofs.Ytmbobjhplkpfoaa.withE
  constructor
  · intro x hx
    rcases List.mem_append.1 hx with hx | hx
    · exact h.1 x (List.mem_filter.1 hx).1
    · rcases List.mem_cons.1 hx with rfl | hx
      · exact ⟨he, hn⟩
      · exact h.1 x (List.mem_filter.1 hx).1
  · rw [List.pairwise_append, List.pairwise_cons]
    refine ⟨h.2.sublist List.filter_sublist, ⟨?_, h.2.sublist List.filter_sublist⟩, ?_⟩
    · intro y hy
      have hy' := List.mem_filter.1 hy
      refine ⟨hy'.2, fun hid => ?_⟩
      have := hfresh y hy'.1 hid.symm
      rw [this, strLt_irrefl] at hy'
      cases hy'.2
    · intro x hx y hy
      have hx' := List.mem_filter.1 hx
      rcases List.mem_cons.1 hy with rfl | hy
      · refine ⟨hx'.2, fun hid => ?_⟩
        have := hfresh x hx'.1 hid
        rw [this, strLt_irrefl] at hx'
        cases hx'.2
      · have hy' := List.mem_filter.1 hy
        obtain ⟨i, hi, rfl⟩ := List.mem_iff_getElem.1 hx'.1
        obtain ⟨j, hj, rfl⟩ := List.mem_iff_getElem.1 hy'.1
        have hlt : strLt l[i].fName l[j].fName = true := strLt_trans hx'.2 hy'.2
        have hij : i < j := by
          rcases Nat.lt_trichotomy i j with h1 | h1 | h1
          · exact h1
          · subst h1; rw [strLt_irrefl] at hlt; cases hlt
          · have h2 := (List.pairwise_iff_getElem.1 h.2 j i hj hi h1).1
            rw [strLt_asymm h2] at hlt; cases hlt
        exact List.pairwise_iff_getElem.1 h.2 i j hi hj hij

theorem withE_length {l : List MEntry} {e : MEntry} : (withE l e).length ≤ l.length + 1 := by
  unfold withE
  rw [List.length_append, List.length_cons]
  have h1 : ∀ l : List MEntry, (l.filter (fun x => strLt x.fName e.fName)).length + (l.filter (fun x => strLt e.fName x.fName)).length ≤ l.length := by
    intro l
    induction l with
    | nil => simp
    | cons x r ih =>
      by_cases h1 : strLt x.fName e.fName = true
      · have h2 := strLt_asymm h1
        simp only [List.filter_cons, h1, h2, if_true, List.length_cons]
        simp
        omega
      · simp only [List.filter_cons, h1]
        by_cases h2 : strLt e.fName x.fName = true
        · simp [h2]; omega
        · simp [h2]; omega
  have := h1 l
  omega

end Go.Proofs.Ytmbobjhplkpfoaa

namespace Go.Proofs.Ytmbobjhplkpfoaa
open Go.RowKit Go.Maps

def kS (s : ByteArray) : Lit := .string s.data.toList
theorem kS_ne {s t : ByteArray} (h : s ≠ t) : kS s ≠ kS t := by
  intro e
  simp only [kS, Lit.string.injEq] at e
  apply h
  cases s; cases t
  simpa using Array.toList_inj.1 e

/-- The map has the first k names, each at an id that a list's entry of that name has. -/
def NMap (D : DataW Unit) (l : List MEntry) (k : Nat) : Prop :=
  IsMap D ∧ ∀ s : ByteArray, (Maps.has D (kS s) = true ↔ ∃ j, ∃ h : j < l.length, j < k ∧ l[j].fName = s) ∧ (Maps.has D (kS s) = true → ∃ j, ∃ h : j < l.length, j < k ∧ l[j].fName = s ∧ D.atKey (kS s) (.lit (.int .i64 0)) = .lit (.int .i64 l[j].fId))

theorem NMap.start (l : List MEntry) : NMap (.map []) l 0 :=
  ⟨isMap_empty, fun s => ⟨⟨fun h => by simp [Maps.has] at h, fun ⟨j, _, h, _⟩ => by omega⟩, fun h => by simp [Maps.has] at h⟩⟩

theorem NMap.put {D : DataW Unit} {l : List MEntry} {k : Nat} (h : NMap D l k) (hk : k < l.length) : NMap (D.put (kS l[k].fName) (.lit (.int .i64 l[k].fId))) l (k + 1) := by
  refine ⟨h.1.put _ _, fun s => ?_⟩
  by_cases hs : s = l[k].fName
  · subst hs
    have h1 := has_put_same h.1 (k := kS l[k].fName) (by trivial) (.lit (.int .i64 l[k].fId))
    exact ⟨⟨fun _ => ⟨k, hk, by omega, rfl⟩, fun _ => h1⟩, fun _ => ⟨k, hk, by omega, rfl, atKey_put_same h.1 (by trivial) _ _⟩⟩
  · have hne := kS_ne hs
    rw [has_put_other hne, atKey_put_other hne]
    obtain ⟨h2, h3⟩ := h.2 s
    refine ⟨h2.trans ⟨fun ⟨j, hj, hjk, e⟩ => ⟨j, hj, by omega, e⟩, fun ⟨j, hj, hjk, e⟩ => ⟨j, hj, ?_, e⟩⟩, fun hh => ?_⟩
    · by_cases hjk' : j = k
      · subst hjk'; exact absurd e.symm hs
      · omega
    · obtain ⟨j, hj, hjk, e, ha⟩ := h3 hh
      exact ⟨j, hj, by omega, e, ha⟩

/-- No name twice. -/
theorem okE_names {ins : List MInode} : ∀ {l : List MEntry} {seen : List Int} {prev : ByteArray}, okE ins seen prev l = true → (∀ e, e ∈ l → strLt prev e.fName = true) ∧ l.Pairwise fun x y => strLt x.fName y.fName = true
  | [], _, _, _ => ⟨(fun e he => by cases he), List.Pairwise.nil⟩
  | x :: r, seen, prev, h => by
    rw [okE, Bool.and_eq_true] at h
    have h1 := h.1
    unfold stepE at h1
    simp only [Bool.and_eq_true] at h1
    obtain ⟨h2, h3⟩ := okE_names h.2
    refine ⟨fun e he => ?_, List.Pairwise.cons h2 h3⟩
    rcases List.mem_cons.1 he with rfl | he
    · exact h1.1.2
    · exact strLt_trans h1.1.2 (h2 e he)

theorem names_once {l : List MEntry} (h : l.Pairwise fun x y => strLt x.fName y.fName = true) {i j : Nat} (hi : i < l.length) (hj : j < l.length) (he : l[i].fName = l[j].fName) : i = j := by
  rcases Nat.lt_trichotomy i j with hlt | rfl | hlt
  · have := List.pairwise_iff_getElem.1 h i j hi hj hlt
    rw [he] at this
    unfold strLt at this
    rw [bl_irrefl] at this
    cases this
  · rfl
  · have := List.pairwise_iff_getElem.1 h j i hj hi hlt
    rw [he] at this
    unfold strLt at this
    rw [bl_irrefl] at this
    cases this

/-- The map has just the names of a list, each at its entry's id. -/
def MapIs (D : DataW Unit) (l : List MEntry) : Prop :=
  IsMap D ∧ (∀ s, Maps.has D (kS s) = true ↔ hasName l s = true) ∧ ∀ e, e ∈ l → D.atKey (kS e.fName) (.lit (.int .i64 0)) = .lit (.int .i64 e.fId)

theorem hasName_iff {l : List MEntry} {s : ByteArray} : hasName l s = true ↔ ∃ e, e ∈ l ∧ e.fName = s := by
  unfold hasName
  rw [List.any_eq_true]
  simp

theorem MapIs.ofN {D : DataW Unit} {l : List MEntry} {n : Nat} (hn : l.length = n) (h : NMap D l n) (hr : Rise l) : MapIs D l := by
  refine ⟨h.1, fun s => ?_, fun e he => ?_⟩
  · rw [(h.2 s).1, hasName_iff]
    constructor
    · rintro ⟨j, hj, _, e⟩
      exact ⟨l[j], List.getElem_mem hj, e⟩
    · rintro ⟨e, he, hs⟩
      obtain ⟨j, hj, rfl⟩ := List.mem_iff_getElem.1 he
      exact ⟨j, hj, by omega, hs⟩
  · obtain ⟨i, hi, rfl⟩ := List.mem_iff_getElem.1 he
    obtain ⟨j, hj, _, e1, e2⟩ := (h.2 l[i].fName).2 ((h.2 _).1.2 ⟨i, hi, by omega, rfl⟩)
    have := names_once hr hj hi e1
    subst this
    exact e2

theorem mem_withE {l : List MEntry} {e x : MEntry} : x ∈ withE l e ↔ x = e ∨ (x ∈ l ∧ x.fName ≠ e.fName) := by
  unfold withE
  rw [List.mem_append, List.mem_cons, List.mem_filter, List.mem_filter]
  constructor
  · rintro (⟨h1, h2⟩ | rfl | ⟨h1, h2⟩)
    · exact .inr ⟨h1, fun hh => by rw [hh, strLt_irrefl] at h2; cases h2⟩
    · exact .inl rfl
    · exact .inr ⟨h1, fun hh => by rw [hh, strLt_irrefl] at h2; cases h2⟩
  · rintro (rfl | ⟨h1, h2⟩)
    · exact .inr (.inl rfl)
    · by_cases h3 : strLt x.fName e.fName = true
      · exact .inl ⟨h1, h3⟩
      · exact .inr (.inr ⟨h1, strLt_tri (Bool.eq_false_iff.2 h3) h2⟩)

theorem MapIs.put {D : DataW Unit} {l : List MEntry} (h : MapIs D l) (e : MEntry) : MapIs (D.put (kS e.fName) (.lit (.int .i64 e.fId))) (withE l e) := by
  refine ⟨h.1.put _ _, fun t => ?_, fun x hx => ?_⟩
  · rw [hasName_iff]
    by_cases ht : t = e.fName
    · subst ht
      rw [has_put_same h.1 (by trivial)]
      exact ⟨fun _ => ⟨e, mem_withE.2 (.inl rfl), rfl⟩, fun _ => rfl⟩
    · rw [has_put_other (kS_ne ht), h.2.1 t, hasName_iff]
      constructor
      · rintro ⟨x, hx, rfl⟩
        exact ⟨x, mem_withE.2 (.inr ⟨hx, ht⟩), rfl⟩
      · rintro ⟨x, hx, rfl⟩
        rcases mem_withE.1 hx with rfl | ⟨h1, _⟩
        · exact absurd rfl ht
        · exact ⟨x, h1, rfl⟩
  · rcases mem_withE.1 hx with rfl | ⟨h1, h2⟩
    · exact atKey_put_same h.1 (by trivial) _ _
    · rw [atKey_put_other (kS_ne h2)]
      exact h.2.2 x h1

theorem kS_same {s t : ByteArray} : (kS s).sameKey (kS t) = decide (s = t) := by
  by_cases h : s = t
  · subst h
    simp [kS, Lit.sameKey]
  · have := kS_ne h
    simp only [kS, ne_eq, Lit.string.injEq] at this
    simp only [kS, Lit.sameKey]
    rw [decide_eq_false h]
    simpa using this

/-- What a walk over the map has met, and what is still to come. -/
structure Met (l : List MEntry) (left : Lit → Bool) (o : List MEntry) : Prop where
  sub : ∀ e, e ∈ o → e ∈ l
  once : o.Pairwise (fun x y => x.fName ≠ y.fName)
  rest : ∀ e, e ∈ l → (left (kS e.fName) = true ↔ ∀ x, x ∈ o → x.fName ≠ e.fName)

theorem Met.start {D : DataW Unit} {l : List MEntry} (h : MapIs D l) : Met l (Maps.has D) [] :=
  ⟨(fun e he => by cases he), List.Pairwise.nil, fun e he => ⟨(fun _ x hx => by cases hx), fun _ => (h.2.1 _).2 (hasName_iff.2 ⟨e, he, rfl⟩)⟩⟩

theorem Met.step {l o : List MEntry} {left : Lit → Bool} (h : Met l left o) (hr : Rise l) {e : MEntry} (he : e ∈ l) (hl : left (kS e.fName) = true) : Met l (fun z => left z && !z.sameKey (kS e.fName)) (o ++ [e]) := by
  refine ⟨fun x hx => ?_, ?_, fun x hx => ?_⟩
  · rcases List.mem_append.1 hx with hx | hx
    · exact h.sub x hx
    · simp at hx; subst hx; exact he
  · rw [List.pairwise_append]
    refine ⟨h.once, by simp, fun x hx y hy => ?_⟩
    simp at hy
    subst hy
    exact (h.rest y he).1 hl x hx
  · rw [kS_same, Bool.and_eq_true, h.rest x hx]
    constructor
    · rintro ⟨h1, h2⟩ y hy
      rcases List.mem_append.1 hy with hy | hy
      · exact h1 y hy
      · simp at hy; subst hy
        intro hh
        simp [hh] at h2
    · intro h1
      refine ⟨fun y hy => h1 y (by simp [hy]), ?_⟩
      have := h1 e (by simp)
      simp [Ne.symm this]

/-- All has come: a permutation. -/
theorem Met.perm {l o : List MEntry} {left : Lit → Bool} (h : Met l left o) (hr : Rise l) (hl : ∀ k, left k = false) : o.Perm l := by
  have hall : ∀ e, e ∈ l → e ∈ o := by
    intro e he
    have h1 := h.rest e he
    rw [hl] at h1
    by_cases hx : ∃ x, x ∈ o ∧ x.fName = e.fName
    · obtain ⟨x, hx, hn⟩ := hx
      have hxl := h.sub x hx
      obtain ⟨i, hi, rfl⟩ := List.mem_iff_getElem.1 hxl
      obtain ⟨j, hj, rfl⟩ := List.mem_iff_getElem.1 he
      have := names_once hr hi hj hn
      subst this
      exact hx
    · exfalso
      have := h1.2 (fun x hx2 hn => hx ⟨x, hx2, hn⟩)
      cases this
  have n1 : o.Nodup := h.once.imp (fun hne he => hne (by rw [he]))
  have n2 : l.Nodup := hr.imp (fun hlt he => by rw [he, strLt_irrefl] at hlt; cases hlt)
  exact (List.perm_ext_iff_of_nodup n1 n2).2 (fun e => ⟨h.sub e, hall e⟩)

theorem rise_unique : ∀ {l k : List MEntry}, l.Perm k → Rise l → Rise k → l = k := by
  intro l k hp h1 h2
  refine List.Perm.eq_of_pairwise (le := fun (x y : MEntry) => strLt x.fName y.fName = true) ?_ h1 h2 hp
  intro a b _ _ hab hba
  have hab : strLt a.fName b.fName = true := hab
  have hba : strLt b.fName a.fName = true := hba
  rw [strLt_asymm hab] at hba
  cases hba

end Go.Proofs.Ytmbobjhplkpfoaa

namespace Go.Proofs.Ytmbobjhplkpfoaa
open Go.RowKit

/-- An inode changed in its place. -/
def updI (l : List MInode) (k : Nat) (f : MInode → MInode) : List MInode := match l[k]? with | some n => l.set k (f n) | none => l
theorem updI_at {l : List MInode} {k : Nat} {f : MInode → MInode} (h : k < l.length) : updI l k f = l.set k (f l[k]) := by unfold updI; rw [List.getElem?_eq_getElem h]
theorem updI_length {l : List MInode} {k : Nat} {f : MInode → MInode} : (updI l k f).length = l.length := by unfold updI; split <;> simp
theorem updI_mem {l : List MInode} {k : Nat} {f : MInode → MInode} {n : MInode} (h : n ∈ updI l k f) : n ∈ l ∨ ∃ x, x ∈ l ∧ n = f x := by
  unfold updI at h
  split at h
  · next x hx =>
    rcases List.mem_or_eq_of_mem_set h with h | h
    · exact .inl h
    · exact .inr ⟨x, List.mem_of_getElem? hx, h⟩
  · exact .inl h

def fileAt (m : MDisk) (s : ByteArray) : Nat := placeOf m.fInodes (idOf m.fNames s)

theorem call_good {m : MDisk} {s : ByteArray} (h : callP m s = 0) : diskOk m = true ∧ nameOk s = true ∧ hasName m.fNames s = true := by
  unfold callP at h
  by_cases h1 : (diskOk m && nameOk s) = true
  · rw [if_pos h1] at h
    rw [Bool.and_eq_true] at h1
    by_cases h2 : hasName m.fNames s = true
    · exact ⟨h1.1, h1.2, h2⟩
    · rw [if_neg h2] at h; cases h
  · rw [if_neg h1] at h; cases h
theorem call_none {m : MDisk} {s : ByteArray} (h : callP m s = 2) : diskOk m = true ∧ nameOk s = true ∧ hasName m.fNames s = false := by
  unfold callP at h
  by_cases h1 : (diskOk m && nameOk s) = true
  · rw [if_pos h1] at h
    rw [Bool.and_eq_true] at h1
    by_cases h2 : hasName m.fNames s = true
    · rw [if_pos h2] at h; cases h
    · exact ⟨h1.1, h1.2, Bool.eq_false_iff.2 h2⟩
  · rw [if_neg h1] at h; cases h
/-- Where the file that a call names stands. -/
theorem file_at {m : MDisk} {s : ByteArray} (h : callP m s = 0) : ∃ hk : fileAt m s < m.fInodes.length, m.fInodes[fileAt m s].fId = idOf m.fNames s := by
  obtain ⟨h1, _, h2⟩ := call_good h
  obtain ⟨_, _, h3⟩ := file_there h1 h2
  exact hasId_at h3

theorem ids_once {l : List MInode} (h : l.Pairwise fun x y => x.fId < y.fId) {i j : Nat} (hi : i < l.length) (hj : j < l.length) (he : l[i].fId = l[j].fId) : i = j := by
  rcases Nat.lt_trichotomy i j with hlt | rfl | hlt
  · have := List.pairwise_iff_getElem.1 h i j hi hj hlt; omega
  · rfl
  · have := List.pairwise_iff_getElem.1 h j i hj hi hlt; omega

/-- The place that holds the file's id is its place. -/
theorem file_only {m : MDisk} {s : ByteArray} (h : callP m s = 0) {p : Nat} (hp : p < m.fInodes.length) (he : m.fInodes[p].fId = idOf m.fNames s) : p = fileAt m s := by
  obtain ⟨hk, hid⟩ := file_at h
  exact ids_once (diskOk_iff.1 (call_good h).1).rise hp hk (he.trans hid.symm)

def sureI (n : MInode) : MInode := { n with fSure := n.fData.length }
def syncP (m : MDisk) (s : ByteArray) : MDisk := if callP m s = 0 then { m with fInodes := updI m.fInodes (fileAt m s) sureI } else m

def syncDirP (m : MDisk) : MDisk := if diskOk m then keepD { m with fSafe := m.fNames } else m
def syncDirC (m : MDisk) : Int := if diskOk m then 0 else 1
theorem syncDir_ok {m : MDisk} (h : diskOk m = true) : diskOk (keepD { m with fSafe := m.fNames }) = true := by
  have hr := diskOk_iff.1 h
  exact diskOk_iff.2 (keep_ok (N := m.fNames) (S := m.fNames) hr hr.few hr.few hr.names hr.names)

def longI (b : List Int) (n : MInode) : MInode := { n with fData := n.fData ++ b }
def appendD (m : MDisk) (s : ByteArray) (b : List Int) : MDisk := { m with fInodes := updI m.fInodes (fileAt m s) (longI b) }
def appendP (m : MDisk) (s : ByteArray) (b : List Int) : MDisk := if callP m s = 0 ∧ diskOk (appendD m s b) = true then appendD m s b else m
def appendC (m : MDisk) (s : ByteArray) (b : List Int) : Int := if callP m s = 0 then (if diskOk (appendD m s b) then 0 else 4) else callP m s
theorem append_keep {m : MDisk} {s : ByteArray} {b : List Int} (h : callP m s = 0) : keepD (appendD m s b) = appendD m s b := by
  have hr := diskOk_iff.1 (call_good h).1
  unfold keepD
  rw [keepI_all]
  intro n hn
  rcases updI_mem (show n ∈ updI m.fInodes (fileAt m s) (longI b) from hn) with hn | ⟨x, hx, rfl⟩
  · exact hr.all n hn
  · exact hr.all x hx

def removeD (m : MDisk) (s : ByteArray) : MDisk := keepD { m with fNames := without m.fNames s }
def removeP (m : MDisk) (s : ByteArray) : MDisk := if callP m s = 0 then removeD m s else m
theorem remove_ok {m : MDisk} {s : ByteArray} (h : diskOk m = true) : diskOk (removeD m s) = true := by
  have hr := diskOk_iff.1 h
  exact diskOk_iff.2 (keep_ok (N := without m.fNames s) (S := m.fSafe) hr (Nat.le_trans (List.length_filter_le _ _) hr.few) hr.few' (hr.names.sub List.filter_sublist) hr.safe)

def renameN (m : MDisk) (s t : ByteArray) : List MEntry := withE (without m.fNames s) ⟨t, idOf m.fNames s⟩
def renameD (m : MDisk) (s t : ByteArray) : MDisk := keepD { m with fNames := renameN m s t }
def renameC (m : MDisk) (s t : ByteArray) : Int := if nameOk t then callP m s else 1
def renameP (m : MDisk) (s t : ByteArray) : MDisk := if renameC m s t = 0 then renameD m s t else m

theorem entry_of {m : MDisk} {s : ByteArray} (h : hasName m.fNames s = true) : ⟨s, idOf m.fNames s⟩ ∈ m.fNames := by
  obtain ⟨hk, hn⟩ := hasName_at h
  have : idOf m.fNames s = m.fNames[nameAt m.fNames s].fId := by unfold idOf; rw [List.getElem?_eq_getElem hk]; rfl
  rw [this]
  have e : (⟨s, m.fNames[nameAt m.fNames s].fId⟩ : MEntry) = m.fNames[nameAt m.fNames s] := by
    cases hx : m.fNames[nameAt m.fNames s] with
    | mk a b => rw [hx] at hn; simp at hn; subst hn; rfl
  rw [e]
  exact List.getElem_mem hk

theorem ids_once' {ins : List MInode} {l : List MEntry} (h : EntOk ins l) {x y : MEntry} (hx : x ∈ l) (hy : y ∈ l) (he : x.fId = y.fId) : x = y := by
  obtain ⟨i, hi, rfl⟩ := List.mem_iff_getElem.1 hx
  obtain ⟨j, hj, rfl⟩ := List.mem_iff_getElem.1 hy
  rcases Nat.lt_trichotomy i j with hlt | rfl | hlt
  · exact absurd he (List.pairwise_iff_getElem.1 h.2 i j hi hj hlt).2
  · rfl
  · exact absurd he.symm (List.pairwise_iff_getElem.1 h.2 j i hj hi hlt).2
theorem names_once' {l : List MEntry} (h : Rise l) {x y : MEntry} (hx : x ∈ l) (hy : y ∈ l) (he : x.fName = y.fName) : x = y := by
  obtain ⟨i, hi, rfl⟩ := List.mem_iff_getElem.1 hx
  obtain ⟨j, hj, rfl⟩ := List.mem_iff_getElem.1 hy
  have := names_once h hi hj he
  subst this
  rfl

theorem without_length {l : List MEntry} {s : ByteArray} (h : hasName l s = true) : (without l s).length < l.length := by
  obtain ⟨e, he, hs⟩ := hasName_iff.1 h
  unfold without
  rcases Nat.lt_or_ge (l.filter fun e => decide (e.fName ≠ s)).length l.length with h1 | h1
  · exact h1
  · have h2 := List.length_filter_eq_length_iff.1 (Nat.le_antisymm (List.length_filter_le _ _) h1) e he
    simp [hs] at h2

theorem renameN_ok {m : MDisk} {s t : ByteArray} (hr : DiskR m) (hn : hasName m.fNames s = true) (ht : nameOk t = true) : EntOk m.fInodes (renameN m s t) ∧ (renameN m s t).length ≤ 30 := by
  have hmem := entry_of hn
  have hw : EntOk m.fInodes (without m.fNames s) := hr.names.sub List.filter_sublist
  refine ⟨EntOk.withE hw (hr.names.1 _ hmem).1 ht ?_, ?_⟩
  · intro x hx hid
    have hx' := List.mem_filter.1 (show x ∈ m.fNames.filter _ from hx)
    have := ids_once' hr.names hx'.1 hmem hid
    rw [this] at hx'
    simp at hx'
  · have h1 := withE_length (l := without m.fNames s) (e := ⟨t, idOf m.fNames s⟩)
    have h2 := without_length hn
    have h3 := hr.few
    unfold renameN
    omega

theorem rename_ok {m : MDisk} {s t : ByteArray} (h : callP m s = 0) (ht : nameOk t = true) : diskOk (renameD m s t) = true := by
  obtain ⟨h1, _, h2⟩ := call_good h
  have hr := diskOk_iff.1 h1
  have h3 := renameN_ok hr h2 ht
  exact diskOk_iff.2 (keep_ok (N := renameN m s t) (S := m.fSafe) hr h3.2 hr.few' h3.1 hr.safe)

theorem keepD_self {m : MDisk} (h : diskOk m = true) : keepD m = m := by
  unfold keepD
  rw [keepI_all (diskOk_iff.1 h).all]

/-- A file that is renamed to its own name. -/
theorem rename_self {m : MDisk} {s : ByteArray} (h : callP m s = 0) : renameD m s s = m := by
  obtain ⟨h1, hs, h2⟩ := call_good h
  have hr := diskOk_iff.1 h1
  have h3 := renameN_ok hr h2 hs
  have hmem := entry_of h2
  have : renameN m s s = m.fNames := by
    have n1 : (renameN m s s).Nodup := h3.1.rise.imp (fun hlt he => by rw [he, strLt_irrefl] at hlt; cases hlt)
    have n2 : m.fNames.Nodup := hr.names.rise.imp (fun hlt he => by rw [he, strLt_irrefl] at hlt; cases hlt)
    refine rise_unique ((List.perm_ext_iff_of_nodup n1 n2).2 fun e => ?_) h3.1.rise hr.names.rise
    unfold renameN
    rw [mem_withE]
    unfold without
    rw [List.mem_filter]
    constructor
    · rintro (rfl | ⟨⟨h4, _⟩, _⟩)
      · exact hmem
      · exact h4
    · intro he
      by_cases hes : e.fName = s
      · left
        exact names_once' hr.names.rise he hmem hes
      · right
        exact ⟨⟨he, by simpa using hes⟩, hes⟩
  unfold renameD
  rw [this]
  exact keepD_self h1

def newI (m : MDisk) : MInode := ⟨m.fNext, [], 0⟩
def createD (m : MDisk) (s : ByteArray) : MDisk := { m with fInodes := m.fInodes ++ [newI m], fNames := withE m.fNames ⟨s, m.fNext⟩, fNext := m.fNext + 1 }
def createC (m : MDisk) (s : ByteArray) : Int := if callP m s = 2 then (if diskOk (createD m s) then 0 else 4) else if callP m s = 0 then 3 else 1
def createP (m : MDisk) (s : ByteArray) : MDisk := if callP m s = 2 ∧ diskOk (createD m s) = true then createD m s else m

theorem create_named {m : MDisk} {s : ByteArray} (h : callP m s = 2) : ∀ n, n ∈ m.fInodes → isNamed { m with fNames := withE m.fNames ⟨s, m.fNext⟩ } n = true := by
  obtain ⟨h1, _, h2⟩ := call_none h
  have hr := diskOk_iff.1 h1
  intro n hn
  have h3 := isNamed_iff.1 (hr.all n hn)
  rw [isNamed_iff]
  rw [List.mem_append] at h3 ⊢
  rcases h3 with h3 | h3
  · left
    obtain ⟨e, he, hid⟩ := List.mem_map.1 h3
    refine List.mem_map.2 ⟨e, mem_withE.2 (.inr ⟨he, fun hh => ?_⟩), hid⟩
    have : hasName m.fNames s = true := hasName_iff.2 ⟨e, he, hh⟩
    rw [h2] at this
    cases this
  · exact .inr h3

/-- The program's way: the names first, what they don't name gone, then the inode. -/
theorem create_way {m : MDisk} {s : ByteArray} (h : callP m s = 2) : keepD { m with fNames := withE m.fNames ⟨s, m.fNext⟩ } = { m with fNames := withE m.fNames ⟨s, m.fNext⟩ } := by
  unfold keepD
  rw [keepI_all (create_named h)]
theorem create_keep {m : MDisk} {s : ByteArray} (h : callP m s = 2) : keepD (createD m s) = createD m s := by
  unfold keepD
  rw [keepI_all]
  intro n hn
  rcases List.mem_append.1 (show n ∈ m.fInodes ++ [newI m] from hn) with hn | hn
  · exact create_named h n hn
  · simp at hn
    subst hn
    rw [isNamed_iff]
    exact List.mem_append_left _ (List.mem_map.2 ⟨⟨s, m.fNext⟩, mem_withE.2 (.inl rfl), rfl⟩)

/-- What a crash leaves of a file. -/
def cutI (k : Int) (n : MInode) : MInode := { n with fData := n.fData.take (n.fSure + min k (n.fData.length - n.fSure)).toNat, fSure := n.fSure + min k (n.fData.length - n.fSure) }
def fallP (m : MDisk) (k : Int) : MDisk := if diskOk m = true ∧ 0 ≤ k then { m with fNames := m.fSafe, fInodes := (keepI { m with fNames := m.fSafe }).map (cutI k) } else m

theorem cutI_length {k : Int} {n : MInode} (h : 0 ≤ k) (h1 : 0 ≤ n.fSure) (h2 : n.fSure ≤ n.fData.length) : ((cutI k n).fData.length : Int) = (cutI k n).fSure := by
  unfold cutI
  simp only [List.length_take]
  omega

/-! What they weigh. -/
theorem wDisk_eq (m : MDisk) : wDisk m = (m.fInodes.length + sumW wInode m.fInodes) + (m.fNames.length + sumW wEntry m.fNames) + (m.fSafe.length + sumW wEntry m.fSafe) := rfl
theorem sumW_append {α : Type} {f : α → Nat} : ∀ {l k : List α}, sumW f (l ++ k) = sumW f l + sumW f k
  | [], k => by simp [sumW]
  | x :: r, k => by simp only [List.cons_append, sumW, sumW_append]; omega
theorem sumW_set {l : List MInode} {k : Nat} {n : MInode} (h : k < l.length) : sumW wInode (l.set k n) + wInode l[k] = sumW wInode l + wInode n := by
  induction l generalizing k with
  | nil => simp at h
  | cons x r ih =>
    cases k with
    | zero => simp [sumW]; omega
    | succ k => simp only [List.set_cons_succ, sumW, List.getElem_cons_succ]; have := ih (k := k) (by simpa using h); omega
theorem sumW_updI {l : List MInode} {k : Nat} {f : MInode → MInode} {c : Nat} (h : ∀ n, wInode (f n) ≤ wInode n + c) : sumW wInode (updI l k f) ≤ sumW wInode l + c := by
  by_cases hk : k < l.length
  · rw [updI_at hk]
    have := sumW_set (l := l) (n := f l[k]) hk
    have := h l[k]
    omega
  · unfold updI
    rw [List.getElem?_eq_none (by omega)]
    simp
theorem keepD_weight (m : MDisk) : wDisk (keepD m) ≤ wDisk m := by
  have hs : (keepI m).Sublist m.fInodes := List.filter_sublist
  have h1 := sumW_sublist (f := wInode) hs
  have h2 := hs.length_le
  rw [wDisk_eq, wDisk_eq]
  show (keepI m).length + sumW wInode (keepI m) + _ + _ ≤ _
  show (keepI m).length + sumW wInode (keepI m) + (m.fNames.length + sumW wEntry m.fNames) + (m.fSafe.length + sumW wEntry m.fSafe) ≤ _
  omega
theorem sumW_withE {l : List MEntry} {e : MEntry} : sumW wEntry (withE l e) ≤ sumW wEntry l + sumW wEntry l + wEntry e := by
  unfold withE
  rw [sumW_append]
  simp only [sumW]
  have h1 := sumW_sublist (f := wEntry) (List.filter_sublist (l := l) (p := fun x => strLt x.fName e.fName))
  have h2 := sumW_sublist (f := wEntry) (List.filter_sublist (l := l) (p := fun x => strLt e.fName x.fName))
  omega

theorem sumW_map_le {f : MInode → MInode} (h : ∀ n, wInode (f n) ≤ wInode n) : ∀ l : List MInode, sumW wInode (l.map f) ≤ sumW wInode l
  | [] => Nat.le_refl _
  | x :: r => by simp only [List.map_cons, sumW]; have := h x; have := sumW_map_le h r; omega

theorem sumW_names {l : List MEntry} (h : ∀ e, e ∈ l → nameOk e.fName = true) : sumW wEntry l ≤ 12 * l.length := by
  induction l with
  | nil => simp [sumW]
  | cons x r ih =>
    have h1 := ih (fun e he => h e (by simp [he]))
    have h2 := h x (by simp)
    unfold nameOk at h2
    rw [Bool.and_eq_true] at h2
    have h3 := (of_decide_eq_true h2.1).2
    have h4 : wEntry x = x.fName.size := rfl
    simp only [sumW, List.length_cons]
    omega

theorem ok_weight {m : MDisk} (h : diskOk m = true) : m.fInodes.length ≤ 60 ∧ sumW wInode m.fInodes ≤ 60000 ∧ m.fNames.length ≤ 30 ∧ sumW wEntry m.fNames ≤ 360 ∧ m.fSafe.length ≤ 30 ∧ sumW wEntry m.fSafe ≤ 360 := by
  have hr := diskOk_iff.1 h
  have h1 := named_fit (d := m) (diskOk_parts h).1 (List.all_eq_true.2 hr.all)
  have h2 := sumW_names (fun e he => (hr.names.1 e he).2)
  have h3 := sumW_names (fun e he => (hr.safe.1 e he).2)
  have h4 := hr.few
  have h5 := hr.few'
  have h6 := hr.size
  omega


theorem Try.info5 : (Try.prog.info? 5).map (fun i => (i.zero, i.size, i.bytes)) = some (some (.int .u8 0), 1, 1) := by kernel_rfl


/-- Blocks of F alone have turned; new ones may have come. -/
structure Turn (F : List Nat) (w w' : World) : Prop where
  os : w'.os = w.os
  tape : w'.tape = w.tape
  output : w'.output = w.output
  size : w.heap.size ≤ w'.heap.size
  block : ∀ b, b < w.heap.size → b ∉ F → w'.heap[b]? = w.heap[b]?

theorem Turn.refl (F : List Nat) (w : World) : Turn F w w := ⟨rfl, rfl, rfl, Nat.le_refl _, fun _ _ _ => rfl⟩
theorem Turn.trans {F : List Nat} {a b c : World} (h : Turn F a b) (k : Turn F b c) : Turn F a c :=
  ⟨k.os.trans h.os, k.tape.trans h.tape, k.output.trans h.output, Nat.le_trans h.size k.size, fun i hi hF => (k.block i (Nat.lt_of_lt_of_le hi h.size) hF).trans (h.block i hi hF)⟩
theorem Turn.mono {F G : List Nat} {a b : World} (h : Turn F a b) (hF : ∀ k, k ∈ F → k ∈ G) : Turn G a b :=
  ⟨h.os, h.tape, h.output, h.size, fun i hi hG => h.block i hi (fun hk => hG (hF i hk))⟩
theorem Turn.ofBelow {F : List Nat} {a b : World} (h : Below a.heap.size a b) : Turn F a b := ⟨h.os, h.tape, h.output, h.size, fun i hi _ => h.block i hi⟩
theorem Turn.below {F : List Nat} {B : Nat} {a b : World} (h : Turn F a b) (hF : ∀ k, k ∈ F → B ≤ k) (hB : B ≤ a.heap.size) : Below B a b :=
  ⟨h.os, h.tape, h.output, h.size, fun i hi => h.block i (Nat.lt_of_lt_of_le hi hB) (fun hk => by have := hF i hk; omega)⟩
theorem Turn.setCell {F : List Nat} {a b : World} (h : Turn F a b) {p : Addr} (hp : p.block ∈ F) (u : Value) : Turn F a (b.setCell p u) := by
  refine h.trans ⟨?_, ?_, ?_, by simp, fun i hi hF => heap_setCell_other b p i u (fun e => hF (e ▸ hp))⟩
  all_goals
    have hb := (Below.refl 0 b).setCell (p := p) (Nat.zero_le _) u
  · exact hb.os
  · exact hb.tape
  · exact hb.output
theorem Turn.ofGrown {F : List Nat} {a b : World} {r : Option Nat} (h : a.grownBy b r) (hr : ∀ k, r = some k → k ∈ F) : Turn F a b :=
  ⟨h.os, h.tape, h.output, h.size, fun i hi hF => h.block i hi (fun e => hF (hr i e.symm))⟩

theorem Turn.cell {F : List Nat} {w w' : World} (h : Turn F w w') {p : Addr} (hp : p.block < w.heap.size) (hF : p.block ∉ F) : w'.cell? p = w.cell? p := World.cell?_of_block (w := w) (h.block p.block hp hF)

theorem below_same {w w' : World} (h : w' = w) : Below w.heap.size w w' := by subst h; exact Below.refl _ _
theorem bthen {w w1 w2 : World} (h : Below w.heap.size w w1) (hx : Below w1.heap.size w1 w2) : Below w.heap.size w w2 := h.trans (hx.mono h.size)
theorem Turn.after {F : List Nat} {w w1 w2 : World} (h : Below w.heap.size w w1) (hx : Turn F w1 w2) : Turn F w w2 := (Turn.ofBelow h).trans hx
theorem Turn.under {F : List Nat} {w w1 w2 : World} (h : Below w.heap.size w w1) (hx : Turn F w1 w2) (hF : ∀ k, k ∈ F → w.heap.size ≤ k) : Below w.heap.size w w2 := h.trans (hx.below hF h.size)

theorem turnOwn {a b : World} {r : Option Nat} (h : a.grownBy b r) : Turn r.toList a b := Turn.ofGrown h (fun k hk => by simp [hk])

/-- A variable's block, cell by cell. -/
def Bx (w : World) (b : Nat) (vs : List Value) : Prop := b < w.heap.size ∧ ∀ i u, vs[i]? = some u → w.cell? ⟨b, i, none⟩ = some u

theorem Bx.new (w : World) (vs : List Value) (t : TypeId) : Bx (w.alloc (.cells vs.toArray t)) w.heap.size vs := by
  refine ⟨by simp, fun i u hu => ?_⟩
  rw [cell_of_row (w.alloc (.cells vs.toArray t)) w.heap.size i vs.toArray t (0, 0) (by show (w.heap.push _)[w.heap.size]? = _; rw [Array.getElem?_push_size])]
  simpa using hu
theorem Bx.alloc {w : World} {b : Nat} {vs : List Value} (h : Bx w b vs) (o : Obj) : Bx (w.alloc o) b vs :=
  ⟨by have := h.1; simp; omega, fun i u hu => by
    have hb := (Below.refl w.heap.size w).alloc (Nat.le_refl _) o
    exact (hb.cell (p := ⟨b, i, none⟩) h.1).trans (h.2 i u hu)⟩
theorem Bx.drewN {w : World} {b : Nat} {vs : List Value} (h : Bx w b vs) (d : Nat) : Bx (w.drewN d) b vs := h
theorem Bx.drew {w : World} {b : Nat} {vs : List Value} (h : Bx w b vs) : Bx w.drew b vs := h
theorem Bx.below {B : Nat} {w w' : World} {b : Nat} {vs : List Value} (h : Bx w b vs) (hb : Below B w w') (hB : b < B) : Bx w' b vs :=
  ⟨Nat.lt_of_lt_of_le h.1 hb.size, fun i u hu => (hb.cell (p := ⟨b, i, none⟩) hB).trans (h.2 i u hu)⟩
theorem Bx.under {w w' : World} {b : Nat} {vs : List Value} (h : Bx w b vs) (hb : Below w.heap.size w w') : Bx w' b vs := h.below hb h.1
theorem Bx.turn {F : List Nat} {w w' : World} {b : Nat} {vs : List Value} (h : Bx w b vs) (ht : Turn F w w') (hF : b ∉ F) : Bx w' b vs :=
  ⟨Nat.lt_of_lt_of_le h.1 ht.size, fun i u hu => (ht.cell (p := ⟨b, i, none⟩) h.1 hF).trans (h.2 i u hu)⟩

/-- The cells of element j. -/
def seg (size : Nat) (cur : Array Value) (j : Nat) : List Value := (cur.toList.drop (j * size)).take size

theorem seg_get {size : Nat} {cur : Array Value} {j i : Nat} (hi : i < size) : (seg size cur j)[i]? = cur[j * size + i]? := by
  unfold seg
  rw [List.getElem?_take, if_pos hi, List.getElem?_drop]
  simp

theorem seg_set {size : Nat} {cur : Array Value} {k i : Nat} (hi : i < size) (u : Value) : seg size (cur.setIfInBounds (k * size + i) u) k = (seg size cur k).set i u := by
  unfold seg
  rw [Array.toList_setIfInBounds]
  apply List.ext_getElem?
  intro j
  simp only [List.getElem?_take, List.getElem?_drop, List.getElem?_set, List.length_take, List.length_drop]
  by_cases hj : j < size
  · by_cases hij : i = j
    · subst hij
      by_cases hb : k * size + i < cur.toList.length
      · have hb' : i < min size (cur.toList.length - k * size) := by omega
        rw [if_pos hj, if_pos rfl, if_pos rfl, if_pos hb, if_pos hb']
      · have hb' : ¬ i < min size (cur.toList.length - k * size) := by omega
        rw [if_pos hj, if_pos rfl, if_pos rfl, if_neg hb, if_neg hb']
    · rw [if_pos hj, if_neg (by omega), if_neg hij, if_pos hj]
  · rw [if_neg hj, if_neg hj]
    split
    · split
      · omega
      · rfl
    · rfl

theorem seg_set_other {size : Nat} {cur : Array Value} {k i j : Nat} (hi : i < size) (hjk : j ≠ k) (u : Value) : seg size (cur.setIfInBounds (k * size + i) u) j = seg size cur j := by
  unfold seg
  rw [Array.toList_setIfInBounds]
  apply List.ext_getElem?
  intro x
  simp only [List.getElem?_take, List.getElem?_drop, List.getElem?_set]
  by_cases hx : x < size
  · rw [if_pos hx, if_pos hx, if_neg]
    intro h
    rcases Nat.lt_or_gt_of_ne hjk with h1 | h1
    · have := Nat.mul_le_mul_right size h1
      rw [Nat.succ_mul] at this
      omega
    · have := Nat.mul_le_mul_right size h1
      rw [Nat.succ_mul] at this
      omega
  · rw [if_neg hx, if_neg hx]

/-- A row of structs of one's own, laid open. -/
structure OwnRow {α : Type} (size : Nat) (e : TypeId) (O : ORep α) (w : World) (g cap : Nat) (l : List α) (cur : Array Value) (Fs : List (List Nat)) : Prop where
  heap : w.heap[g]? = some (.cells cur e (0, 0))
  le : l.length ≤ cap
  max : cap ≤ maxLen
  fit : cur.size = cap * size
  flen : Fs.length = l.length
  each : ∀ j, (h : j < l.length) → O w (seg size cur j) l[j] (Fs.getD j [])
  nodup : (g :: Fs.flatten).Nodup

theorem ownS.open {α : Type} {size : Nat} {e : TypeId} {O : ORep α} {w : World} {v : Value} {l : List α} {F : List Nat} (h : ownS size e O w v l F) (hN : F.Nodup) :
    (v = .slice none 0 0 ∧ l = [] ∧ F = []) ∨ ∃ g cap cur Fs, v = .slice (some ⟨g, 0, none⟩) l.length cap ∧ OwnRow size e O w g cap l cur Fs ∧ F = g :: Fs.flatten := by
  rcases h with h | ⟨g, cap, cur, Fs, h1, h2, h3, h4, h5, h6, h7, rfl⟩
  · exact .inl h
  · exact .inr ⟨g, cap, cur, Fs, h1, ⟨h2, h3, h4, h5, h6, h7, hN⟩, rfl⟩

theorem OwnRow.lt {α : Type} {size : Nat} {e : TypeId} {O : ORep α} {w : World} {g cap : Nat} {l : List α} {cur : Array Value} {Fs : List (List Nat)} (h : OwnRow size e O w g cap l cur Fs) : g < w.heap.size := (Array.getElem?_eq_some_iff.1 h.heap).1

/-- Element k is being edited: the world's row is as it was but for that element, which reads as cs. -/
structure Edit (size : Nat) (e : TypeId) (g k : Nat) (F : List Nat) (cur : Array Value) (w w' : World) (cs : List Value) : Prop where
  row : ∃ cur' : Array Value, w'.heap[g]? = some (.cells cur' e (0, 0)) ∧ cur'.size = cur.size ∧ (∀ j, j ≠ k → seg size cur' j = seg size cur j) ∧ seg size cur' k = cs
  turn : Turn (g :: F) w w'

theorem Edit.start {α : Type} {size : Nat} {e : TypeId} {O : ORep α} {w : World} {g cap : Nat} {l : List α} {cur : Array Value} {Fs : List (List Nat)} (h : OwnRow size e O w g cap l cur Fs) (k : Nat) (F : List Nat) : Edit size e g k F cur w w (seg size cur k) :=
  ⟨⟨cur, h.heap, rfl, fun _ _ => rfl, rfl⟩, Turn.refl _ _⟩

theorem Edit.set {size : Nat} {e : TypeId} {g k : Nat} {F : List Nat} {cur : Array Value} {w w' : World} {cs : List Value} (h : Edit size e g k F cur w w' cs) {i : Nat} (hi : i < size) (u : Value) :
    Edit size e g k F cur w (w'.setCell ⟨g, k * size + i, none⟩ u) (cs.set i u) := by
  obtain ⟨⟨cur', c1, c2, c3, c4⟩, ht⟩ := h
  refine ⟨⟨_, heap_setCell_same w' g _ cur' e u c1, by simpa using c2, fun j hj => ?_, ?_⟩, ht.setCell (by simp) u⟩
  · rw [seg_set_other hi hj]; exact c3 j hj
  · rw [seg_set hi, c4]

theorem Edit.keep {size : Nat} {e : TypeId} {g k : Nat} {F : List Nat} {cur : Array Value} {w w1 w2 : World} {cs : List Value} (h : Edit size e g k F cur w w1 cs) (ht : Turn F w1 w2) (hg : g ∉ F) :
    Edit size e g k F cur w w2 cs := by
  obtain ⟨⟨cur', c1, c2, c3, c4⟩, ht'⟩ := h
  exact ⟨⟨cur', by rw [ht.block g (Array.getElem?_eq_some_iff.1 c1).1 hg]; exact c1, c2, c3, c4⟩, ht'.trans (ht.mono (fun k hk => List.mem_cons_of_mem _ hk))⟩

theorem Edit.cellAt {size : Nat} {e : TypeId} {g k : Nat} {F : List Nat} {cur : Array Value} {w w' : World} {cs : List Value} (h : Edit size e g k F cur w w' cs) {i : Nat} (hi : i < size) {u : Value} (hu : cs[i]? = some u) :
    w'.cell? ⟨g, k * size + i, none⟩ = some u := by
  obtain ⟨⟨cur', c1, c2, c3, c4⟩, _⟩ := h
  rw [cell_of_row w' g _ cur' e (0, 0) c1, ← seg_get hi, c4, hu]

theorem Edit.free {size : Nat} {e : TypeId} {g k : Nat} {F : List Nat} {cur : Array Value} {w w' : World} {cs : List Value} (h : Edit size e g k F cur w w' cs) (j : Nat) :
    w'.frozen? ⟨g, j, none⟩ = false := by
  obtain ⟨⟨cur', c1, c2, c3, c4⟩, _⟩ := h
  exact frozen_of_row w' g j cur' e c1


theorem flatten_at {size : Nat} : ∀ {css : List (List Value)}, (∀ c, c ∈ css → c.length = size) → ∀ {j i : Nat}, i < size → css.flatten[j * size + i]? = (css[j]?).bind (fun c => c[i]?)
  | [], _, j, i, _ => by simp
  | c :: r, h, 0, i, hi => by
    have hc := h c (by simp)
    simp only [List.flatten_cons, Nat.zero_mul, Nat.zero_add, List.getElem?_cons_zero, Option.bind_some]
    rw [List.getElem?_append_left (by omega)]
  | c :: r, h, j + 1, i, hi => by
    have hc := h c (by simp)
    have ih := flatten_at (css := r) (fun x hx => h x (by simp [hx])) (j := j) hi
    simp only [List.flatten_cons, List.getElem?_cons_succ]
    rw [List.getElem?_append_right (by rw [Nat.succ_mul]; omega), ← ih]
    congr 1
    rw [Nat.succ_mul]
    omega

/-- A row of one's own whose elements read, below block B, as l. -/
def RowR {α : Type} (size : Nat) (e : TypeId) (R : Rep α) (B : Nat) (w : World) (base : Nat) (v : Value) (l : List α) : Prop :=
  ∃ css : List (List Value), css.length = l.length ∧ (∀ c, c ∈ css → c.length = size) ∧ (∀ j, (h : j < l.length) → (h2 : j < css.length) → R B w css[j] l[j]) ∧ w.ownsRow base e size v l.length css.flatten

theorem RowR.start {α : Type} {size : Nat} {e : TypeId} {R : Rep α} {B : Nat} {w : World} {base : Nat} : RowR size e R B w base (.slice none 0 0) [] :=
  ⟨[], rfl, (fun _ h => by cases h), (fun _ h => by simp at h), by simp, .inl ⟨rfl, rfl⟩⟩

theorem RowR.leaf {α : Type} {size : Nat} {e : TypeId} {R : Rep α} (hR : R.Good) {B : Nat} {w : World} {base : Nat} {v : Value} {l : List α} (h : RowR size e R B w base v l) (hB : B ≤ w.heap.size) :
    ∃ a c, v = .slice a l.length c ∧ LeafL size R w.heap.size w a c l := by
  obtain ⟨css, h1, h2, h3, h4⟩ := h
  rcases h4.2 with ⟨rfl, h0⟩ | ⟨g, cap, cur, rfl, hb, hg, hnc, hm, hs, ht⟩
  · have : l = [] := List.eq_nil_of_length_eq_zero h0
    subst this
    exact ⟨none, 0, rfl, by simp, by omega, fun j hj => by simp at hj⟩
  · refine ⟨_, cap, rfl, hnc, by simpa [maxLen] using hm, fun j hj => ?_⟩
    have hj2 : j < css.length := by omega
    refine ⟨g, 0, rfl, (Array.getElem?_eq_some_iff.1 hg).1, css[j], h2 _ (List.getElem_mem hj2), fun i u hu => ?_, hR.mono (h3 j hj hj2) hB⟩
    have hi : i < size := by
      have := (List.getElem?_eq_some_iff.1 hu).1
      rw [h2 _ (List.getElem_mem hj2)] at this
      exact this
    have hf := flatten_at h2 (j := j) hi
    rw [List.getElem?_eq_getElem hj2, Option.bind_some, hu, ← ht, List.getElem?_take] at hf
    split at hf
    · rw [Nat.zero_add, cell_of_row w g _ cur e (0, 0) hg]
      simpa using hf
    · cases hf

theorem RowR.push {α : Type} {size : Nat} {e : TypeId} {R : Rep α} (hR : R.Good) {B : Nat} {w w' : World} {base : Nat} {v' : Value} {l : List α} {m : α} {cs : List Value} {css : List (List Value)}
    (h1 : css.length = l.length) (h2 : ∀ c, c ∈ css → c.length = size) (h3 : ∀ j, (h : j < l.length) → (h2 : j < css.length) → R B w css[j] l[j]) (hb : Below B w w') (hc : cs.length = size) (hr : R B w' cs m)
    (ho : w'.ownsRow base e size v' (l.length + 1) (css.flatten ++ cs)) : RowR size e R B w' base v' (l ++ [m]) := by
  refine ⟨css ++ [cs], by simp [h1], ?_, ?_, by simpa using ho⟩
  · intro c hcm
    rcases List.mem_append.1 hcm with h | h
    · exact h2 c h
    · simp at h; subst h; exact hc
  · intro j hj hj2
    by_cases hjl : j < l.length
    · rw [List.getElem_append_left (by omega), List.getElem_append_left hjl]
      exact hR.below (h3 j hjl (by omega)) hb
    · have hje : j = l.length := by simp at hj; omega
      subst hje
      rw [List.getElem_append_right (by omega), List.getElem_append_right (Nat.le_refl _)]
      simp [h1, hr]

theorem bx_news {w : World} {b : Nat} {vs : List Value} (h : Bx w b vs) : ∀ j u, vs[j]? = some u → w.cell? ((⟨b, 0, none⟩ : Addr).add j) = some u := by
  intro j u hu
  have h2 := h.2 j u hu
  have e : ((⟨b, 0, none⟩ : Addr).add j) = ⟨b, j, none⟩ := by
    unfold Addr.add
    split
    · next h0 => subst h0; rfl
    · simp
  rw [e]
  exact h2

theorem RowR.lt {α : Type} {size : Nat} {e : TypeId} {R : Rep α} {B : Nat} {w : World} {base : Nat} {v : Value} {l : List α} (h : RowR size e R B w base v l) : ∀ k, v.ownBlock = some k → base ≤ k ∧ k < w.heap.size := by
  obtain ⟨css, h1, h2, h3, h4⟩ := h
  exact fun k hk => h4.lt k hk

theorem RowR.base {α : Type} {size : Nat} {e : TypeId} {R : Rep α} {B : Nat} {w : World} {base base' : Nat} {v : Value} {l : List α} (h : RowR size e R B w base v l) (hb : base' ≤ base) : RowR size e R B w base' v l := by
  obtain ⟨css, h1, h2, h3, h4⟩ := h
  exact ⟨css, h1, h2, h3, own_base h4 hb⟩

theorem RowR.keep {α : Type} {size : Nat} {e : TypeId} {R : Rep α} (hR : R.Good) {B : Nat} {w w' : World} {base : Nat} {v : Value} {l : List α} (h : RowR size e R B w base v l) (hb : Below w.heap.size w w') (hB : B ≤ w.heap.size) : RowR size e R B w' base v l := by
  obtain ⟨css, h1, h2, h3, h4⟩ := h
  exact ⟨css, h1, h2, fun j hj hj2 => hR.below (h3 j hj hj2) (hb.mono hB), own_below h4 hb⟩

end Go.Proofs.Ytmbobjhplkpfoaa
