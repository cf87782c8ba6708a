/-
  Part 2 of the texts that the proof leans on.
-/
import Derived.Test.YtmbobjhplkpfoaaFnn0
import Derived.Maps.OwnSet
import Derived.Maps.RangeWalk
import Derived.Sort.KeysCollected
import Derived.Test.YtmbobjhplkpfoaaRows
import Derived.Test.YtmbobjhplkpfoaaChecked
import Derived.Laws.BitsLemmas
import Derived.Maps.Range
set_option linter.unusedVariables false
set_option linter.unusedSimpArgs false
set_option maxRecDepth 10000

namespace Go.Proofs.Ytmbobjhplkpfoaa
open Go.RowKit

theorem okE_iff {ins : List MInode} : ∀ {l : List MEntry} {seen : List Int} {prev : ByteArray}, okE ins seen prev l = true ↔
    ((∀ e, e ∈ l → hasId ins e.fId = true ∧ nameOk e.fName = true ∧ e.fId ∉ seen ∧ strLt prev e.fName = true) ∧ l.Pairwise (fun x y => strLt x.fName y.fName = true ∧ x.fId ≠ y.fId))
  | [], seen, prev => by simp [okE]
  | x :: r, seen, prev => by
    rw [okE, Bool.and_eq_true, okE_iff (l := r), List.pairwise_cons]
    unfold stepE
    simp only [Bool.and_eq_true, Bool.not_eq_true', List.contains_eq_mem, decide_eq_false_iff_not, List.mem_append, List.mem_singleton, not_or]
    constructor
    · rintro ⟨⟨⟨⟨h1, h2⟩, h3⟩, h4⟩, h5, h6⟩
      refine ⟨?_, fun e he => ⟨(h5 e he).2.2.2, fun hh => (h5 e he).2.2.1.2 hh.symm⟩, h6⟩
      intro e he
      rcases List.mem_cons.1 he with rfl | he
      · exact ⟨h1, h4, h2, h3⟩
      · exact ⟨(h5 e he).1, (h5 e he).2.1, (h5 e he).2.2.1.1, strLt_trans h3 (h5 e he).2.2.2⟩
    · rintro ⟨h1, h2, h3⟩
      have hx := h1 x (by simp)
      refine ⟨⟨⟨⟨hx.1, hx.2.2.1⟩, hx.2.2.2⟩, hx.2.1⟩, fun e he => ?_, h3⟩
      have h4 := h1 e (by simp [he])
      exact ⟨h4.1, h4.2.1, ⟨h4.2.2.1, fun hh => (h2 e he).2 hh.symm⟩, (h2 e he).1⟩

/-- A list of entries that is right over these inodes. -/
def EntOk (ins : List MInode) (l : List MEntry) : Prop :=
  (∀ e, e ∈ l → hasId ins e.fId = true ∧ nameOk e.fName = true) ∧ l.Pairwise (fun x y => strLt x.fName y.fName = true ∧ x.fId ≠ y.fId)

theorem okE_start {ins : List MInode} {l : List MEntry} : okE ins [] ByteArray.empty l = true ↔ EntOk ins l := by
  rw [okE_iff]
  unfold EntOk
  constructor
  · rintro ⟨h1, h2⟩
    exact ⟨fun e he => ⟨(h1 e he).1, (h1 e he).2.1⟩, h2⟩
  · rintro ⟨h1, h2⟩
    exact ⟨fun e he => ⟨(h1 e he).1, (h1 e he).2, by simp, empty_lt (nameOk_pos (h1 e he).2)⟩, h2⟩

theorem okI_iff {next : Int} : ∀ {l : List MInode} {prev : Int}, okI next prev l = true ↔
    ((∀ n, n ∈ l → prev < n.fId ∧ n.fId < next ∧ 0 ≤ n.fSure ∧ n.fSure ≤ n.fData.length) ∧ l.Pairwise (fun x y => x.fId < y.fId))
  | [], prev => by simp [okI]
  | x :: r, prev => by
    rw [okI, Bool.and_eq_true, okI_iff (l := r), List.pairwise_cons]
    unfold stepI
    rw [decide_eq_true_iff]
    constructor
    · rintro ⟨h1, h2, h3⟩
      refine ⟨?_, fun n hn => (h2 n hn).1, h3⟩
      intro n hn
      rcases List.mem_cons.1 hn with rfl | hn
      · exact h1
      · have := h2 n hn; omega
    · rintro ⟨h1, h2, h3⟩
      refine ⟨h1 x (by simp), fun n hn => ?_, h3⟩
      have := h1 n (by simp [hn])
      have := h2 n hn
      omega

structure DiskR (m : MDisk) : Prop where
  next : 1 ≤ m.fNext ∧ m.fNext ≤ 1000000
  each : ∀ n, n ∈ m.fInodes → 0 < n.fId ∧ n.fId < m.fNext ∧ 0 ≤ n.fSure ∧ n.fSure ≤ n.fData.length
  rise : m.fInodes.Pairwise (fun x y => x.fId < y.fId)
  size : sumW wInode m.fInodes ≤ 60000
  few : m.fNames.length ≤ 30
  few' : m.fSafe.length ≤ 30
  names : EntOk m.fInodes m.fNames
  safe : EntOk m.fInodes m.fSafe
  all : ∀ n, n ∈ m.fInodes → isNamed m n = true

theorem diskOk_iff {m : MDisk} : diskOk m = true ↔ DiskR m := by
  unfold diskOk
  simp only [Bool.and_eq_true, decide_eq_true_iff, okE_start, okI_iff, List.all_eq_true]
  constructor
  · rintro ⟨⟨⟨⟨⟨⟨⟨h1, h2, h3⟩, h4⟩, h5⟩, h6⟩, h7⟩, h8⟩, h9⟩
    exact ⟨h1, h2, h3, h4, h5, h7, h6, h8, h9⟩
  · rintro ⟨h1, h2, h3, h4, h5, h7, h6, h8, h9⟩
    exact ⟨⟨⟨⟨⟨⟨⟨h1, h2, h3⟩, h4⟩, h5⟩, h6⟩, h7⟩, h8⟩, h9⟩

theorem sumW_sublist {α : Type} {f : α → Nat} {l k : List α} (h : l.Sublist k) : sumW f l ≤ sumW f k := by
  induction h with
  | slnil => exact Nat.le_refl _
  | cons a _ ih => simp only [sumW]; omega
  | cons_cons a _ ih => simp only [sumW]; omega

theorem hasId_iff {l : List MInode} {id : Int} : hasId l id = true ↔ ∃ n, n ∈ l ∧ n.fId = id := by
  unfold hasId
  rw [List.any_eq_true]
  simp

theorem named_iff {l : List MEntry} {id : Int} : named l id = true ↔ id ∈ l.map (·.fId) := by
  constructor
  · exact named_mem
  · intro h
    obtain ⟨e, he, rfl⟩ := List.mem_map.1 h
    obtain ⟨k, hk, rfl⟩ := List.mem_iff_getElem.1 he
    exact named_yes hk rfl

theorem isNamed_iff {d : MDisk} {n : MInode} : isNamed d n = true ↔ n.fId ∈ d.fNames.map (·.fId) ++ d.fSafe.map (·.fId) := by
  unfold isNamed
  rw [Bool.or_eq_true, named_iff, named_iff, List.mem_append]

/-- A disk without what no list names. -/
def keepD (m : MDisk) : MDisk := { m with fInodes := keepI m }

theorem keepI_all {m : MDisk} (h : ∀ n, n ∈ m.fInodes → isNamed m n = true) : keepI m = m.fInodes := by
  unfold keepI
  exact List.filter_eq_self.2 h

theorem EntOk.kept {m : MDisk} {l : List MEntry} (h : EntOk m.fInodes l) (hl : ∀ e, e ∈ l → e.fId ∈ m.fNames.map (·.fId) ++ m.fSafe.map (·.fId)) : EntOk (keepI m) l := by
  refine ⟨fun e he => ⟨?_, (h.1 e he).2⟩, h.2⟩
  obtain ⟨n, hn, hid⟩ := hasId_iff.1 (h.1 e he).1
  refine hasId_iff.2 ⟨n, ?_, hid⟩
  unfold keepI
  refine List.mem_filter.2 ⟨hn, isNamed_iff.2 ?_⟩
  rw [hid]
  exact hl e he

/-- Other lists of names over the same inodes: what they don't name goes. -/
theorem keep_ok {m : MDisk} (h : DiskR m) {N S : List MEntry} (hN : N.length ≤ 30) (hS : S.length ≤ 30) (oN : EntOk m.fInodes N) (oS : EntOk m.fInodes S) :
    DiskR (keepD { m with fNames := N, fSafe := S }) := by
  have hsub : (keepI { m with fNames := N, fSafe := S }).Sublist m.fInodes := List.filter_sublist
  refine ⟨h.next, fun n hn => h.each n (hsub.subset hn), h.rise.sublist hsub, Nat.le_trans (sumW_sublist hsub) h.size, hN, hS, ?_, ?_, ?_⟩
  · exact EntOk.kept (m := { m with fNames := N, fSafe := S }) oN (fun e he => List.mem_append_left _ (List.mem_map.2 ⟨e, he, rfl⟩))
  · exact EntOk.kept (m := { m with fNames := N, fSafe := S }) oS (fun e he => List.mem_append_right _ (List.mem_map.2 ⟨e, he, rfl⟩))
  · intro n hn
    exact (List.mem_filter.1 (show n ∈ List.filter (isNamed { m with fNames := N, fSafe := S }) m.fInodes from hn)).2

/-- A list without a name; with an entry, in its place. -/
def without (l : List MEntry) (s : ByteArray) : List MEntry := l.filter fun e => decide (e.fName ≠ s)
def withE (l : List MEntry) (e : MEntry) : List MEntry := l.filter (fun x => strLt x.fName e.fName) ++ e :: l.filter (fun x => strLt e.fName x.fName)

/-- The same as a walk along the list. -/
def withL (e : MEntry) : Bool → List MEntry → List MEntry
  | put, [] => if put then [] else [e]
  | put, x :: r => (if put = false ∧ strLt x.fName e.fName = false then [e] else []) ++ ((if x.fName = e.fName then [] else [x]) ++ withL e (put || !strLt x.fName e.fName) r)

theorem strLt_irrefl (s : ByteArray) : strLt s s = false := bl_irrefl _
theorem strLt_asymm {a b : ByteArray} (h : strLt a b = true) : strLt b a = false := bl_asymm h
theorem strLt_tri {a b : ByteArray} (h1 : strLt a b = false) (h2 : a ≠ b) : strLt b a = true := bl_total h1 (fun e => h2 (str_eq.1 (by rw [e]; simp)))

def Rise (l : List MEntry) : Prop := l.Pairwise (fun x y => strLt x.fName y.fName = true)

theorem withL_true {e : MEntry} : ∀ {l : List MEntry}, (∀ x, x ∈ l → strLt e.fName x.fName = true) → withL e true l = l
  | [], _ => rfl
  | x :: r, h => by
    have hx := h x (by simp)
    have hne : x.fName ≠ e.fName := fun hh => by rw [hh, strLt_irrefl] at hx; cases hx
    simp only [withL, if_neg hne, Bool.true_or]
    rw [withL_true (fun y hy => h y (by simp [hy]))]
    simp

theorem withL_false {e : MEntry} : ∀ {l : List MEntry}, Rise l → withL e false l = withE l e
  | [], _ => rfl
  | x :: r, h => by
    unfold Rise at h
    rw [List.pairwise_cons] at h
    unfold withE
    by_cases hlt : strLt x.fName e.fName = true
    · have hne : x.fName ≠ e.fName := fun hh => by rw [hh, strLt_irrefl] at hlt; cases hlt
      have ih := withL_false (e := e) h.2
      unfold withE at ih
      simp only [withL, hlt, if_neg hne, Bool.not_true, Bool.or_self, ih, List.filter_cons, strLt_asymm hlt]
      simp
    · have hlt2 : strLt x.fName e.fName = false := Bool.eq_false_iff.2 hlt
      have hnil : List.filter (fun x => strLt x.fName e.fName) r = [] := by
        rw [List.filter_eq_nil_iff]
        intro y hy hye
        exact hlt (strLt_trans (h.1 y hy) hye)
      by_cases heq : x.fName = e.fName
      · have hr : ∀ y, y ∈ r → strLt e.fName y.fName = true := fun y hy => by rw [← heq]; exact h.1 y hy
        simp only [withL, hlt2, heq, strLt_irrefl, Bool.not_false, Bool.or_true, List.filter_cons, hnil, withL_true hr]
        simp [List.filter_eq_self.2 hr]
      · have hxe := strLt_tri hlt2 heq
        have hr : ∀ y, y ∈ r → strLt e.fName y.fName = true := fun y hy => strLt_trans hxe (h.1 y hy)
        simp only [withL, hlt2, if_neg heq, Bool.not_false, Bool.or_true, List.filter_cons, hnil, withL_true hr, hxe]
        simp [List.filter_eq_self.2 hr]

theorem EntOk.rise {ins : List MInode} {l : List MEntry} (h : EntOk ins l) : Rise l := h.2.imp (fun h => h.1)

theorem EntOk.sub {ins : List MInode} {l k : List MEntry} (h : EntOk ins l) (hs : k.Sublist l) : EntOk ins k := ⟨fun e he => h.1 e (hs.subset he), h.2.sublist hs⟩

theorem EntOk.withE {ins : List MInode} {l : List MEntry} {e : MEntry} (h : EntOk ins l) (he : hasId ins e.fId = true) (hn : nameOk e.fName = true) (hfresh : ∀ x, x ∈ l → x.fId = e.fId → x.fName = e.fName) : EntOk ins (withE l e) := by
  unfold Go.Proofs.Ytmbobjhplkpfoaa.withE
  constructor
  · intro x hx
    rcases List.mem_append.1 hx with hx | hx
    · exact h.1 x (List.mem_filter.1 hx).1
    · rcases List.mem_cons.1 hx with rfl | hx
      · exact ⟨he, hn⟩
      · exact h.1 x (List.mem_filter.1 hx).1
  · rw [List.pairwise_append, List.pairwise_cons]
    refine ⟨h.2.sublist List.filter_sublist, ⟨?_, h.2.sublist List.filter_sublist⟩, ?_⟩
    · intro y hy
      have hy' := List.mem_filter.1 hy
      refine ⟨hy'.2, fun hid => ?_⟩
      have := hfresh y hy'.1 hid.symm
      rw [this, strLt_irrefl] at hy'
      cases hy'.2
    · intro x hx y hy
      have hx' := List.mem_filter.1 hx
      rcases List.mem_cons.1 hy with rfl | hy
      · refine ⟨hx'.2, fun hid => ?_⟩
        have := hfresh x hx'.1 hid
        rw [this, strLt_irrefl] at hx'
        cases hx'.2
      · have hy' := List.mem_filter.1 hy
        obtain ⟨i, hi, rfl⟩ := List.mem_iff_getElem.1 hx'.1
        obtain ⟨j, hj, rfl⟩ := List.mem_iff_getElem.1 hy'.1
        have hlt : strLt l[i].fName l[j].fName = true := strLt_trans hx'.2 hy'.2
        have hij : i < j := by
          rcases Nat.lt_trichotomy i j with h1 | h1 | h1
          · exact h1
          · subst h1; rw [strLt_irrefl] at hlt; cases hlt
          · have h2 := (List.pairwise_iff_getElem.1 h.2 j i hj hi h1).1
            rw [strLt_asymm h2] at hlt; cases hlt
        exact List.pairwise_iff_getElem.1 h.2 i j hi hj hij

theorem withE_length {l : List MEntry} {e : MEntry} : (withE l e).length ≤ l.length + 1 := by
  unfold withE
  rw [List.length_append, List.length_cons]
  have h1 : ∀ l : List MEntry, (l.filter (fun x => strLt x.fName e.fName)).length + (l.filter (fun x => strLt e.fName x.fName)).length ≤ l.length := by
    intro l
    induction l with
    | nil => simp
    | cons x r ih =>
      by_cases h1 : strLt x.fName e.fName = true
      · have h2 := strLt_asymm h1
        simp only [List.filter_cons, h1, h2, if_true, List.length_cons]
        simp
        omega
      · simp only [List.filter_cons, h1]
        by_cases h2 : strLt e.fName x.fName = true
        · simp [h2]; omega
        · simp [h2]; omega
  have := h1 l
  omega

end Go.Proofs.Ytmbobjhplkpfoaa

namespace Go.Proofs.Ytmbobjhplkpfoaa
open Go.RowKit Go.Maps

def kS (s : ByteArray) : Lit := .string s.data.toList
theorem kS_ne {s t : ByteArray} (h : s ≠ t) : kS s ≠ kS t := by
  intro e
  simp only [kS, Lit.string.injEq] at e
  apply h
  cases s; cases t
  simpa using Array.toList_inj.1 e

/-- The map has the first k names, each at an id that a list's entry of that name has. -/
def NMap (D : DataW Unit) (l : List MEntry) (k : Nat) : Prop :=
  IsMap D ∧ ∀ s : ByteArray, (Maps.has D (kS s) = true ↔ ∃ j, ∃ h : j < l.length, j < k ∧ l[j].fName = s) ∧ (Maps.has D (kS s) = true → ∃ j, ∃ h : j < l.length, j < k ∧ l[j].fName = s ∧ D.atKey (kS s) (.lit (.int .i64 0)) = .lit (.int .i64 l[j].fId))

theorem NMap.start (l : List MEntry) : NMap (.map []) l 0 :=
  ⟨isMap_empty, fun s => ⟨⟨fun h => by simp [Maps.has] at h, fun ⟨j, _, h, _⟩ => by omega⟩, fun h => by simp [Maps.has] at h⟩⟩

theorem NMap.put {D : DataW Unit} {l : List MEntry} {k : Nat} (h : NMap D l k) (hk : k < l.length) : NMap (D.put (kS l[k].fName) (.lit (.int .i64 l[k].fId))) l (k + 1) := by
  refine ⟨h.1.put _ _, fun s => ?_⟩
  by_cases hs : s = l[k].fName
  · subst hs
    have h1 := has_put_same h.1 (k := kS l[k].fName) (by trivial) (.lit (.int .i64 l[k].fId))
    exact ⟨⟨fun _ => ⟨k, hk, by omega, rfl⟩, fun _ => h1⟩, fun _ => ⟨k, hk, by omega, rfl, atKey_put_same h.1 (by trivial) _ _⟩⟩
  · have hne := kS_ne hs
    rw [has_put_other hne, atKey_put_other hne]
    obtain ⟨h2, h3⟩ := h.2 s
    refine ⟨h2.trans ⟨fun ⟨j, hj, hjk, e⟩ => ⟨j, hj, by omega, e⟩, fun ⟨j, hj, hjk, e⟩ => ⟨j, hj, ?_, e⟩⟩, fun hh => ?_⟩
    · by_cases hjk' : j = k
      · subst hjk'; exact absurd e.symm hs
      · omega
    · obtain ⟨j, hj, hjk, e, ha⟩ := h3 hh
      exact ⟨j, hj, by omega, e, ha⟩

/-- No name twice. -/
theorem okE_names {ins : List MInode} : ∀ {l : List MEntry} {seen : List Int} {prev : ByteArray}, okE ins seen prev l = true → (∀ e, e ∈ l → strLt prev e.fName = true) ∧ l.Pairwise fun x y => strLt x.fName y.fName = true
  | [], _, _, _ => ⟨(fun e he => by cases he), List.Pairwise.nil⟩
  | x :: r, seen, prev, h => by
    rw [okE, Bool.and_eq_true] at h
    have h1 := h.1
    unfold stepE at h1
    simp only [Bool.and_eq_true] at h1
    obtain ⟨h2, h3⟩ := okE_names h.2
    refine ⟨fun e he => ?_, List.Pairwise.cons h2 h3⟩
    rcases List.mem_cons.1 he with rfl | he
    · exact h1.1.2
    · exact strLt_trans h1.1.2 (h2 e he)

theorem names_once {l : List MEntry} (h : l.Pairwise fun x y => strLt x.fName y.fName = true) {i j : Nat} (hi : i < l.length) (hj : j < l.length) (he : l[i].fName = l[j].fName) : i = j := by
  rcases Nat.lt_trichotomy i j with hlt | rfl | hlt
  · have := List.pairwise_iff_getElem.1 h i j hi hj hlt
    rw [he] at this
    unfold strLt at this
    rw [bl_irrefl] at this
    cases this
  · rfl
  · have := List.pairwise_iff_getElem.1 h j i hj hi hlt
    rw [he] at this
    unfold strLt at this
    rw [bl_irrefl] at this
    cases this

/-- The map has just the names of a list, each at its entry's id. -/
def MapIs (D : DataW Unit) (l : List MEntry) : Prop :=
  IsMap D ∧ (∀ s, Maps.has D (kS s) = true ↔ hasName l s = true) ∧ ∀ e, e ∈ l → D.atKey (kS e.fName) (.lit (.int .i64 0)) = .lit (.int .i64 e.fId)

theorem hasName_iff {l : List MEntry} {s : ByteArray} : hasName l s = true ↔ ∃ e, e ∈ l ∧ e.fName = s := by
  unfold hasName
  rw [List.any_eq_true]
  simp

theorem MapIs.ofN {D : DataW Unit} {l : List MEntry} {n : Nat} (hn : l.length = n) (h : NMap D l n) (hr : Rise l) : MapIs D l := by
  refine ⟨h.1, fun s => ?_, fun e he => ?_⟩
  · rw [(h.2 s).1, hasName_iff]
    constructor
    · rintro ⟨j, hj, _, e⟩
      exact ⟨l[j], List.getElem_mem hj, e⟩
    · rintro ⟨e, he, hs⟩
      obtain ⟨j, hj, rfl⟩ := List.mem_iff_getElem.1 he
      exact ⟨j, hj, by omega, hs⟩
  · obtain ⟨i, hi, rfl⟩ := List.mem_iff_getElem.1 he
    obtain ⟨j, hj, _, e1, e2⟩ := (h.2 l[i].fName).2 ((h.2 _).1.2 ⟨i, hi, by omega, rfl⟩)
    have := names_once hr hj hi e1
    subst this
    exact e2

theorem MapIs.del {D : DataW Unit} {l : List MEntry} (h : MapIs D l) (s : ByteArray) : MapIs (D.del (kS s)) (without l s) := by
  refine ⟨h.1.del _, fun t => ?_, fun e he => ?_⟩
  · rw [hasName_iff]
    unfold without
    by_cases ht : t = s
    · subst ht
      rw [has_del_same]
      constructor
      · intro h; cases h
      · rintro ⟨e, he, hs⟩
        have := (List.mem_filter.1 he).2
        simp [hs] at this
    · rw [has_del_other (kS_ne ht), h.2.1 t, hasName_iff]
      constructor
      · rintro ⟨e, he, rfl⟩
        exact ⟨e, List.mem_filter.2 ⟨he, by simp [ht]⟩, rfl⟩
      · rintro ⟨e, he, rfl⟩
        exact ⟨e, (List.mem_filter.1 he).1, rfl⟩
  · have he' := List.mem_filter.1 (show e ∈ l.filter _ from he)
    have hne : e.fName ≠ s := by simpa using he'.2
    rw [atKey_del_other (kS_ne hne)]
    exact h.2.2 e he'.1

theorem mem_withE {l : List MEntry} {e x : MEntry} : x ∈ withE l e ↔ x = e ∨ (x ∈ l ∧ x.fName ≠ e.fName) := by
  unfold withE
  rw [List.mem_append, List.mem_cons, List.mem_filter, List.mem_filter]
  constructor
  · rintro (⟨h1, h2⟩ | rfl | ⟨h1, h2⟩)
    · exact .inr ⟨h1, fun hh => by rw [hh, strLt_irrefl] at h2; cases h2⟩
    · exact .inl rfl
    · exact .inr ⟨h1, fun hh => by rw [hh, strLt_irrefl] at h2; cases h2⟩
  · rintro (rfl | ⟨h1, h2⟩)
    · exact .inr (.inl rfl)
    · by_cases h3 : strLt x.fName e.fName = true
      · exact .inl ⟨h1, h3⟩
      · exact .inr (.inr ⟨h1, strLt_tri (Bool.eq_false_iff.2 h3) h2⟩)

theorem MapIs.put {D : DataW Unit} {l : List MEntry} (h : MapIs D l) (e : MEntry) : MapIs (D.put (kS e.fName) (.lit (.int .i64 e.fId))) (withE l e) := by
  refine ⟨h.1.put _ _, fun t => ?_, fun x hx => ?_⟩
  · rw [hasName_iff]
    by_cases ht : t = e.fName
    · subst ht
      rw [has_put_same h.1 (by trivial)]
      exact ⟨fun _ => ⟨e, mem_withE.2 (.inl rfl), rfl⟩, fun _ => rfl⟩
    · rw [has_put_other (kS_ne ht), h.2.1 t, hasName_iff]
      constructor
      · rintro ⟨x, hx, rfl⟩
        exact ⟨x, mem_withE.2 (.inr ⟨hx, ht⟩), rfl⟩
      · rintro ⟨x, hx, rfl⟩
        rcases mem_withE.1 hx with rfl | ⟨h1, _⟩
        · exact absurd rfl ht
        · exact ⟨x, h1, rfl⟩
  · rcases mem_withE.1 hx with rfl | ⟨h1, h2⟩
    · exact atKey_put_same h.1 (by trivial) _ _
    · rw [atKey_put_other (kS_ne h2)]
      exact h.2.2 x h1

theorem kS_same {s t : ByteArray} : (kS s).sameKey (kS t) = decide (s = t) := by
  by_cases h : s = t
  · subst h
    simp [kS, Lit.sameKey]
  · have := kS_ne h
    simp only [kS, ne_eq, Lit.string.injEq] at this
    simp only [kS, Lit.sameKey]
    rw [decide_eq_false h]
    simpa using this

/-- What a walk over the map has met, and what is still to come. -/
structure Met (l : List MEntry) (left : Lit → Bool) (o : List MEntry) : Prop where
  sub : ∀ e, e ∈ o → e ∈ l
  once : o.Pairwise (fun x y => x.fName ≠ y.fName)
  rest : ∀ e, e ∈ l → (left (kS e.fName) = true ↔ ∀ x, x ∈ o → x.fName ≠ e.fName)

theorem Met.start {D : DataW Unit} {l : List MEntry} (h : MapIs D l) : Met l (Maps.has D) [] :=
  ⟨(fun e he => by cases he), List.Pairwise.nil, fun e he => ⟨(fun _ x hx => by cases hx), fun _ => (h.2.1 _).2 (hasName_iff.2 ⟨e, he, rfl⟩)⟩⟩

theorem Met.step {l o : List MEntry} {left : Lit → Bool} (h : Met l left o) (hr : Rise l) {e : MEntry} (he : e ∈ l) (hl : left (kS e.fName) = true) : Met l (fun z => left z && !z.sameKey (kS e.fName)) (o ++ [e]) := by
  refine ⟨fun x hx => ?_, ?_, fun x hx => ?_⟩
  · rcases List.mem_append.1 hx with hx | hx
    · exact h.sub x hx
    · simp at hx; subst hx; exact he
  · rw [List.pairwise_append]
    refine ⟨h.once, by simp, fun x hx y hy => ?_⟩
    simp at hy
    subst hy
    exact (h.rest y he).1 hl x hx
  · rw [kS_same, Bool.and_eq_true, h.rest x hx]
    constructor
    · rintro ⟨h1, h2⟩ y hy
      rcases List.mem_append.1 hy with hy | hy
      · exact h1 y hy
      · simp at hy; subst hy
        intro hh
        simp [hh] at h2
    · intro h1
      refine ⟨fun y hy => h1 y (by simp [hy]), ?_⟩
      have := h1 e (by simp)
      simp [Ne.symm this]

/-- All has come: a permutation. -/
theorem Met.perm {l o : List MEntry} {left : Lit → Bool} (h : Met l left o) (hr : Rise l) (hl : ∀ k, left k = false) : o.Perm l := by
  have hall : ∀ e, e ∈ l → e ∈ o := by
    intro e he
    have h1 := h.rest e he
    rw [hl] at h1
    by_cases hx : ∃ x, x ∈ o ∧ x.fName = e.fName
    · obtain ⟨x, hx, hn⟩ := hx
      have hxl := h.sub x hx
      obtain ⟨i, hi, rfl⟩ := List.mem_iff_getElem.1 hxl
      obtain ⟨j, hj, rfl⟩ := List.mem_iff_getElem.1 he
      have := names_once hr hi hj hn
      subst this
      exact hx
    · exfalso
      have := h1.2 (fun x hx2 hn => hx ⟨x, hx2, hn⟩)
      cases this
  have n1 : o.Nodup := h.once.imp (fun hne he => hne (by rw [he]))
  have n2 : l.Nodup := hr.imp (fun hlt he => by rw [he, strLt_irrefl] at hlt; cases hlt)
  exact (List.perm_ext_iff_of_nodup n1 n2).2 (fun e => ⟨h.sub e, hall e⟩)

theorem rise_unique : ∀ {l k : List MEntry}, l.Perm k → Rise l → Rise k → l = k := by
  intro l k hp h1 h2
  refine List.Perm.eq_of_pairwise (le := fun (x y : MEntry) => strLt x.fName y.fName = true) ?_ h1 h2 hp
  intro a b _ _ hab hba
  have hab : strLt a.fName b.fName = true := hab
  have hba : strLt b.fName a.fName = true := hba
  rw [strLt_asymm hab] at hba
  cases hba

end Go.Proofs.Ytmbobjhplkpfoaa

namespace Go.Proofs.Ytmbobjhplkpfoaa
open Go.RowKit

/-- An inode changed in its place. -/
def updI (l : List MInode) (k : Nat) (f : MInode → MInode) : List MInode := match l[k]? with | some n => l.set k (f n) | none => l
theorem updI_at {l : List MInode} {k : Nat} {f : MInode → MInode} (h : k < l.length) : updI l k f = l.set k (f l[k]) := by unfold updI; rw [List.getElem?_eq_getElem h]
theorem updI_length {l : List MInode} {k : Nat} {f : MInode → MInode} : (updI l k f).length = l.length := by unfold updI; split <;> simp
theorem updI_mem {l : List MInode} {k : Nat} {f : MInode → MInode} {n : MInode} (h : n ∈ updI l k f) : n ∈ l ∨ ∃ x, x ∈ l ∧ n = f x := by
  unfold updI at h
  split at h
  · next x hx =>
    rcases List.mem_or_eq_of_mem_set h with h | h
    · exact .inl h
    · exact .inr ⟨x, List.mem_of_getElem? hx, h⟩
  · exact .inl h

def fileAt (m : MDisk) (s : ByteArray) : Nat := placeOf m.fInodes (idOf m.fNames s)

theorem call_good {m : MDisk} {s : ByteArray} (h : callP m s = 0) : diskOk m = true ∧ nameOk s = true ∧ hasName m.fNames s = true := by
  unfold callP at h
  by_cases h1 : (diskOk m && nameOk s) = true
  · rw [if_pos h1] at h
    rw [Bool.and_eq_true] at h1
    by_cases h2 : hasName m.fNames s = true
    · exact ⟨h1.1, h1.2, h2⟩
    · rw [if_neg h2] at h; cases h
  · rw [if_neg h1] at h; cases h
theorem call_none {m : MDisk} {s : ByteArray} (h : callP m s = 2) : diskOk m = true ∧ nameOk s = true ∧ hasName m.fNames s = false := by
  unfold callP at h
  by_cases h1 : (diskOk m && nameOk s) = true
  · rw [if_pos h1] at h
    rw [Bool.and_eq_true] at h1
    by_cases h2 : hasName m.fNames s = true
    · rw [if_pos h2] at h; cases h
    · exact ⟨h1.1, h1.2, Bool.eq_false_iff.2 h2⟩
  · rw [if_neg h1] at h; cases h
/-- Where the file that a call names stands. -/
theorem file_at {m : MDisk} {s : ByteArray} (h : callP m s = 0) : ∃ hk : fileAt m s < m.fInodes.length, m.fInodes[fileAt m s].fId = idOf m.fNames s := by
  obtain ⟨h1, _, h2⟩ := call_good h
  obtain ⟨_, _, h3⟩ := file_there h1 h2
  exact hasId_at h3

theorem ids_once {l : List MInode} (h : l.Pairwise fun x y => x.fId < y.fId) {i j : Nat} (hi : i < l.length) (hj : j < l.length) (he : l[i].fId = l[j].fId) : i = j := by
  rcases Nat.lt_trichotomy i j with hlt | rfl | hlt
  · have := List.pairwise_iff_getElem.1 h i j hi hj hlt; omega
  · rfl
  · have := List.pairwise_iff_getElem.1 h j i hj hi hlt; omega

/-- The place that holds the file's id is its place. -/
theorem file_only {m : MDisk} {s : ByteArray} (h : callP m s = 0) {p : Nat} (hp : p < m.fInodes.length) (he : m.fInodes[p].fId = idOf m.fNames s) : p = fileAt m s := by
  obtain ⟨hk, hid⟩ := file_at h
  exact ids_once (diskOk_iff.1 (call_good h).1).rise hp hk (he.trans hid.symm)

def sureI (n : MInode) : MInode := { n with fSure := n.fData.length }
def syncP (m : MDisk) (s : ByteArray) : MDisk := if callP m s = 0 then { m with fInodes := updI m.fInodes (fileAt m s) sureI } else m

def syncDirP (m : MDisk) : MDisk := if diskOk m then keepD { m with fSafe := m.fNames } else m
def syncDirC (m : MDisk) : Int := if diskOk m then 0 else 1
theorem syncDir_ok {m : MDisk} (h : diskOk m = true) : diskOk (keepD { m with fSafe := m.fNames }) = true := by
  have hr := diskOk_iff.1 h
  exact diskOk_iff.2 (keep_ok (N := m.fNames) (S := m.fNames) hr hr.few hr.few hr.names hr.names)

def longI (b : List Int) (n : MInode) : MInode := { n with fData := n.fData ++ b }
def appendD (m : MDisk) (s : ByteArray) (b : List Int) : MDisk := { m with fInodes := updI m.fInodes (fileAt m s) (longI b) }
def appendP (m : MDisk) (s : ByteArray) (b : List Int) : MDisk := if callP m s = 0 ∧ diskOk (appendD m s b) = true then appendD m s b else m
def appendC (m : MDisk) (s : ByteArray) (b : List Int) : Int := if callP m s = 0 then (if diskOk (appendD m s b) then 0 else 4) else callP m s
theorem append_keep {m : MDisk} {s : ByteArray} {b : List Int} (h : callP m s = 0) : keepD (appendD m s b) = appendD m s b := by
  have hr := diskOk_iff.1 (call_good h).1
  unfold keepD
  rw [keepI_all]
  intro n hn
  rcases updI_mem (show n ∈ updI m.fInodes (fileAt m s) (longI b) from hn) with hn | ⟨x, hx, rfl⟩
  · exact hr.all n hn
  · exact hr.all x hx

def removeD (m : MDisk) (s : ByteArray) : MDisk := keepD { m with fNames := without m.fNames s }
def removeP (m : MDisk) (s : ByteArray) : MDisk := if callP m s = 0 then removeD m s else m
theorem remove_ok {m : MDisk} {s : ByteArray} (h : diskOk m = true) : diskOk (removeD m s) = true := by
  have hr := diskOk_iff.1 h
  exact diskOk_iff.2 (keep_ok (N := without m.fNames s) (S := m.fSafe) hr (Nat.le_trans (List.length_filter_le _ _) hr.few) hr.few' (hr.names.sub List.filter_sublist) hr.safe)

def renameN (m : MDisk) (s t : ByteArray) : List MEntry := withE (without m.fNames s) ⟨t, idOf m.fNames s⟩
def renameD (m : MDisk) (s t : ByteArray) : MDisk := keepD { m with fNames := renameN m s t }
def renameC (m : MDisk) (s t : ByteArray) : Int := if nameOk t then callP m s else 1
def renameP (m : MDisk) (s t : ByteArray) : MDisk := if renameC m s t = 0 then renameD m s t else m

theorem entry_of {m : MDisk} {s : ByteArray} (h : hasName m.fNames s = true) : ⟨s, idOf m.fNames s⟩ ∈ m.fNames := by
  obtain ⟨hk, hn⟩ := hasName_at h
  have : idOf m.fNames s = m.fNames[nameAt m.fNames s].fId := by unfold idOf; rw [List.getElem?_eq_getElem hk]; rfl
  rw [this]
  have e : (⟨s, m.fNames[nameAt m.fNames s].fId⟩ : MEntry) = m.fNames[nameAt m.fNames s] := by
    cases hx : m.fNames[nameAt m.fNames s] with
    | mk a b => rw [hx] at hn; simp at hn; subst hn; rfl
  rw [e]
  exact List.getElem_mem hk

theorem ids_once' {ins : List MInode} {l : List MEntry} (h : EntOk ins l) {x y : MEntry} (hx : x ∈ l) (hy : y ∈ l) (he : x.fId = y.fId) : x = y := by
  obtain ⟨i, hi, rfl⟩ := List.mem_iff_getElem.1 hx
  obtain ⟨j, hj, rfl⟩ := List.mem_iff_getElem.1 hy
  rcases Nat.lt_trichotomy i j with hlt | rfl | hlt
  · exact absurd he (List.pairwise_iff_getElem.1 h.2 i j hi hj hlt).2
  · rfl
  · exact absurd he.symm (List.pairwise_iff_getElem.1 h.2 j i hj hi hlt).2
theorem names_once' {l : List MEntry} (h : Rise l) {x y : MEntry} (hx : x ∈ l) (hy : y ∈ l) (he : x.fName = y.fName) : x = y := by
  obtain ⟨i, hi, rfl⟩ := List.mem_iff_getElem.1 hx
  obtain ⟨j, hj, rfl⟩ := List.mem_iff_getElem.1 hy
  have := names_once h hi hj he
  subst this
  rfl

theorem without_length {l : List MEntry} {s : ByteArray} (h : hasName l s = true) : (without l s).length < l.length := by
  obtain ⟨e, he, hs⟩ := hasName_iff.1 h
  unfold without
  rcases Nat.lt_or_ge (l.filter fun e => decide (e.fName ≠ s)).length l.length with h1 | h1
  · exact h1
  · have h2 := List.length_filter_eq_length_iff.1 (Nat.le_antisymm (List.length_filter_le _ _) h1) e he
    simp [hs] at h2

theorem renameN_ok {m : MDisk} {s t : ByteArray} (hr : DiskR m) (hn : hasName m.fNames s = true) (ht : nameOk t = true) : EntOk m.fInodes (renameN m s t) ∧ (renameN m s t).length ≤ 30 := by
  have hmem := entry_of hn
  have hw : EntOk m.fInodes (without m.fNames s) := hr.names.sub List.filter_sublist
  refine ⟨EntOk.withE hw (hr.names.1 _ hmem).1 ht ?_, ?_⟩
  · intro x hx hid
    have hx' := List.mem_filter.1 (show x ∈ m.fNames.filter _ from hx)
    have := ids_once' hr.names hx'.1 hmem hid
    rw [this] at hx'
    simp at hx'
  · have h1 := withE_length (l := without m.fNames s) (e := ⟨t, idOf m.fNames s⟩)
    have h2 := without_length hn
    have h3 := hr.few
    unfold renameN
    omega

theorem rename_ok {m : MDisk} {s t : ByteArray} (h : callP m s = 0) (ht : nameOk t = true) : diskOk (renameD m s t) = true := by
  obtain ⟨h1, _, h2⟩ := call_good h
  have hr := diskOk_iff.1 h1
  have h3 := renameN_ok hr h2 ht
  exact diskOk_iff.2 (keep_ok (N := renameN m s t) (S := m.fSafe) hr h3.2 hr.few' h3.1 hr.safe)

theorem keepD_self {m : MDisk} (h : diskOk m = true) : keepD m = m := by
  unfold keepD
  rw [keepI_all (diskOk_iff.1 h).all]

/-- A file that is renamed to its own name. -/
theorem rename_self {m : MDisk} {s : ByteArray} (h : callP m s = 0) : renameD m s s = m := by
  obtain ⟨h1, hs, h2⟩ := call_good h
  have hr := diskOk_iff.1 h1
  have h3 := renameN_ok hr h2 hs
  have hmem := entry_of h2
  have : renameN m s s = m.fNames := by
    have n1 : (renameN m s s).Nodup := h3.1.rise.imp (fun hlt he => by rw [he, strLt_irrefl] at hlt; cases hlt)
    have n2 : m.fNames.Nodup := hr.names.rise.imp (fun hlt he => by rw [he, strLt_irrefl] at hlt; cases hlt)
    refine rise_unique ((List.perm_ext_iff_of_nodup n1 n2).2 fun e => ?_) h3.1.rise hr.names.rise
    unfold renameN
    rw [mem_withE]
    unfold without
    rw [List.mem_filter]
    constructor
    · rintro (rfl | ⟨⟨h4, _⟩, _⟩)
      · exact hmem
      · exact h4
    · intro he
      by_cases hes : e.fName = s
      · left
        exact names_once' hr.names.rise he hmem hes
      · right
        exact ⟨⟨he, by simpa using hes⟩, hes⟩
  unfold renameD
  rw [this]
  exact keepD_self h1

def newI (m : MDisk) : MInode := ⟨m.fNext, [], 0⟩
def createD (m : MDisk) (s : ByteArray) : MDisk := { m with fInodes := m.fInodes ++ [newI m], fNames := withE m.fNames ⟨s, m.fNext⟩, fNext := m.fNext + 1 }
def createC (m : MDisk) (s : ByteArray) : Int := if callP m s = 2 then (if diskOk (createD m s) then 0 else 4) else if callP m s = 0 then 3 else 1
def createP (m : MDisk) (s : ByteArray) : MDisk := if callP m s = 2 ∧ diskOk (createD m s) = true then createD m s else m

theorem create_named {m : MDisk} {s : ByteArray} (h : callP m s = 2) : ∀ n, n ∈ m.fInodes → isNamed { m with fNames := withE m.fNames ⟨s, m.fNext⟩ } n = true := by
  obtain ⟨h1, _, h2⟩ := call_none h
  have hr := diskOk_iff.1 h1
  intro n hn
  have h3 := isNamed_iff.1 (hr.all n hn)
  rw [isNamed_iff]
  rw [List.mem_append] at h3 ⊢
  rcases h3 with h3 | h3
  · left
    obtain ⟨e, he, hid⟩ := List.mem_map.1 h3
    refine List.mem_map.2 ⟨e, mem_withE.2 (.inr ⟨he, fun hh => ?_⟩), hid⟩
    have : hasName m.fNames s = true := hasName_iff.2 ⟨e, he, hh⟩
    rw [h2] at this
    cases this
  · exact .inr h3

theorem create_keep {m : MDisk} {s : ByteArray} (h : callP m s = 2) : keepD (createD m s) = createD m s := by
  unfold keepD
  rw [keepI_all]
  intro n hn
  rcases List.mem_append.1 (show n ∈ m.fInodes ++ [newI m] from hn) with hn | hn
  · exact create_named h n hn
  · simp at hn
    subst hn
    rw [isNamed_iff]
    exact List.mem_append_left _ (List.mem_map.2 ⟨⟨s, m.fNext⟩, mem_withE.2 (.inl rfl), rfl⟩)

/-- What a crash leaves of a file. -/
def cutI (k : Int) (n : MInode) : MInode := { n with fData := n.fData.take (n.fSure + min k (n.fData.length - n.fSure)).toNat, fSure := n.fSure + min k (n.fData.length - n.fSure) }
def fallP (m : MDisk) (k : Int) : MDisk := if diskOk m = true ∧ 0 ≤ k then { m with fNames := m.fSafe, fInodes := (keepI { m with fNames := m.fSafe }).map (cutI k) } else m

theorem cutI_length {k : Int} {n : MInode} (h : 0 ≤ k) (h1 : 0 ≤ n.fSure) (h2 : n.fSure ≤ n.fData.length) : ((cutI k n).fData.length : Int) = (cutI k n).fSure := by
  unfold cutI
  simp only [List.length_take]
  omega

/-! What they weigh. -/
theorem wDisk_eq (m : MDisk) : wDisk m = (m.fInodes.length + sumW wInode m.fInodes) + (m.fNames.length + sumW wEntry m.fNames) + (m.fSafe.length + sumW wEntry m.fSafe) := rfl
theorem sumW_append {α : Type} {f : α → Nat} : ∀ {l k : List α}, sumW f (l ++ k) = sumW f l + sumW f k
  | [], k => by simp [sumW]
  | x :: r, k => by simp only [List.cons_append, sumW, sumW_append]; omega
theorem sumW_set {l : List MInode} {k : Nat} {n : MInode} (h : k < l.length) : sumW wInode (l.set k n) + wInode l[k] = sumW wInode l + wInode n := by
  induction l generalizing k with
  | nil => simp at h
  | cons x r ih =>
    cases k with
    | zero => simp [sumW]; omega
    | succ k => simp only [List.set_cons_succ, sumW, List.getElem_cons_succ]; have := ih (k := k) (by simpa using h); omega
theorem sumW_updI {l : List MInode} {k : Nat} {f : MInode → MInode} {c : Nat} (h : ∀ n, wInode (f n) ≤ wInode n + c) : sumW wInode (updI l k f) ≤ sumW wInode l + c := by
  by_cases hk : k < l.length
  · rw [updI_at hk]
    have := sumW_set (l := l) (n := f l[k]) hk
    have := h l[k]
    omega
  · unfold updI
    rw [List.getElem?_eq_none (by omega)]
    simp
theorem keepD_weight (m : MDisk) : wDisk (keepD m) ≤ wDisk m := by
  have hs : (keepI m).Sublist m.fInodes := List.filter_sublist
  have h1 := sumW_sublist (f := wInode) hs
  have h2 := hs.length_le
  rw [wDisk_eq, wDisk_eq]
  show (keepI m).length + sumW wInode (keepI m) + _ + _ ≤ _
  show (keepI m).length + sumW wInode (keepI m) + (m.fNames.length + sumW wEntry m.fNames) + (m.fSafe.length + sumW wEntry m.fSafe) ≤ _
  omega
theorem sumW_withE {l : List MEntry} {e : MEntry} : sumW wEntry (withE l e) ≤ sumW wEntry l + sumW wEntry l + wEntry e := by
  unfold withE
  rw [sumW_append]
  simp only [sumW]
  have h1 := sumW_sublist (f := wEntry) (List.filter_sublist (l := l) (p := fun x => strLt x.fName e.fName))
  have h2 := sumW_sublist (f := wEntry) (List.filter_sublist (l := l) (p := fun x => strLt e.fName x.fName))
  omega

theorem sumW_map_le {f : MInode → MInode} (h : ∀ n, wInode (f n) ≤ wInode n) : ∀ l : List MInode, sumW wInode (l.map f) ≤ sumW wInode l
  | [] => Nat.le_refl _
  | x :: r => by simp only [List.map_cons, sumW]; have := h x; have := sumW_map_le h r; omega

theorem sumW_names {l : List MEntry} (h : ∀ e, e ∈ l → nameOk e.fName = true) : sumW wEntry l ≤ 12 * l.length := by
  induction l with
  | nil => simp [sumW]
  | cons x r ih =>
    have h1 := ih (fun e he => h e (by simp [he]))
    have h2 := h x (by simp)
    unfold nameOk at h2
    rw [Bool.and_eq_true] at h2
    have h3 := (of_decide_eq_true h2.1).2
    have h4 : wEntry x = x.fName.size := rfl
    simp only [sumW, List.length_cons]
    omega

theorem ok_weight {m : MDisk} (h : diskOk m = true) : m.fInodes.length ≤ 60 ∧ sumW wInode m.fInodes ≤ 60000 ∧ m.fNames.length ≤ 30 ∧ sumW wEntry m.fNames ≤ 360 ∧ m.fSafe.length ≤ 30 ∧ sumW wEntry m.fSafe ≤ 360 := by
  have hr := diskOk_iff.1 h
  have h1 := named_fit (d := m) (diskOk_parts h).1 (List.all_eq_true.2 hr.all)
  have h2 := sumW_names (fun e he => (hr.names.1 e he).2)
  have h3 := sumW_names (fun e he => (hr.safe.1 e he).2)
  have h4 := hr.few
  have h5 := hr.few'
  have h6 := hr.size
  omega


theorem ok_small {m : MDisk} (h : diskOk m = true) : wDisk m ≤ 1048576 := by
  have := ok_weight h
  rw [wDisk_eq]
  omega
theorem small_remove {m : MDisk} {s : ByteArray} (h : wDisk m ≤ 1048576) : wDisk (removeP m s) ≤ 1048576 := by
  unfold removeP
  split
  · rename_i hc
    exact ok_small (remove_ok (call_good hc).1)
  · exact h
theorem small_rename {m : MDisk} {s t : ByteArray} (h : wDisk m ≤ 1048576) : wDisk (renameP m s t) ≤ 1048576 := by
  unfold renameP
  split
  · rename_i hc
    unfold renameC at hc
    split at hc
    · rename_i ht
      exact ok_small (rename_ok hc ht)
    · cases hc
  · exact h
/-- The disk behind so many steps, and their last code: the steps are Create, Append, Sync, Rename, SyncDir. -/
def swD (m : MDisk) (t : ByteArray) (b : List Int) (s : ByteArray) : Nat → MDisk
  | 0 => m
  | 1 => createP m t
  | 2 => appendP (createP m t) t b
  | 3 => syncP (appendP (createP m t) t b) t
  | 4 => renameP (syncP (appendP (createP m t) t b) t) t s
  | _ => syncDirP (renameP (syncP (appendP (createP m t) t b) t) t s)
def swC (m : MDisk) (t : ByteArray) (b : List Int) (s : ByteArray) : Nat → Int
  | 0 => createC m t
  | 1 => appendC (createP m t) t b
  | 2 => callP (appendP (createP m t) t b) t
  | 3 => renameC (syncP (appendP (createP m t) t b) t) t s
  | _ => syncDirC (renameP (syncP (appendP (createP m t) t b) t) t s)
/-- The steps from k on: at the first code that is not 0 they end. -/
def swR (m : MDisk) (t : ByteArray) (b : List Int) (s : ByteArray) : Nat → Nat → MDisk × Int
  | 0, k => (swD m t b s k, 0)
  | f + 1, k => if swC m t b s k = 0 then swR m t b s f (k + 1) else (swD m t b s (k + 1), swC m t b s k)
/-- The file that is switched: what was there under the other name is removed first. -/
def switchP (m : MDisk) (t : ByteArray) (b : List Int) (s : ByteArray) : MDisk × Int := swR (removeP m t) t b s 5 0
/-- What is to come, at step k. -/
def SwAt (m : MDisk) (t : ByteArray) (b : List Int) (s : ByteArray) (k : Nat) : Prop := switchP m t b s = swR (removeP m t) t b s (5 - k) k
theorem SwAt.start (m : MDisk) (t : ByteArray) (b : List Int) (s : ByteArray) : SwAt m t b s 0 := rfl
theorem SwAt.on {m : MDisk} {t : ByteArray} {b : List Int} {s : ByteArray} {k : Nat} (h : SwAt m t b s k) (hk : k < 5) (hc : swC (removeP m t) t b s k = 0) : SwAt m t b s (k + 1) := by
  unfold SwAt at h ⊢
  obtain ⟨f, hf⟩ : ∃ f, 5 - k = f + 1 := ⟨4 - k, by omega⟩
  rw [h, hf, swR, if_pos hc]
  congr 1
  omega
theorem SwAt.out {m : MDisk} {t : ByteArray} {b : List Int} {s : ByteArray} {k : Nat} (h : SwAt m t b s k) (hk : k < 5) (hc : swC (removeP m t) t b s k ≠ 0) : switchP m t b s = (swD (removeP m t) t b s (k + 1), swC (removeP m t) t b s k) := by
  unfold SwAt at h
  obtain ⟨f, hf⟩ : ∃ f, 5 - k = f + 1 := ⟨4 - k, by omega⟩
  rw [h, hf, swR, if_neg hc]
theorem SwAt.done {m : MDisk} {t : ByteArray} {b : List Int} {s : ByteArray} (h : SwAt m t b s 5) : switchP m t b s = (swD (removeP m t) t b s 5, 0) := h

theorem idOf_eq {m : MDisk} {e : MEntry} (h : Rise m.fNames) (he : e ∈ m.fNames) : idOf m.fNames e.fName = e.fId := by
  have h1 : hasName m.fNames e.fName = true := hasName_iff.2 ⟨e, he, rfl⟩
  have h2 := entry_of h1
  have h3 := names_once' h h2 he rfl
  rw [← h3]
theorem data_eq {m : MDisk} {s : ByteArray} (h : callP m s = 0) {x : MInode} (hx : x ∈ m.fInodes) (he : x.fId = idOf m.fNames s) : dataOf m s = x.fData := by
  obtain ⟨p, hp, rfl⟩ := List.mem_iff_getElem.1 hx
  have h1 := file_only h hp he
  unfold dataOf
  have h2 : placeOf m.fInodes (idOf m.fNames s) = p := by rw [h1]; rfl
  rw [h2, List.getElem?_eq_getElem hp]
  rfl
theorem data_has {m : MDisk} {s : ByteArray} (h : callP m s = 0) : ∃ x, x ∈ m.fInodes ∧ x.fId = idOf m.fNames s ∧ dataOf m s = x.fData := by
  obtain ⟨hk, hid⟩ := file_at h
  exact ⟨_, List.getElem_mem hk, hid, data_eq h (List.getElem_mem hk) hid⟩
section
variable {m : MDisk} {s t : ByteArray}
theorem rename_code (hc : renameC m s t = 0) : callP m s = 0 ∧ nameOk t = true := by
  unfold renameC at hc
  split at hc
  · rename_i ht
    exact ⟨hc, ht⟩
  · cases hc
theorem rename_is (hc : renameC m s t = 0) : renameP m s t = renameD m s t := by unfold renameP; rw [if_pos hc]
theorem rename_to (hc : renameC m s t = 0) : callP (renameP m s t) t = 0 := by
  obtain ⟨h1, h2⟩ := rename_code hc
  rw [rename_is hc]
  have h3 := rename_ok h1 h2
  have h4 : hasName (renameD m s t).fNames t = true := hasName_iff.2 ⟨⟨t, idOf m.fNames s⟩, by show _ ∈ renameN m s t; unfold renameN; exact mem_withE.2 (.inl rfl), rfl⟩
  unfold callP
  rw [h3, h2, h4]
  rfl
theorem rename_data (hc : renameC m s t = 0) : dataOf (renameP m s t) t = dataOf m s := by
  have h0 := rename_to hc
  obtain ⟨h1, h2⟩ := rename_code hc
  obtain ⟨x, hx, hid, hd⟩ := data_has h1
  rw [hd]
  refine data_eq h0 ?_ ?_
  · rw [rename_is hc]
    show x ∈ keepI { m with fNames := renameN m s t }
    refine List.mem_filter.2 ⟨hx, isNamed_iff.2 ?_⟩
    refine List.mem_append.2 (.inl (List.mem_map.2 ⟨⟨t, idOf m.fNames s⟩, ?_, hid.symm⟩))
    show _ ∈ renameN m s t
    unfold renameN
    exact mem_withE.2 (.inl rfl)
  · have hr := diskOk_iff.1 (call_good h0).1
    have he : (⟨t, idOf m.fNames s⟩ : MEntry) ∈ (renameP m s t).fNames := by
      rw [rename_is hc]
      show _ ∈ renameN m s t
      unfold renameN
      exact mem_withE.2 (.inl rfl)
    have := idOf_eq hr.names.rise he
    rw [hid]
    exact this.symm
theorem rename_from (hc : renameC m s t = 0) (hne : s ≠ t) : callP (renameP m s t) s = 2 := by
  obtain ⟨h1, h2⟩ := rename_code hc
  obtain ⟨_, hs, _⟩ := call_good h1
  rw [rename_is hc]
  have h3 := rename_ok h1 h2
  have h4 : hasName (renameD m s t).fNames s = false := by
    rw [Bool.eq_false_iff]
    intro hh
    obtain ⟨e, he, hen⟩ := hasName_iff.1 hh
    have he2 : e ∈ withE (without m.fNames s) ⟨t, idOf m.fNames s⟩ := he
    rcases mem_withE.1 he2 with rfl | ⟨h5, _⟩
    · exact hne hen.symm
    · have := (List.mem_filter.1 h5).2
      simp [hen] at this
  unfold callP
  rw [h3, hs, h4]
  rfl
theorem removed_gone (hc : callP m t = 0) : callP (removeP m t) t = 2 := by
  obtain ⟨h1, h2, _⟩ := call_good hc
  unfold removeP
  rw [if_pos hc]
  have h3 := remove_ok (s := t) h1
  have h4 : hasName (removeD m t).fNames t = false := by
    rw [Bool.eq_false_iff]
    intro hh
    obtain ⟨e, he, hen⟩ := hasName_iff.1 hh
    have he2 : e ∈ without m.fNames t := he
    have := (List.mem_filter.1 he2).2
    simp [hen] at this
  unfold callP
  rw [h3, h2, h4]
  rfl
theorem fall_names {k : Int} (h : diskOk m = true) (hk : 0 ≤ k) : (fallP m k).fNames = m.fSafe := by
  unfold fallP
  rw [if_pos ⟨h, hk⟩]
theorem remove_safe : (removeP m t).fSafe = m.fSafe := by
  unfold removeP
  split <;> rfl
theorem rename_safe : (renameP m s t).fSafe = m.fSafe := by
  unfold renameP
  split <;> rfl
theorem names_back (hc : renameC m s t = 0) : (fallP (removeP (renameP m s t) t) 0).fNames = (fallP m 0).fNames := by
  obtain ⟨h1, h2⟩ := rename_code hc
  have h3 := rename_to hc
  have h4 : diskOk (removeP (renameP m s t) t) = true := by
    unfold removeP
    rw [if_pos h3]
    exact remove_ok (call_good h3).1
  rw [fall_names h4 (by omega), fall_names (call_good h1).1 (by omega), remove_safe, rename_safe]
theorem rename_no (hc : renameC m s t ≠ 0) : renameP m s t = m := by unfold renameP; rw [if_neg hc]
end

end Go.Proofs.Ytmbobjhplkpfoaa

namespace Go.Proofs.Ytmbobjhplkpfoaa
open Go.RowKit

theorem Try.info5 : (Try.prog.info? 5).map (fun i => (i.zero, i.size, i.bytes)) = some (some (.int .u8 0), 1, 1) := by kernel_rfl


/-- A cursor over the code lies alone in block g. -/
def Cur (w : World) (g : Nat) (sv : Value) (n : Nat) : Prop :=
  ∃ i h : Int, 0 ≤ i ∧ i ≤ n ∧ w.heap[g]? = some (.cells #[sv, .int .i64 i, .int .i64 h] 76 (0, 0))

theorem and255_i64 (n : Int) : bits .and .i64 n 255 = n % 256 := by
  have h1 : (BitVec.ofInt 64 255).toNat = 2 ^ 8 - 1 := by decide
  have key : (BitVec.ofInt 64 n &&& BitVec.ofInt 64 255).toNat = (n % ((2 ^ 64 : Nat) : Int)).toNat % 2 ^ 8 := by
    rw [BitVec.toNat_and, BitVec.toNat_ofInt, h1, Nat.and_two_pow_sub_one_eq_mod]
  show IntKind.i64.wrap ((BitVec.ofInt 64 n &&& BitVec.ofInt 64 255).toNat : Nat) = n % 256
  rw [key, IntKind.wrap_i64]
  omega

theorem row_set {w : World} {g j : Nat} {cs : Array Value} {e : TypeId} (h : w.heap[g]? = some (.cells cs e (0, 0))) (u : Value) :
    (w.setCell ⟨g, j, none⟩ u).heap[g]? = some (.cells (cs.setIfInBounds j u) e (0, 0)) ∧ w.grownBy (w.setCell ⟨g, j, none⟩ u) (some g) :=
  ⟨heap_setCell_same w g j cs e u h, ⟨rfl, rfl, rfl, by simp, fun k _ hk => heap_setCell_other w ⟨g, j, none⟩ k u (fun e => hk (by simp [e]))⟩⟩

theorem emod_byte (x : Int) : 0 ≤ x % 256 ∧ x % 256 ≤ 255 := by omega

theorem grown_drewN {w w' : World} {r : Option Nat} (h : w.grownBy w' r) (d : Nat) : w.grownBy (w'.drewN d) r := ⟨h.os, h.tape, h.output, h.size, h.block⟩

theorem cur_step1 {w : World} {g n : Nat} {sv : Value} {i h : Int} (hg : w.heap[g]? = some (.cells #[sv, .int .i64 i, .int .i64 h] 76 (0, 0))) (h0 : 0 ≤ i) (h1 : i ≤ n) {h' : Int} (j k : Nat) :
    Cur (((w.setCell ⟨g, 2, none⟩ (.int .i64 h')).drewN j).drewN k) g sv n := ⟨i, h', h0, h1, (row_set (j := 2) hg _).1⟩

theorem cur_grown1 {w : World} {g : Nat} {cs : Array Value} {e : TypeId} (hg : w.heap[g]? = some (.cells cs e (0, 0))) {u : Value} (j k : Nat) :
    w.grownBy (((w.setCell ⟨g, 2, none⟩ u).drewN j).drewN k) (some g) := grown_drewN (grown_drewN (row_set (j := 2) hg u).2 j) k

theorem cur_step2 {w : World} {g n : Nat} {sv : Value} {i h : Int} (hg : w.heap[g]? = some (.cells #[sv, .int .i64 i, .int .i64 h] 76 (0, 0))) (h0 : 0 ≤ i) (h1 : i + 1 ≤ n) (h' : Int) (k : Nat) (i' : Int) (hi' : i' = i + 1) :
    Cur (((w.setCell ⟨g, 2, none⟩ (.int .i64 h')).drewN k).setCell ⟨g, 1, none⟩ (.int .i64 i')) g sv n := by
  subst hi'
  exact ⟨i + 1, h', by omega, h1, (row_set (w := (w.setCell ⟨g, 2, none⟩ (.int .i64 h')).drewN k) (j := 1) (row_set (j := 2) hg (.int .i64 h')).1 (.int .i64 (i + 1))).1⟩

theorem cur_grown2 {w : World} {g : Nat} {cs : Array Value} {e : TypeId} (hg : w.heap[g]? = some (.cells cs e (0, 0))) (u : Value) (k : Nat) (v : Value) :
    w.grownBy (((w.setCell ⟨g, 2, none⟩ u).drewN k).setCell ⟨g, 1, none⟩ v) (some g) :=
  grown_trans (grown_drewN (row_set (j := 2) hg u).2 k) (row_set (w := (w.setCell ⟨g, 2, none⟩ u).drewN k) (j := 1) (row_set (j := 2) hg u).1 v).2

set_option maxHeartbeats 800000 in
theorem l1Byte_any (g n cap B : Nat) (a : Option Addr) (zs : List Int) (w : World) (hx : zs.length = n) (hlen : n ≤ 140737488351232) (hr : Rd .u8 B w a zs) (hBg : B ≤ g) (hc : Cur w g (.slice a n cap) n) :
    Calls Try.prog 65 #[.pointer (some ⟨g, 0, none⟩)] w fun e w' => ∃ x : Int, e = .returned (.int .i64 x) ∧ (0 ≤ x ∧ x ≤ 255) ∧ Cur w' g (.slice a n cap) n ∧ w.grownBy w' (some g) := by
  obtain ⟨i, h, hi0, hin, hg⟩ := hc
  have HX : Hid (zs.length = n) := hx
  clear hx
  have c0 : w.cell? ⟨g, 0, none⟩ = some (.slice a n cap) := cell_of_row w g 0 _ _ _ hg
  have c1 : w.cell? ⟨g, 1, none⟩ = some (.int .i64 i) := cell_of_row w g 1 _ _ _ hg
  have c2 : w.cell? ⟨g, 2, none⟩ = some (.int .i64 h) := cell_of_row w g 2 _ _ _ hg
  have f1 : w.frozen? ⟨g, 1, none⟩ = false := frozen_of_row w g 1 _ _ hg
  have f2 : w.frozen? ⟨g, 2, none⟩ = false := frozen_of_row w g 2 _ _ hg
  by_cases hlt : i < n
  · obtain ⟨i, rfl⟩ := Int.eq_ofNat_of_zero_le hi0
    obtain ⟨b1, o1, rfl, hB, hcc⟩ := hr i (by rw [HX.out]; omega)
    have hne : b1 ≠ g := by omega
    have hand := and255_i64
    generalize zs.getD i 0 = c at hcc
    go_enter Try.func65, Try.ntmps65
    go_wp2
    go_quiet (fail)
    go_wp2
    go_quiet (fail)
    go_wp2
    go_quiet (fail)
    go_wp2
    go_ret
    exact ⟨_, rfl, emod_byte _, cur_step2 hg hi0 (by omega) _ _ _ rfl, (cur_grown2 hg _ _ _)⟩
  · have hand := and255_i64
    go_enter Try.func65, Try.ntmps65
    go_wp2
    go_quiet (fail)
    go_wp2
    go_quiet (fail)
    go_wp2
    go_ret
    exact ⟨_, rfl, emod_byte _, cur_step1 hg hi0 hin _ _, cur_grown1 hg _ _⟩


/-- A cursor at block g over bytes that lie below it. -/
def CurOk (w : World) (g : Nat) : Prop :=
  ∃ a n cap B, ∃ zs : List Int, zs.length = n ∧ n ≤ 140737488351232 ∧ B ≤ g ∧ Rd .u8 B w a zs ∧ Cur w g (.slice a n cap) n ∧ g < w.heap.size

theorem CurOk.lt {w : World} {g : Nat} (h : CurOk w g) : g < w.heap.size := by obtain ⟨_, _, _, _, _, _, _, _, _, _, h⟩ := h; exact h

theorem CurOk.grown {w w' : World} {g : Nat} {r : Option Nat} (h : CurOk w g) (hg : w.grownBy w' r) (hr : ∀ k, r = some k → g < k) : CurOk w' g := by
  obtain ⟨a, n, cap, B, zs, h1, h2, h3, h4, ⟨i, q, h5, h6, h7⟩, h8⟩ := h
  refine ⟨a, n, cap, B, zs, h1, h2, h3, h4.grown hg (fun k hk => by have := hr k hk; omega), ⟨i, q, h5, h6, ?_⟩, Nat.lt_of_lt_of_le h8 hg.size⟩
  rw [hg.block g h8 (fun e => by have := hr g e.symm; omega)]
  exact h7

theorem CurOk.below {w w' : World} {g : Nat} (h : CurOk w g) (hb : Below w.heap.size w w') : CurOk w' g := by
  obtain ⟨a, n, cap, B, zs, h1, h2, h3, h4, ⟨i, q, h5, h6, h7⟩, h8⟩ := h
  refine ⟨a, n, cap, B, zs, h1, h2, h3, h4.below (hb.mono (by omega)), ⟨i, q, h5, h6, ?_⟩, Nat.lt_of_lt_of_le h8 hb.size⟩
  rw [hb.block g h8]
  exact h7

theorem CurOk.drewN {w : World} {g : Nat} (h : CurOk w g) (d : Nat) : CurOk (w.drewN d) g := h

theorem l1Byte_ok {g : Nat} {w : World} (hc : CurOk w g) :
    Calls Try.prog 65 #[.pointer (some ⟨g, 0, none⟩)] w fun e w' => ∃ x : Int, e = .returned (.int .i64 x) ∧ (0 ≤ x ∧ x ≤ 255) ∧ CurOk w' g ∧ w.grownBy w' (some g) := by
  obtain ⟨a, n, cap, B, zs, h1, h2, h3, h4, h5, h8⟩ := hc
  refine (l1Byte_any g n cap B a zs w h1 h2 h4 h3 h5).mono ?_
  rintro e w' ⟨x, rfl, hx, hcur, hg⟩
  exact ⟨x, rfl, hx, ⟨a, n, cap, B, zs, h1, h2, h3, h4.grown hg (fun k hk => by simp at hk; omega), hcur, Nat.lt_of_lt_of_le h8 hg.size⟩, hg⟩

theorem emod_le {a b : Int} (ha : 0 ≤ a) (hb : 0 < b) : a % b ≤ a := by
  have h1 := Int.emod_add_mul_ediv a b
  have h2 := Int.mul_nonneg (show 0 ≤ b by omega) (Int.ediv_nonneg ha (show 0 ≤ b by omega))
  omega

set_option maxHeartbeats 400000 in
theorem l1Below_ok {g : Nat} {w : World} (q : Int) (hc : CurOk w g) :
    Calls Try.prog 47 #[.pointer (some ⟨g, 0, none⟩), .int .i64 q] w fun e w' => ∃ x : Int, e = .returned (.int .i64 x) ∧ (0 ≤ x ∧ x < 16777216 ∧ (0 < q → x < q) ∧ (q ≤ 0 → x = 0)) ∧ CurOk w' g ∧ w.grownBy w' (some g) := by
  by_cases h0 : q ≤ 0
  · go_enter Try.func47, Try.ntmps47
    go_wp2_with fail
    go_ret
    exact ⟨0, rfl, by omega, hc, World.grownBy.refl _ _⟩
  · by_cases h1 : q ≤ 256
    · go_enter Try.func47, Try.ntmps47
      go_wp2_with fail
      refine (l1Byte_ok hc).mono ?_
      rintro e w1 ⟨x, rfl, hx, hc1, hg1⟩
      have hq0 : (q == 0) = false := by simp; omega
      have hm := Int.emod_lt_of_pos x (show 0 < q by omega)
      have hm0 := Int.emod_nonneg x (show q ≠ 0 by omega)
      go_wp2_with fail
      go_ret
      exact ⟨_, rfl, by omega, hc1, hg1⟩
    · go_enter Try.func47, Try.ntmps47
      go_wp2_with fail
      refine (l1Byte_ok hc).mono ?_
      rintro e w1 ⟨x, rfl, hx, hc1, hg1⟩
      go_wp2_with fail
      refine (l1Byte_ok hc1).mono ?_
      rintro e w2 ⟨y, rfl, hy, hc2, hg2⟩
      go_wp2_with fail
      refine (l1Byte_ok hc2).mono ?_
      rintro e w3 ⟨z, rfl, hz, hc3, hg3⟩
      have hq0 : (q == 0) = false := by simp; omega
      have hm := Int.emod_lt_of_pos (x * 65536 + y * 256 + z) (show 0 < q by omega)
      have hm0 := Int.emod_nonneg (x * 65536 + y * 256 + z) (show q ≠ 0 by omega)
      have hm1 := emod_le (a := x * 65536 + y * 256 + z) (b := q) (by omega) (by omega)
      go_wp2_with fail
      go_ret
      exact ⟨_, rfl, by omega, hc3, grown_trans hg1 (grown_trans hg2 hg3)⟩


set_option maxHeartbeats 400000 in
theorem l1Int_ok {g : Nat} {w : World} (la : Option Addr) (m cap : Nat) (ns : List Int) (hc : CurOk w g) (hm : ns.length = m) (h0 : 0 < m) (hm2 : m ≤ 1000000) (B : Nat) (hr : Rd .i64 B w la ns) (hne : ∀ b o, la = some ⟨b, o, none⟩ → b ≠ g) :
    Calls Try.prog 55 #[.pointer (some ⟨g, 0, none⟩), .slice la m cap] w fun e w' => ∃ j : Nat, (j < m ∧ e = .returned (.int .i64 (ns.getD j 0))) ∧ CurOk w' g ∧ w.grownBy w' (some g) := by
  have HM : Hid (ns.length = m) := hm
  clear hm
  go_enter Try.func55, Try.ntmps55
  go_wp2_with fail
  refine (l1Below_ok _ hc).mono ?_
  rintro e w1 ⟨x, rfl, hx, hc1, hg1⟩
  obtain ⟨x, rfl⟩ := Int.eq_ofNat_of_zero_le hx.1
  have hxm : x < m := by omega
  obtain ⟨b1, o1, rfl, hB, hcell⟩ := hr x (by rw [HM.out]; exact hxm)
  have hcell1 : w1.cell? ⟨b1, o1 + x, none⟩ = some (.int .i64 (ns.getD x 0)) := hg1.cell hcell (by have := hne b1 o1 rfl; simpa using this)
  generalize hv : ns.getD x 0 = v at hcell1
  have HV := Hid.mk hv
  clear hv hcell hr hne hx
  go_wp2_with fail
  go_ret
  exact ⟨x, ⟨hxm, by rw [HV.out]; rfl⟩, hc1, hg1⟩

/-- Bytes that a draw made. -/
def Drawn (w w' : World) (v : Value) (g : Nat) (most : Nat) : Prop :=
  ∃ bs : List Int, bs.length ≤ most ∧ BytesOk bs ∧ w'.ownsRow w.heap.size 5 1 v bs.length (bs.map (Value.int .u8)) ∧ CurOk w' g ∧ w.grownBy w' (some g)

theorem own_not {w : World} {base e size n g : Nat} {v : Value} {xs : List Value} (h : w.ownsRow base e size v n xs) (hg : g < base) : v.ownBlock = none ∨ v.ownBlock ≠ some g := by
  cases e1 : v.ownBlock with
  | none => exact .inl rfl
  | some k =>
    right
    have := (h.lt k e1).1
    intro e2
    simp only [Option.some.injEq] at e2
    omega

set_option maxHeartbeats 400000 in
theorem l1Bytes_ok {g : Nat} {w : World} (q : Nat) (hc : CurOk w g) (hq : q ≤ 1000000) :
    Calls Try.prog 54 #[.pointer (some ⟨g, 0, none⟩), .int .i64 q] w fun e w' => ∃ v, e = .returned v ∧ Drawn w w' v g q := by
  obtain ⟨i0, hi, hz0, hz1, hz2⟩ := info_parts Try.info5
  have hgl := hc.lt
  have hc0 : CurOk (w.alloc (.cells #[] 5)) g := hc.below ((Below.refl _ _).alloc (Nat.le_refl _) _)
  have hg0 : w.grownBy (w.alloc (.cells #[] 5)) (some g) := World.grownBy_alloc w _ _
  have ho0 : (w.alloc (.cells #[] 5)).ownsRow w.heap.size 5 1 (.slice (some ⟨w.heap.size, 0, none⟩) 0 0) 0 [] := World.ownsRow_lit w #[] 0 (Nat.le_refl _) (by decide) rfl
  go_enter Try.func54, Try.ntmps54
  go_wp2_with fail
  go_loopw [5, 6] (fun o i wr => ∃ k : Nat, k ≤ q ∧ i = .int .i64 k ∧ ∃ bs : List Int, bs.length = k ∧ BytesOk bs ∧ wr.ownsRow w.heap.size 5 1 o k (bs.map (Value.int .u8)) ∧ CurOk wr g ∧ w.grownBy wr (some g)) (fun _ i _ => q - (intOf i).toNat)
  case atStart => exact ⟨0, Nat.zero_le _, rfl, [], rfl, fun z hz => (by cases hz), ho0, hc0, hg0⟩
  case round =>
    obtain ⟨k, hk, rfl, bs, hbl, hbo, hown, hck, hgk⟩ := hrel
    have HBL := Hid.mk hbl
    clear hbl hc0 hg0 ho0 hc
    by_cases hlt : k < q
    · go_wp2_with fail
      refine (l1Byte_ok hck).mono ?_
      rintro e w1 ⟨x, rfl, hx, hc1, hg1⟩
      have hown1 := hown.kept hg1 (own_not hown hgl)
      have hgk1 := grown_trans hgk hg1
      clear hown hck hgk hg1
      go_wp2_with (at_builtin; refine wpList_append_src _ rfl _ _ 22 22 rfl w.heap.size 5 i0 (.int .u8 0) 1 1 Try.underlying22 hi hz0 hz1 hz2 rfl _ _ _ rfl (hown1.alloc _) 1 [.int .u8 x] (Src.ofSlice _ Try.underlying22 ⟨_, 0, none⟩ 1 1 _ rfl (cell_one_new _ _ _) (oneInt _ _)) (by unfold maxLen; omega) (by omega) (by have := hgk1.size; simp; omega) ?_)
      intro v2 w2 hown2 hgr2
      have hc2 : CurOk w2 g := (hc1.below ((Below.refl _ _).alloc (Nat.le_refl _) _)).grown hgr2 (fun j hj => by have := (hown1.lt j hj).1; omega)
      have hg2 : w.grownBy w2 (some g) := (World.grownBy.andThen (World.grownBy.andThen hgk1 (World.grownBy_alloc w1 _ none) (fun j hj => by cases hj)) hgr2 (fun j hj => Or.inl (hown1.lt j hj).1))
      clear hgr2 hgk1 hown1 hc1
      go_wp2_with fail
      go_roundw
      case rel =>
        refine ⟨k + 1, by omega, by go_num, bs ++ [x], by simp [HBL.out], ?_, own_congr hown2 rfl (by simp), hc2, hg2⟩
        intro z hz
        rcases List.mem_append.1 hz with h | h
        · exact hbo z h
        · simp at h; omega
      case measure => simp [intOf]; omega
    · have hkq : k = q := by omega
      subst hkq
      go_wp2_with fail
      go_ret
      exact ⟨_, rfl, bs, by rw [HBL.out]; exact Nat.le_refl _, hbo, own_congr hown HBL.out.symm rfl, hck, hgk⟩

end Go.Proofs.Ytmbobjhplkpfoaa
