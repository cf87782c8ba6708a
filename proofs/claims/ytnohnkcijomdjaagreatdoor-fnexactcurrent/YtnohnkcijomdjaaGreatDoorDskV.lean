/-
  What calls make of a disk, as plain functions; no program is named here.
-/
import Derived.Test.YtnohnkcijomdjaaGreatDoorDskN
namespace Go.Proofs.YtnohnkcijomdjaaGreatDoor
open Go.RowKit
set_option linter.unusedVariables false
set_option linter.unusedSimpArgs false

theorem okE_iff {ins : List MInode} : ∀ {l : List MEntry} {seen : List Int} {prev : ByteArray}, okE ins seen prev l = true ↔
    ((∀ e, e ∈ l → hasId ins e.fId = true ∧ nameOk e.fName = true ∧ e.fId ∉ seen ∧ strLt prev e.fName = true) ∧ l.Pairwise (fun x y => strLt x.fName y.fName = true ∧ x.fId ≠ y.fId))
  | [], seen, prev => by simp [okE]
  | x :: r, seen, prev => by
    rw [okE, Bool.and_eq_true, okE_iff (l := r), List.pairwise_cons]
    unfold stepE
    simp only [Bool.and_eq_true, Bool.not_eq_true', List.contains_eq_mem, decide_eq_false_iff_not, List.mem_append, List.mem_singleton, not_or]
    constructor
    · rintro ⟨⟨⟨⟨h1, h2⟩, h3⟩, h4⟩, h5, h6⟩
      refine ⟨?_, fun e he => ⟨(h5 e he).2.2.2, fun hh => (h5 e he).2.2.1.2 hh.symm⟩, h6⟩
      intro e he
      rcases List.mem_cons.1 he with rfl | he
      · exact ⟨h1, h4, h2, h3⟩
      · exact ⟨(h5 e he).1, (h5 e he).2.1, (h5 e he).2.2.1.1, strLt_trans h3 (h5 e he).2.2.2⟩
    · rintro ⟨h1, h2, h3⟩
      have hx := h1 x (by simp)
      refine ⟨⟨⟨⟨hx.1, hx.2.2.1⟩, hx.2.2.2⟩, hx.2.1⟩, fun e he => ?_, h3⟩
      have h4 := h1 e (by simp [he])
      exact ⟨h4.1, h4.2.1, ⟨h4.2.2.1, fun hh => (h2 e he).2 hh.symm⟩, (h2 e he).1⟩

/-- A list of entries that is right over these inodes. -/
def EntOk (ins : List MInode) (l : List MEntry) : Prop :=
  (∀ e, e ∈ l → hasId ins e.fId = true ∧ nameOk e.fName = true) ∧ l.Pairwise (fun x y => strLt x.fName y.fName = true ∧ x.fId ≠ y.fId)

theorem okE_start {ins : List MInode} {l : List MEntry} : okE ins [] ByteArray.empty l = true ↔ EntOk ins l := by
  rw [okE_iff]
  unfold EntOk
  constructor
  · rintro ⟨h1, h2⟩
    exact ⟨fun e he => ⟨(h1 e he).1, (h1 e he).2.1⟩, h2⟩
  · rintro ⟨h1, h2⟩
    exact ⟨fun e he => ⟨(h1 e he).1, (h1 e he).2, by simp, empty_lt (nameOk_pos (h1 e he).2)⟩, h2⟩

theorem okI_iff {next : Int} : ∀ {l : List MInode} {prev : Int}, okI next prev l = true ↔
    ((∀ n, n ∈ l → prev < n.fId ∧ n.fId < next ∧ 0 ≤ n.fSure ∧ n.fSure ≤ n.fData.length) ∧ l.Pairwise (fun x y => x.fId < y.fId))
  | [], prev => by simp [okI]
  | x :: r, prev => by
    rw [okI, Bool.and_eq_true, okI_iff (l := r), List.pairwise_cons]
    unfold stepI
    rw [decide_eq_true_iff]
    constructor
    · rintro ⟨h1, h2, h3⟩
      refine ⟨?_, fun n hn => (h2 n hn).1, h3⟩
      intro n hn
      rcases List.mem_cons.1 hn with rfl | hn
      · exact h1
      · have := h2 n hn; omega
    · rintro ⟨h1, h2, h3⟩
      refine ⟨h1 x (by simp), fun n hn => ?_, h3⟩
      have := h1 n (by simp [hn])
      have := h2 n hn
      omega

structure DiskR (m : MDisk) : Prop where
  next : 1 ≤ m.fNext ∧ m.fNext ≤ 1000000
  each : ∀ n, n ∈ m.fInodes → 0 < n.fId ∧ n.fId < m.fNext ∧ 0 ≤ n.fSure ∧ n.fSure ≤ n.fData.length
  rise : m.fInodes.Pairwise (fun x y => x.fId < y.fId)
  size : sumW wInode m.fInodes ≤ 60000
  few : m.fNames.length ≤ 30
  few' : m.fSafe.length ≤ 30
  names : EntOk m.fInodes m.fNames
  safe : EntOk m.fInodes m.fSafe
  all : ∀ n, n ∈ m.fInodes → isNamed m n = true

theorem diskOk_iff {m : MDisk} : diskOk m = true ↔ DiskR m := by
  unfold diskOk
  simp only [Bool.and_eq_true, decide_eq_true_iff, okE_start, okI_iff, List.all_eq_true]
  constructor
  · rintro ⟨⟨⟨⟨⟨⟨⟨h1, h2, h3⟩, h4⟩, h5⟩, h6⟩, h7⟩, h8⟩, h9⟩
    exact ⟨h1, h2, h3, h4, h5, h7, h6, h8, h9⟩
  · rintro ⟨h1, h2, h3, h4, h5, h7, h6, h8, h9⟩
    exact ⟨⟨⟨⟨⟨⟨⟨h1, h2, h3⟩, h4⟩, h5⟩, h6⟩, h7⟩, h8⟩, h9⟩

theorem sumW_sublist {α : Type} {f : α → Nat} {l k : List α} (h : l.Sublist k) : sumW f l ≤ sumW f k := by
  induction h with
  | slnil => exact Nat.le_refl _
  | cons a _ ih => simp only [sumW]; omega
  | cons_cons a _ ih => simp only [sumW]; omega

theorem hasId_iff {l : List MInode} {id : Int} : hasId l id = true ↔ ∃ n, n ∈ l ∧ n.fId = id := by
  unfold hasId
  rw [List.any_eq_true]
  simp

theorem named_iff {l : List MEntry} {id : Int} : named l id = true ↔ id ∈ l.map (·.fId) := by
  constructor
  · exact named_mem
  · intro h
    obtain ⟨e, he, rfl⟩ := List.mem_map.1 h
    obtain ⟨k, hk, rfl⟩ := List.mem_iff_getElem.1 he
    exact named_yes hk rfl

theorem isNamed_iff {d : MDisk} {n : MInode} : isNamed d n = true ↔ n.fId ∈ d.fNames.map (·.fId) ++ d.fSafe.map (·.fId) := by
  unfold isNamed
  rw [Bool.or_eq_true, named_iff, named_iff, List.mem_append]

/-- A disk without what no list names. -/
def keepD (m : MDisk) : MDisk := { m with fInodes := keepI m }

theorem keepI_all {m : MDisk} (h : ∀ n, n ∈ m.fInodes → isNamed m n = true) : keepI m = m.fInodes := by
  unfold keepI
  exact List.filter_eq_self.2 h

theorem EntOk.kept {m : MDisk} {l : List MEntry} (h : EntOk m.fInodes l) (hl : ∀ e, e ∈ l → e.fId ∈ m.fNames.map (·.fId) ++ m.fSafe.map (·.fId)) : EntOk (keepI m) l := by
  refine ⟨fun e he => ⟨?_, (h.1 e he).2⟩, h.2⟩
  obtain ⟨n, hn, hid⟩ := hasId_iff.1 (h.1 e he).1
  refine hasId_iff.2 ⟨n, ?_, hid⟩
  unfold keepI
  refine List.mem_filter.2 ⟨hn, isNamed_iff.2 ?_⟩
  rw [hid]
  exact hl e he

/-- Other lists of names over the same inodes: what they don't name goes. -/
theorem keep_ok {m : MDisk} (h : DiskR m) {N S : List MEntry} (hN : N.length ≤ 30) (hS : S.length ≤ 30) (oN : EntOk m.fInodes N) (oS : EntOk m.fInodes S) :
    DiskR (keepD { m with fNames := N, fSafe := S }) := by
  have hsub : (keepI { m with fNames := N, fSafe := S }).Sublist m.fInodes := List.filter_sublist
  refine ⟨h.next, fun n hn => h.each n (hsub.subset hn), h.rise.sublist hsub, Nat.le_trans (sumW_sublist hsub) h.size, hN, hS, ?_, ?_, ?_⟩
  · exact EntOk.kept (m := { m with fNames := N, fSafe := S }) oN (fun e he => List.mem_append_left _ (List.mem_map.2 ⟨e, he, rfl⟩))
  · exact EntOk.kept (m := { m with fNames := N, fSafe := S }) oS (fun e he => List.mem_append_right _ (List.mem_map.2 ⟨e, he, rfl⟩))
  · intro n hn
    exact (List.mem_filter.1 (show n ∈ List.filter (isNamed { m with fNames := N, fSafe := S }) m.fInodes from hn)).2

/-- A list without a name; with an entry, in its place. -/
def without (l : List MEntry) (s : ByteArray) : List MEntry := l.filter fun e => decide (e.fName ≠ s)
def withE (l : List MEntry) (e : MEntry) : List MEntry := l.filter (fun x => strLt x.fName e.fName) ++ e :: l.filter (fun x => strLt e.fName x.fName)

/-- The same as a walk along the list. -/
def withL (e : MEntry) : Bool → List MEntry → List MEntry
  | put, [] => if put then [] else [e]
  | put, x :: r => (if put = false ∧ strLt x.fName e.fName = false then [e] else []) ++ ((if x.fName = e.fName then [] else [x]) ++ withL e (put || !strLt x.fName e.fName) r)

theorem strLt_irrefl (s : ByteArray) : strLt s s = false := bl_irrefl _
theorem strLt_asymm {a b : ByteArray} (h : strLt a b = true) : strLt b a = false := bl_asymm h
theorem strLt_tri {a b : ByteArray} (h1 : strLt a b = false) (h2 : a ≠ b) : strLt b a = true := bl_total h1 (fun e => h2 (str_eq.1 (by rw [e]; simp)))

def Rise (l : List MEntry) : Prop := l.Pairwise (fun x y => strLt x.fName y.fName = true)

theorem withL_true {e : MEntry} : ∀ {l : List MEntry}, (∀ x, x ∈ l → strLt e.fName x.fName = true) → withL e true l = l
  | [], _ => rfl
  | x :: r, h => by
    have hx := h x (by simp)
    have hne : x.fName ≠ e.fName := fun hh => by rw [hh, strLt_irrefl] at hx; cases hx
    simp only [withL, if_neg hne, Bool.true_or]
    rw [withL_true (fun y hy => h y (by simp [hy]))]
    simp

theorem withL_false {e : MEntry} : ∀ {l : List MEntry}, Rise l → withL e false l = withE l e
  | [], _ => rfl
  | x :: r, h => by
    unfold Rise at h
    rw [List.pairwise_cons] at h
    unfold withE
    by_cases hlt : strLt x.fName e.fName = true
    · have hne : x.fName ≠ e.fName := fun hh => by rw [hh, strLt_irrefl] at hlt; cases hlt
      have ih := withL_false (e := e) h.2
      unfold withE at ih
      simp only [withL, hlt, if_neg hne, Bool.not_true, Bool.or_self, ih, List.filter_cons, strLt_asymm hlt]
      simp
    · have hlt2 : strLt x.fName e.fName = false := Bool.eq_false_iff.2 hlt
      have hnil : List.filter (fun x => strLt x.fName e.fName) r = [] := by
        rw [List.filter_eq_nil_iff]
        intro y hy hye
        exact hlt (strLt_trans (h.1 y hy) hye)
      by_cases heq : x.fName = e.fName
      · have hr : ∀ y, y ∈ r → strLt e.fName y.fName = true := fun y hy => by rw [← heq]; exact h.1 y hy
        simp only [withL, hlt2, heq, strLt_irrefl, Bool.not_false, Bool.or_true, List.filter_cons, hnil, withL_true hr]
        simp [List.filter_eq_self.2 hr]
      · have hxe := strLt_tri hlt2 heq
        have hr : ∀ y, y ∈ r → strLt e.fName y.fName = true := fun y hy => strLt_trans hxe (h.1 y hy)
        simp only [withL, hlt2, if_neg heq, Bool.not_false, Bool.or_true, List.filter_cons, hnil, withL_true hr, hxe]
        simp [List.filter_eq_self.2 hr]

theorem EntOk.rise {ins : List MInode} {l : List MEntry} (h : EntOk ins l) : Rise l := h.2.imp (fun h => h.1)

theorem EntOk.sub {ins : List MInode} {l k : List MEntry} (h : EntOk ins l) (hs : k.Sublist l) : EntOk ins k := ⟨fun e he => h.1 e (hs.subset he), h.2.sublist hs⟩

theorem EntOk.more {ins ins' : List MInode} {l : List MEntry} (h : EntOk ins l) (hi : ∀ n, n ∈ ins → ∃ n', n' ∈ ins' ∧ n'.fId = n.fId) : EntOk ins' l := by
  refine ⟨fun e he => ⟨?_, (h.1 e he).2⟩, h.2⟩
  obtain ⟨n, hn, hid⟩ := hasId_iff.1 (h.1 e he).1
  obtain ⟨n', hn', hid'⟩ := hi n hn
  exact hasId_iff.2 ⟨n', hn', hid'.trans hid⟩

theorem EntOk.withE {ins : List MInode} {l : List MEntry} {e : MEntry} (h : EntOk ins l) (he : hasId ins e.fId = true) (hn : nameOk e.fName = true) (hfresh : ∀ x, x ∈ l → x.fId = e.fId → x.fName = e.fName) : EntOk ins (withE l e) := by
  unfold Go.Proofs.YtnohnkcijomdjaaGreatDoor.withE
  constructor
  · intro x hx
    rcases List.mem_append.1 hx with hx | hx
    · exact h.1 x (List.mem_filter.1 hx).1
    · rcases List.mem_cons.1 hx with rfl | hx
      · exact ⟨he, hn⟩
      · exact h.1 x (List.mem_filter.1 hx).1
  · rw [List.pairwise_append, List.pairwise_cons]
    refine ⟨h.2.sublist List.filter_sublist, ⟨?_, h.2.sublist List.filter_sublist⟩, ?_⟩
    · intro y hy
      have hy' := List.mem_filter.1 hy
      refine ⟨hy'.2, fun hid => ?_⟩
      have := hfresh y hy'.1 hid.symm
      rw [this, strLt_irrefl] at hy'
      cases hy'.2
    · intro x hx y hy
      have hx' := List.mem_filter.1 hx
      rcases List.mem_cons.1 hy with rfl | hy
      · refine ⟨hx'.2, fun hid => ?_⟩
        have := hfresh x hx'.1 hid
        rw [this, strLt_irrefl] at hx'
        cases hx'.2
      · have hy' := List.mem_filter.1 hy
        obtain ⟨i, hi, rfl⟩ := List.mem_iff_getElem.1 hx'.1
        obtain ⟨j, hj, rfl⟩ := List.mem_iff_getElem.1 hy'.1
        have hlt : strLt l[i].fName l[j].fName = true := strLt_trans hx'.2 hy'.2
        have hij : i < j := by
          rcases Nat.lt_trichotomy i j with h1 | h1 | h1
          · exact h1
          · subst h1; rw [strLt_irrefl] at hlt; cases hlt
          · have h2 := (List.pairwise_iff_getElem.1 h.2 j i hj hi h1).1
            rw [strLt_asymm h2] at hlt; cases hlt
        exact List.pairwise_iff_getElem.1 h.2 i j hi hj hij

theorem withE_length {l : List MEntry} {e : MEntry} : (withE l e).length ≤ l.length + 1 := by
  unfold withE
  rw [List.length_append, List.length_cons]
  have h1 : ∀ l : List MEntry, (l.filter (fun x => strLt x.fName e.fName)).length + (l.filter (fun x => strLt e.fName x.fName)).length ≤ l.length := by
    intro l
    induction l with
    | nil => simp
    | cons x r ih =>
      by_cases h1 : strLt x.fName e.fName = true
      · have h2 := strLt_asymm h1
        simp only [List.filter_cons, h1, h2, if_true, List.length_cons]
        simp
        omega
      · simp only [List.filter_cons, h1]
        by_cases h2 : strLt e.fName x.fName = true
        · simp [h2]; omega
        · simp [h2]; omega
  have := h1 l
  omega

end Go.Proofs.YtnohnkcijomdjaaGreatDoor
