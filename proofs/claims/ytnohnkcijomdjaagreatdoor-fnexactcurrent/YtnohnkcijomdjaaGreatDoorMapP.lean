/-
  Maps from names to numbers, and the lists of entries that they stand for; no program is named here.
-/
import Derived.Test.YtnohnkcijomdjaaGreatDoorDskV
import Derived.Maps.OwnSet
import Derived.Maps.RangeWalk
import Derived.Sort.KeysCollected
namespace Go.Proofs.YtnohnkcijomdjaaGreatDoor
open Go.RowKit Go.Maps
set_option linter.unusedVariables false
set_option linter.unusedSimpArgs false

def kS (s : ByteArray) : Lit := .string s.data.toList
theorem kS_ne {s t : ByteArray} (h : s ≠ t) : kS s ≠ kS t := by
  intro e
  simp only [kS, Lit.string.injEq] at e
  apply h
  cases s; cases t
  simpa using Array.toList_inj.1 e

/-- The map has the first k names, each at an id that a list's entry of that name has. -/
def NMap (D : DataW Unit) (l : List MEntry) (k : Nat) : Prop :=
  IsMap D ∧ ∀ s : ByteArray, (Maps.has D (kS s) = true ↔ ∃ j, ∃ h : j < l.length, j < k ∧ l[j].fName = s) ∧ (Maps.has D (kS s) = true → ∃ j, ∃ h : j < l.length, j < k ∧ l[j].fName = s ∧ D.atKey (kS s) (.lit (.int .i64 0)) = .lit (.int .i64 l[j].fId))

theorem NMap.start (l : List MEntry) : NMap (.map []) l 0 :=
  ⟨isMap_empty, fun s => ⟨⟨fun h => by simp [Maps.has] at h, fun ⟨j, _, h, _⟩ => by omega⟩, fun h => by simp [Maps.has] at h⟩⟩

theorem NMap.put {D : DataW Unit} {l : List MEntry} {k : Nat} (h : NMap D l k) (hk : k < l.length) : NMap (D.put (kS l[k].fName) (.lit (.int .i64 l[k].fId))) l (k + 1) := by
  refine ⟨h.1.put _ _, fun s => ?_⟩
  by_cases hs : s = l[k].fName
  · subst hs
    have h1 := has_put_same h.1 (k := kS l[k].fName) (by trivial) (.lit (.int .i64 l[k].fId))
    exact ⟨⟨fun _ => ⟨k, hk, by omega, rfl⟩, fun _ => h1⟩, fun _ => ⟨k, hk, by omega, rfl, atKey_put_same h.1 (by trivial) _ _⟩⟩
  · have hne := kS_ne hs
    rw [has_put_other hne, atKey_put_other hne]
    obtain ⟨h2, h3⟩ := h.2 s
    refine ⟨h2.trans ⟨fun ⟨j, hj, hjk, e⟩ => ⟨j, hj, by omega, e⟩, fun ⟨j, hj, hjk, e⟩ => ⟨j, hj, ?_, e⟩⟩, fun hh => ?_⟩
    · by_cases hjk' : j = k
      · subst hjk'; exact absurd e.symm hs
      · omega
    · obtain ⟨j, hj, hjk, e, ha⟩ := h3 hh
      exact ⟨j, hj, by omega, e, ha⟩

/-- No name twice. -/
theorem okE_names {ins : List MInode} : ∀ {l : List MEntry} {seen : List Int} {prev : ByteArray}, okE ins seen prev l = true → (∀ e, e ∈ l → strLt prev e.fName = true) ∧ l.Pairwise fun x y => strLt x.fName y.fName = true
  | [], _, _, _ => ⟨(fun e he => by cases he), List.Pairwise.nil⟩
  | x :: r, seen, prev, h => by
    rw [okE, Bool.and_eq_true] at h
    have h1 := h.1
    unfold stepE at h1
    simp only [Bool.and_eq_true] at h1
    obtain ⟨h2, h3⟩ := okE_names h.2
    refine ⟨fun e he => ?_, List.Pairwise.cons h2 h3⟩
    rcases List.mem_cons.1 he with rfl | he
    · exact h1.1.2
    · exact strLt_trans h1.1.2 (h2 e he)

theorem names_once {l : List MEntry} (h : l.Pairwise fun x y => strLt x.fName y.fName = true) {i j : Nat} (hi : i < l.length) (hj : j < l.length) (he : l[i].fName = l[j].fName) : i = j := by
  rcases Nat.lt_trichotomy i j with hlt | rfl | hlt
  · have := List.pairwise_iff_getElem.1 h i j hi hj hlt
    rw [he] at this
    unfold strLt at this
    rw [bl_irrefl] at this
    cases this
  · rfl
  · have := List.pairwise_iff_getElem.1 h j i hj hi hlt
    rw [he] at this
    unfold strLt at this
    rw [bl_irrefl] at this
    cases this

/-- The map has just the names of a list, each at its entry's id. -/
def MapIs (D : DataW Unit) (l : List MEntry) : Prop :=
  IsMap D ∧ (∀ s, Maps.has D (kS s) = true ↔ hasName l s = true) ∧ ∀ e, e ∈ l → D.atKey (kS e.fName) (.lit (.int .i64 0)) = .lit (.int .i64 e.fId)

theorem hasName_iff {l : List MEntry} {s : ByteArray} : hasName l s = true ↔ ∃ e, e ∈ l ∧ e.fName = s := by
  unfold hasName
  rw [List.any_eq_true]
  simp

theorem MapIs.ofN {D : DataW Unit} {l : List MEntry} {n : Nat} (hn : l.length = n) (h : NMap D l n) (hr : Rise l) : MapIs D l := by
  refine ⟨h.1, fun s => ?_, fun e he => ?_⟩
  · rw [(h.2 s).1, hasName_iff]
    constructor
    · rintro ⟨j, hj, _, e⟩
      exact ⟨l[j], List.getElem_mem hj, e⟩
    · rintro ⟨e, he, hs⟩
      obtain ⟨j, hj, rfl⟩ := List.mem_iff_getElem.1 he
      exact ⟨j, hj, by omega, hs⟩
  · obtain ⟨i, hi, rfl⟩ := List.mem_iff_getElem.1 he
    obtain ⟨j, hj, _, e1, e2⟩ := (h.2 l[i].fName).2 ((h.2 _).1.2 ⟨i, hi, by omega, rfl⟩)
    have := names_once hr hj hi e1
    subst this
    exact e2

theorem MapIs.del {D : DataW Unit} {l : List MEntry} (h : MapIs D l) (s : ByteArray) : MapIs (D.del (kS s)) (without l s) := by
  refine ⟨h.1.del _, fun t => ?_, fun e he => ?_⟩
  · rw [hasName_iff]
    unfold without
    by_cases ht : t = s
    · subst ht
      rw [has_del_same]
      constructor
      · intro h; cases h
      · rintro ⟨e, he, hs⟩
        have := (List.mem_filter.1 he).2
        simp [hs] at this
    · rw [has_del_other (kS_ne ht), h.2.1 t, hasName_iff]
      constructor
      · rintro ⟨e, he, rfl⟩
        exact ⟨e, List.mem_filter.2 ⟨he, by simp [ht]⟩, rfl⟩
      · rintro ⟨e, he, rfl⟩
        exact ⟨e, (List.mem_filter.1 he).1, rfl⟩
  · have he' := List.mem_filter.1 (show e ∈ l.filter _ from he)
    have hne : e.fName ≠ s := by simpa using he'.2
    rw [atKey_del_other (kS_ne hne)]
    exact h.2.2 e he'.1

theorem mem_withE {l : List MEntry} {e x : MEntry} : x ∈ withE l e ↔ x = e ∨ (x ∈ l ∧ x.fName ≠ e.fName) := by
  unfold withE
  rw [List.mem_append, List.mem_cons, List.mem_filter, List.mem_filter]
  constructor
  · rintro (⟨h1, h2⟩ | rfl | ⟨h1, h2⟩)
    · exact .inr ⟨h1, fun hh => by rw [hh, strLt_irrefl] at h2; cases h2⟩
    · exact .inl rfl
    · exact .inr ⟨h1, fun hh => by rw [hh, strLt_irrefl] at h2; cases h2⟩
  · rintro (rfl | ⟨h1, h2⟩)
    · exact .inr (.inl rfl)
    · by_cases h3 : strLt x.fName e.fName = true
      · exact .inl ⟨h1, h3⟩
      · exact .inr (.inr ⟨h1, strLt_tri (Bool.eq_false_iff.2 h3) h2⟩)

theorem MapIs.put {D : DataW Unit} {l : List MEntry} (h : MapIs D l) (e : MEntry) : MapIs (D.put (kS e.fName) (.lit (.int .i64 e.fId))) (withE l e) := by
  refine ⟨h.1.put _ _, fun t => ?_, fun x hx => ?_⟩
  · rw [hasName_iff]
    by_cases ht : t = e.fName
    · subst ht
      rw [has_put_same h.1 (by trivial)]
      exact ⟨fun _ => ⟨e, mem_withE.2 (.inl rfl), rfl⟩, fun _ => rfl⟩
    · rw [has_put_other (kS_ne ht), h.2.1 t, hasName_iff]
      constructor
      · rintro ⟨x, hx, rfl⟩
        exact ⟨x, mem_withE.2 (.inr ⟨hx, ht⟩), rfl⟩
      · rintro ⟨x, hx, rfl⟩
        rcases mem_withE.1 hx with rfl | ⟨h1, _⟩
        · exact absurd rfl ht
        · exact ⟨x, h1, rfl⟩
  · rcases mem_withE.1 hx with rfl | ⟨h1, h2⟩
    · exact atKey_put_same h.1 (by trivial) _ _
    · rw [atKey_put_other (kS_ne h2)]
      exact h.2.2 x h1

theorem kS_same {s t : ByteArray} : (kS s).sameKey (kS t) = decide (s = t) := by
  by_cases h : s = t
  · subst h
    simp [kS, Lit.sameKey]
  · have := kS_ne h
    simp only [kS, ne_eq, Lit.string.injEq] at this
    simp only [kS, Lit.sameKey]
    rw [decide_eq_false h]
    simpa using this

/-- What a walk over the map has met, and what is still to come. -/
structure Met (l : List MEntry) (left : Lit → Bool) (o : List MEntry) : Prop where
  sub : ∀ e, e ∈ o → e ∈ l
  once : o.Pairwise (fun x y => x.fName ≠ y.fName)
  rest : ∀ e, e ∈ l → (left (kS e.fName) = true ↔ ∀ x, x ∈ o → x.fName ≠ e.fName)

theorem Met.start {D : DataW Unit} {l : List MEntry} (h : MapIs D l) : Met l (Maps.has D) [] :=
  ⟨(fun e he => by cases he), List.Pairwise.nil, fun e he => ⟨(fun _ x hx => by cases hx), fun _ => (h.2.1 _).2 (hasName_iff.2 ⟨e, he, rfl⟩)⟩⟩

theorem Met.step {l o : List MEntry} {left : Lit → Bool} (h : Met l left o) (hr : Rise l) {e : MEntry} (he : e ∈ l) (hl : left (kS e.fName) = true) : Met l (fun z => left z && !z.sameKey (kS e.fName)) (o ++ [e]) := by
  refine ⟨fun x hx => ?_, ?_, fun x hx => ?_⟩
  · rcases List.mem_append.1 hx with hx | hx
    · exact h.sub x hx
    · simp at hx; subst hx; exact he
  · rw [List.pairwise_append]
    refine ⟨h.once, by simp, fun x hx y hy => ?_⟩
    simp at hy
    subst hy
    exact (h.rest y he).1 hl x hx
  · rw [kS_same, Bool.and_eq_true, h.rest x hx]
    constructor
    · rintro ⟨h1, h2⟩ y hy
      rcases List.mem_append.1 hy with hy | hy
      · exact h1 y hy
      · simp at hy; subst hy
        intro hh
        simp [hh] at h2
    · intro h1
      refine ⟨fun y hy => h1 y (by simp [hy]), ?_⟩
      have := h1 e (by simp)
      simp [Ne.symm this]

/-- All has come: a permutation. -/
theorem Met.perm {l o : List MEntry} {left : Lit → Bool} (h : Met l left o) (hr : Rise l) (hl : ∀ k, left k = false) : o.Perm l := by
  have hall : ∀ e, e ∈ l → e ∈ o := by
    intro e he
    have h1 := h.rest e he
    rw [hl] at h1
    by_cases hx : ∃ x, x ∈ o ∧ x.fName = e.fName
    · obtain ⟨x, hx, hn⟩ := hx
      have hxl := h.sub x hx
      obtain ⟨i, hi, rfl⟩ := List.mem_iff_getElem.1 hxl
      obtain ⟨j, hj, rfl⟩ := List.mem_iff_getElem.1 he
      have := names_once hr hi hj hn
      subst this
      exact hx
    · exfalso
      have := h1.2 (fun x hx2 hn => hx ⟨x, hx2, hn⟩)
      cases this
  have n1 : o.Nodup := h.once.imp (fun hne he => hne (by rw [he]))
  have n2 : l.Nodup := hr.imp (fun hlt he => by rw [he, strLt_irrefl] at hlt; cases hlt)
  exact (List.perm_ext_iff_of_nodup n1 n2).2 (fun e => ⟨h.sub e, hall e⟩)

theorem rise_unique : ∀ {l k : List MEntry}, l.Perm k → Rise l → Rise k → l = k := by
  intro l k hp h1 h2
  refine List.Perm.eq_of_pairwise (le := fun (x y : MEntry) => strLt x.fName y.fName = true) ?_ h1 h2 hp
  intro a b _ _ hab hba
  have hab : strLt a.fName b.fName = true := hab
  have hba : strLt b.fName a.fName = true := hba
  rw [strLt_asymm hab] at hba
  cases hba

end Go.Proofs.YtnohnkcijomdjaaGreatDoor
