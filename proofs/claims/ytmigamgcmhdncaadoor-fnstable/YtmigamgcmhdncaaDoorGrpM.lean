/-
  Groups of a graph, plainly: rings, their least places, and what they need.
-/
import Derived.Test.YtmigamgcmhdncaaDoorRchI
namespace Go.Proofs.YtmigamgcmhdncaaDoor
open Go.RowKit
set_option linter.unusedVariables false
set_option linter.unusedSimpArgs false

/-- In one ring: reached from one another, or the same. -/
def ring (l : List MItem) (p j : Nat) : Prop := j = p ∨ (Reach l j p ∧ Reach l p j)
theorem ring.refl (l : List MItem) (p : Nat) : ring l p p := .inl rfl
theorem ring.symm {l : List MItem} {p j : Nat} (h : ring l p j) : ring l j p := h.imp Eq.symm (fun g => ⟨g.2, g.1⟩)
theorem ring.trans {l : List MItem} {p q j : Nat} (h : ring l p q) (k : ring l q j) : ring l p j := by
  rcases h with rfl | h
  · exact k
  · rcases k with rfl | k
    · exact .inr h
    · exact .inr ⟨k.1.trans h.1, h.2.trans k.2⟩
theorem ring.whole {l : List MItem} {p j : Nat} (h : ring l p j) (hw : wholeAt l p) : wholeAt l j := by
  rcases h with rfl | h
  · exact hw
  · exact hw.on h.2
theorem ring.lt {l : List MItem} {p j : Nat} (h : ring l p j) (hp : p < l.length) : j < l.length := by
  rcases h with rfl | h
  · exact hp
  · exact h.2.lt
/-- The least of its ring, of those that are whole. -/
def lead (l : List MItem) (p : Nat) : Prop := wholeAt l p ∧ ∀ q, q < p → ¬ ring l p q
theorem lead_of {l : List MItem} : ∀ (k : Nat), wholeAt l k → ∃ p, p ≤ k ∧ lead l p ∧ ring l p k := by
  intro k
  induction k using Nat.strongRecOn with
  | _ k ih =>
    intro hw
    apply Classical.byContradiction
    intro hn
    apply hn
    refine ⟨k, Nat.le_refl _, ⟨hw, fun q hq hr => ?_⟩, ring.refl _ _⟩
    obtain ⟨p, hp, hl, hpr⟩ := ih q hq (hr.whole hw)
    exact hn ⟨p, by omega, hl, hpr.trans hr.symm⟩
theorem lead.one {l : List MItem} {p q : Nat} (hp : lead l p) (hq : lead l q) (h : ring l p q) : p = q := by
  rcases Nat.lt_trichotomy p q with g | g | g
  · exact absurd h.symm (hq.2 p g)
  · exact g
  · exact absurd h (hp.2 q g)

structure MGrp where
  mem : MSet
  need : MSet
def MGrp.cells (g : MGrp) : List Value := [.int .u64 (g.mem.x0 : Int), .int .u64 (g.mem.x1 : Int), .int .u64 (g.need.x0 : Int), .int .u64 (g.need.x1 : Int)]
def rGrp : Rep MGrp := fun B w cs g => cs = g.cells ∧ g.mem.ok ∧ g.need.ok
theorem rGrp_good : rGrp.Good := ⟨fun h _ => h, fun h _ => h⟩
/-- A group: its ring, and what is reached from it beside this. -/
structure GrpOk (l : List MItem) (p : Nat) (g : MGrp) : Prop where
  okm : g.mem.ok
  okn : g.need.ok
  mem : ∀ j, j < 128 → (g.mem.has j = true ↔ ring l p j)
  need : ∀ j, j < 128 → (g.need.has j = true ↔ Reach l p j ∧ ¬ ring l p j)
structure GroupsOk (l : List MItem) (k : Nat) (ps : List Nat) (gs : List MGrp) : Prop where
  asc : ps.Pairwise (· < ·)
  who : ∀ p, p ∈ ps ↔ p < k ∧ lead l p
  len : gs.length = ps.length
  each : ∀ i, (h : i < ps.length) → (h2 : i < gs.length) → GrpOk l ps[i] gs[i]
structure GroupsSt (l : List MItem) (k : Nat) (ps : List Nat) (gs : List MGrp) (s : MSet) : Prop where
  grp : GroupsOk l k ps gs
  ok : s.ok
  got : ∀ j, j < 128 → (s.has j = true ↔ ∃ p, p ∈ ps ∧ ring l p j)
theorem GroupsSt.start (l : List MItem) : GroupsSt l 0 [] [] ⟨0, 0⟩ :=
  ⟨⟨List.Pairwise.nil, fun p => by simp, rfl, fun i h _ => by simp at h⟩, ⟨by decide, by decide⟩, fun j hj => by rw [MSet.zero_has]; simp⟩
theorem GroupsSt.skip {l : List MItem} {k : Nat} {ps : List Nat} {gs : List MGrp} {s : MSet} (h : GroupsSt l k ps gs s) (hk : ¬ lead l k) : GroupsSt l (k + 1) ps gs s :=
  ⟨⟨h.grp.asc, fun p => by
    rw [h.grp.who]
    constructor
    · rintro ⟨h1, h2⟩; exact ⟨by omega, h2⟩
    · rintro ⟨h1, h2⟩
      refine ⟨?_, h2⟩
      have : p ≠ k := fun e => hk (e ▸ h2)
      omega, h.grp.len, h.grp.each⟩, h.ok, h.got⟩
theorem GroupsSt.push {l : List MItem} {k : Nat} {ps : List Nat} {gs : List MGrp} {s : MSet} (h : GroupsSt l k ps gs s) (hk : lead l k) {g : MGrp} (hg : GrpOk l k g) : GroupsSt l (k + 1) (ps ++ [k]) (gs ++ [g]) (s.join g.mem) := by
  refine ⟨⟨?_, fun p => ?_, by simp [h.grp.len], fun i h1 h2 => ?_⟩, MSet.join_ok h.ok hg.okm, fun j hj => ?_⟩
  · rw [List.pairwise_append]
    exact ⟨h.grp.asc, by simp, fun a ha b hb => by simp at hb; subst hb; exact ((h.grp.who a).1 ha).1⟩
  · rw [List.mem_append, h.grp.who, List.mem_singleton]
    constructor
    · rintro (⟨h1, h2⟩ | rfl)
      · exact ⟨by omega, h2⟩
      · exact ⟨by omega, hk⟩
    · rintro ⟨h1, h2⟩
      by_cases e : p = k
      · exact .inr e
      · exact .inl ⟨by omega, h2⟩
  · by_cases hi : i < ps.length
    · rw [List.getElem_append_left hi, List.getElem_append_left (by rw [h.grp.len]; exact hi)]
      exact h.grp.each i hi _
    · have e : i = ps.length := by simp at h1; omega
      subst e
      rw [List.getElem_append_right (Nat.le_refl _), List.getElem_append_right (by rw [h.grp.len]; exact Nat.le_refl _)]
      simpa using hg
  · rw [MSet.join_has, Bool.or_eq_true, h.got j hj, hg.mem j hj]
    constructor
    · rintro (⟨p, hp, hr⟩ | hr)
      · exact ⟨p, by simp [hp], hr⟩
      · exact ⟨k, by simp, hr⟩
    · rintro ⟨p, hp, hr⟩
      rcases List.mem_append.1 hp with hp | hp
      · exact .inl ⟨p, hp, hr⟩
      · rw [List.mem_singleton] at hp; subst hp; exact .inr hr
/-- Whether a place is the least of a new group. -/
theorem GroupsSt.lead {l : List MItem} {k : Nat} {ps : List Nat} {gs : List MGrp} {s : MSet} (h : GroupsSt l k ps gs s) (hk : k < 128) : (s.has k = true → ¬ lead l k) ∧ (s.has k = false → wholeAt l k → lead l k) := by
  refine ⟨fun hs hl => ?_, fun hs hw => ?_⟩
  · obtain ⟨p, hp, hr⟩ := (h.got k hk).1 hs
    exact hl.2 p ((h.grp.who p).1 hp).1 hr.symm
  · obtain ⟨p, hp, hl, hr⟩ := lead_of k hw
    by_cases e : p = k
    · exact e ▸ hl
    · have := (h.got k hk).2 ⟨p, (h.grp.who p).2 ⟨by omega, hl⟩, hr⟩
      rw [hs] at this; cases this
/-- The program's ring and needs are a group's. -/
theorem grp_ok {l : List MItem} {n k : Nat} {rs : List MSet} (hx : l.length = n) (hn : n ≤ 100) (hl : rs.length = n) (hd : ∀ i, (hi : i < rs.length) → ReachOk l i rs[i]) (hk : k < n) (hw : wholeAt l k) {s r : MSet} (hs : s.ok) (hr : ∃ hk : k < rs.length, rs[k] = r) (hh : ∀ j, j < 128 → s.has j = ringHas rs k n j) : GrpOk l k ⟨s, r.less s⟩ := by
  obtain ⟨hkr, rfl⟩ := hr
  have hm : ∀ j, j < 128 → (s.has j = true ↔ ring l k j) := fun j hj => by
    rw [hh j hj]
    unfold ringHas ring
    rw [Bool.or_eq_true, decide_eq_true_iff]
    refine or_congr_right ?_
    rw [Bool.and_eq_true, Bool.and_eq_true, decide_eq_true_iff]
    constructor
    · rintro ⟨h1, h2, h3⟩
      have hj2 : j < rs.length := by omega
      rw [hasAt_at hj2] at h2
      rw [hasAt_at hkr] at h3
      exact ⟨((hd j hj2).met k (by omega)).1 h2, ((hd k hkr).met j (by omega)).1 h3⟩
    · rintro ⟨h1, h2⟩
      have hjl := h1.from
      have hj2 : j < rs.length := by omega
      rw [hasAt_at hj2, hasAt_at hkr]
      exact ⟨by omega, ((hd j hj2).met k (by omega)).2 h1, ((hd k hkr).met j (by omega)).2 h2⟩
  refine ⟨hs, MSet.less_ok (hd k hkr).ok, hm, fun j hj => ?_⟩
  show ((rs[k]).less s).has j = true ↔ _
  rw [MSet.less_has hs hj, Bool.and_eq_true]
  have hno : (rs[k]).has 100 = true → False := fun h => ((hd k hkr).out.1 h) hw
  have h1 : (rs[k]).has j = true ↔ Reach l k j := by
    constructor
    · intro h
      rcases (hd k hkr).top j h with g | g
      · exact ((hd k hkr).met j g).1 h
      · subst g; exact (hno h).elim
    · intro h; exact ((hd k hkr).met j h.lt).2 h
  rw [h1, ← hm j hj]
  simp

end Go.Proofs.YtmigamgcmhdncaaDoor
