/-
  A full graph, plainly: twelve dots, each with deps among them.
-/
import Derived.Test.YtmigamgcmhdncaaDoorGrpQ
namespace Go.Proofs.YtmigamgcmhdncaaDoor
open Go.RowKit
set_option linter.unusedVariables false
set_option linter.unusedSimpArgs false

/-- The i-th dot of a full graph. -/
def fullD (i : Nat) : MDot := ⟨1 + (i / 4 : Nat), 1 + (i % 4 : Nat)⟩
theorem fullD_at {r n : Nat} (hr : 1 ≤ r) (hn : 1 ≤ n) (hn4 : n ≤ 4) : fullD (4 * (r - 1) + (n - 1)) = ⟨r, n⟩ := by
  unfold fullD
  have h1 : (4 * (r - 1) + (n - 1)) / 4 = r - 1 := by omega
  have h2 : (4 * (r - 1) + (n - 1)) % 4 = n - 1 := by omega
  rw [h1, h2]
  congr 1 <;> omega
theorem fullD_lt {i j : Nat} (h : i < j) : dotLt (fullD i) (fullD j) = true := by
  rw [dotLt_iff]
  show ((1 : Int) + (i / 4 : Nat) < 1 + (j / 4 : Nat)) ∨ ((1 : Int) + (i / 4 : Nat) = 1 + (j / 4 : Nat) ∧ (1 : Int) + (i % 4 : Nat) < 1 + (j % 4 : Nat))
  omega
theorem fullD_ok {i : Nat} (h : i < 12) : dotOkP (fullD i) = true := by
  unfold dotOkP fullD
  rw [inRange_yes (by show (1 : Int) ≤ 1 + (i / 4 : Nat); omega) (by show (1 : Int) + (i / 4 : Nat) ≤ 7; omega), inRange_yes (by show (1 : Int) ≤ 1 + (i % 4 : Nat); omega) (by show (1 : Int) + (i % 4 : Nat) ≤ 999; omega)]
  rfl

/-- Deps that were drawn so far: ascending, of the first P dots, none its own. -/
structure DepSt (l : List MDot) (own : MDot) (P : Nat) : Prop where
  up : l.Pairwise (fun a b => dotLt a b = true)
  at_ : ∀ d, d ∈ l → ∃ i, i < P ∧ fullD i = d
  ne : own ∉ l
theorem DepSt.nil (own : MDot) : DepSt [] own 0 := ⟨List.Pairwise.nil, (fun d h => by cases h), (fun h => by cases h)⟩
theorem DepSt.more {l : List MDot} {own : MDot} {P Q : Nat} (h : DepSt l own P) (hPQ : P ≤ Q) : DepSt l own Q := ⟨h.up, fun d hd => by obtain ⟨i, hi, e⟩ := h.at_ d hd; exact ⟨i, by omega, e⟩, h.ne⟩
theorem DepSt.app {l : List MDot} {own d : MDot} {P : Nat} (h : DepSt l own P) (hd : fullD P = d) (hne : d ≠ own) : DepSt (l ++ [d]) own (P + 1) := by
  refine ⟨?_, fun x hx => ?_, fun hx => ?_⟩
  · rw [List.pairwise_append]
    refine ⟨h.up, by simp, fun a ha b hb => ?_⟩
    rw [List.mem_singleton] at hb
    obtain ⟨i, hi, rfl⟩ := h.at_ a ha
    rw [hb, ← hd]
    exact fullD_lt hi
  · rcases List.mem_append.1 hx with hx | hx
    · obtain ⟨i, hi, e⟩ := h.at_ x hx; exact ⟨i, by omega, e⟩
    · rw [List.mem_singleton] at hx; exact ⟨P, by omega, by rw [hd, hx]⟩
  · rcases List.mem_append.1 hx with hx | hx
    · exact h.ne hx
    · rw [List.mem_singleton] at hx; exact hne hx.symm
theorem upOk_of {α : Type} {f : α → Bool} {lt : α → α → Bool} {l : List α} (hf : ∀ x, x ∈ l → f x = true) (hp : l.Pairwise (fun a b => lt a b = true)) : upOk f lt l = true := by
  refine upOk_yes (fun j hj => ?_)
  have h1 := hf _ (List.getElem_mem hj)
  cases j with
  | zero => exact stepOk_zero hj h1
  | succ i => rw [stepOk_succ (by omega) hj h1]; exact (List.pairwise_iff_getElem.1 hp) i (i + 1) (by omega) hj (by omega)
theorem upOk_mem {α : Type} {f : α → Bool} {lt : α → α → Bool} {l : List α} (h : upOk f lt l = true) {x : α} (hx : x ∈ l) : f x = true := by
  obtain ⟨j, hj, rfl⟩ := List.mem_iff_getElem.1 hx
  have := upOk_at h hj
  unfold stepOk at this
  rw [List.getElem?_eq_getElem hj] at this
  simp only [Bool.and_eq_true] at this
  exact this.1
theorem DepSt.item {l : List MDot} {own : MDot} (h : DepSt l own 12) (hl : l.length ≤ 60) (ho : dotOkP own = true) : itemP ⟨own, l⟩ = true := by
  unfold itemP depsP
  simp only [Bool.and_eq_true, decide_eq_true_eq]
  refine ⟨⟨ho, hl, upOk_of (fun x hx => ?_) h.up⟩, ?_⟩
  · obtain ⟨i, hi, rfl⟩ := h.at_ x hx; exact fullD_ok hi
  · rw [hasD_out.2 h.ne]; rfl

-- graphs as lists that go up
theorem graph_iff {l : List MItem} : graphP ⟨l⟩ = true ↔ l.length ≤ 100 ∧ (∀ x, x ∈ l → itemP x = true) ∧ l.Pairwise (fun a b => dotLt a.fD b.fD = true) := by
  constructor
  · intro h
    have h' : (decide (l.length ≤ 100) && upOk itemP itemLt l) = true := h
    rw [Bool.and_eq_true] at h'
    refine ⟨of_decide_eq_true h'.1, fun x hx => upOk_mem h'.2 hx, ?_⟩
    rw [List.pairwise_iff_getElem]
    intro i j hi hj hij
    exact graph_up h i j hi hj hij
  · rintro ⟨h1, h2, h3⟩
    show (decide (l.length ≤ 100) && upOk itemP itemLt l) = true
    rw [decide_eq_true h1, show upOk itemP itemLt l = true from upOk_of h2 h3]; rfl
theorem dotLt_total {a b : MDot} (h : a ≠ b) (h2 : dotLt a b = false) : dotLt b a = true := by
  rw [dotLt_iff]
  have h3 : ¬ (a.fR < b.fR ∨ (a.fR = b.fR ∧ a.fN < b.fN)) := fun e => by rw [dotLt_iff.2 e] at h2; cases h2
  have h4 : ¬ (a.fR = b.fR ∧ a.fN = b.fN) := fun e => h (sameD_iff.1 (decide_eq_true e))
  omega
/-- What is not there yet may be put, and then it is there. -/
theorem put_new {p : MGraph} {it : MItem} (hp : graphP p = true) (hi : itemP it = true) (hl : p.fItems.length < 100) (hn : ∀ x, x ∈ p.fItems → x.fD ≠ it.fD) :
    putOk p it = true ∧ (∀ x, x ∈ (putG p it).fItems ↔ x ∈ p.fItems ∨ x = it) ∧ (putG p it).fItems = insAt p.fItems (firstGt it.fD p.fItems) it := by
  obtain ⟨l⟩ := p
  simp only at *
  obtain ⟨g1, g2, g3⟩ := graph_iff.1 hp
  have hq := firstGt_le it.fD l
  have hmem : ∀ x, x ∈ insAt l (firstGt it.fD l) it ↔ x ∈ l ∨ x = it := fun x => by
    unfold insAt
    rw [List.mem_append, List.mem_cons]
    constructor
    · rintro (h | h | h)
      · exact .inl (List.mem_of_mem_take h)
      · exact .inr h
      · exact .inl (List.mem_of_mem_drop h)
    · rintro (h | h)
      · rw [← List.take_append_drop (firstGt it.fD l) l, List.mem_append] at h
        exact h.imp id .inr
      · exact .inr (.inl h)
  have hok : graphP ⟨insAt l (firstGt it.fD l) it⟩ = true := by
    refine graph_iff.2 ⟨by rw [insAt_length hq]; omega, fun x hx => ?_, ?_⟩
    · rcases (hmem x).1 hx with h | h
      · exact g2 x h
      · rw [h]; exact hi
    · unfold insAt
      rw [List.pairwise_append, List.pairwise_cons]
      have hlo : ∀ x, x ∈ l.take (firstGt it.fD l) → dotLt x.fD it.fD = true := fun x hx => by
        rw [List.mem_take_iff_getElem] at hx
        obtain ⟨j, hj, rfl⟩ := hx
        exact dotLt_total (fun e => hn _ (List.getElem_mem (by omega)) e.symm) (firstGt_lo j (by omega) (by omega))
      have hhi : ∀ x, x ∈ l.drop (firstGt it.fD l) → dotLt it.fD x.fD = true := fun x hx => by
        rw [List.mem_drop_iff_getElem] at hx
        obtain ⟨j, hj, rfl⟩ := hx
        have h0 : firstGt it.fD l < l.length := by omega
        have h1 := firstGt_hit h0
        by_cases hj0 : j = 0
        · subst hj0; simpa using h1
        · exact dotLt_trans h1 ((List.pairwise_iff_getElem.1 g3) _ _ h0 (by omega) (by omega))
      exact ⟨g3.sublist (List.take_sublist _ _), ⟨hhi, g3.sublist (List.drop_sublist _ _)⟩, fun a ha b hb => by
        rcases List.mem_cons.1 hb with rfl | hb
        · exact hlo a ha
        · exact dotLt_trans (hlo a ha) (hhi b hb)⟩
  have hno : hasI l it.fD = false := hasI_no (fun j hj => sameD_no (hn _ (List.getElem_mem hj)))
  have hput : putOk ⟨l⟩ it = true := by
    show (!hasI l it.fD && graphP ⟨insAt l (firstGt it.fD l) it⟩) = true
    rw [hno, hok]; rfl
  have hG : putG ⟨l⟩ it = ⟨insAt l (firstGt it.fD l) it⟩ := by unfold putG; rw [hput]; rfl
  rw [hG]
  exact ⟨hput, hmem, rfl⟩

/-- A graph of the first P dots, deps among all twelve. -/
structure FulSt (m : MGraph) (P : Nat) : Prop where
  ok : graphP m = true
  len : m.fItems.length = P
  dots : ∀ d, (∃ it, it ∈ m.fItems ∧ it.fD = d) ↔ ∃ i, i < P ∧ fullD i = d
  deps : ∀ it, it ∈ m.fItems → ∀ d, d ∈ it.fDeps → ∃ i, i < 12 ∧ fullD i = d
theorem FulSt.nil : FulSt ⟨[]⟩ 0 := ⟨rfl, rfl, fun d => ⟨(fun ⟨it, h, _⟩ => by cases h), (fun ⟨i, h, _⟩ => by omega)⟩, (fun it h => by cases h)⟩
theorem FulSt.put {m : MGraph} {P : Nat} {own : MDot} {l : List MDot} (h : FulSt m P) (hP : P < 12) (ho : fullD P = own) (hd : DepSt l own 12) (hl : l.length ≤ 60) : FulSt (putG m ⟨own, l⟩) (P + 1) := by
  have hn : ∀ x, x ∈ m.fItems → x.fD ≠ own := fun x hx e => by
    obtain ⟨i, hi, e2⟩ := (h.dots own).1 ⟨x, hx, e⟩
    have := fullD_lt hi
    rw [e2, ho, dotLt_self] at this
    cases this
  obtain ⟨h1, h2, h3⟩ := put_new (it := ⟨own, l⟩) h.ok (hd.item hl (by rw [← ho]; exact fullD_ok hP)) (by rw [h.len]; omega) hn
  refine ⟨?_, ?_, fun d => ?_, fun it hit d hdd => ?_⟩
  · unfold putG; rw [h1]; unfold putOk at h1; rw [Bool.and_eq_true] at h1; exact h1.2
  · rw [h3, insAt_length (firstGt_le _ _), h.len]
  · constructor
    · rintro ⟨it, hit, rfl⟩
      rcases (h2 it).1 hit with hit | rfl
      · obtain ⟨i, hi, e⟩ := (h.dots it.fD).1 ⟨it, hit, rfl⟩; exact ⟨i, by omega, e⟩
      · exact ⟨P, by omega, ho⟩
    · rintro ⟨i, hi, rfl⟩
      by_cases hip : i < P
      · obtain ⟨it, hit, e⟩ := (h.dots (fullD i)).2 ⟨i, hip, rfl⟩; exact ⟨it, (h2 it).2 (.inl hit), e⟩
      · have : i = P := by omega
        subst this
        exact ⟨⟨own, l⟩, (h2 _).2 (.inr rfl), ho.symm⟩
  · rcases (h2 it).1 hit with hit | rfl
    · exact h.deps it hit d hdd
    · exact hd.at_ d hdd
/-- In a full graph each dep is there. -/
theorem FulSt.closed {m : MGraph} (h : FulSt m 12) {it : MItem} (hi : it ∈ m.fItems) {d : MDot} (hd : d ∈ it.fDeps) : ∃ x, x ∈ m.fItems ∧ x.fD = d := (h.dots d).2 (h.deps it hi d hd)
theorem whole_closed {m : MGraph} (h : ∀ it, it ∈ m.fItems → ∀ d, d ∈ it.fDeps → ∃ x, x ∈ m.fItems ∧ x.fD = d) (i : Nat) : wholeAt m.fItems i := by
  have hno : ∀ k, ¬ lacks m.fItems k := fun k ⟨hk, d, hd, hn⟩ => by
    obtain ⟨x, hx, e⟩ := h _ (List.getElem_mem hk) d hd
    obtain ⟨j, hj, rfl⟩ := List.mem_iff_getElem.1 hx
    rw [hasI_yes hj (sameD_iff.2 e)] at hn
    cases hn
  exact ⟨hno i, fun k _ => hno k⟩
/-- Where all is closed, all is in the order. -/
theorem order_all {m : MGraph} {L : List MDot} (hg : graphP m = true) (h : ∀ it, it ∈ m.fItems → ∀ d, d ∈ it.fDeps → ∃ x, x ∈ m.fItems ∧ x.fD = d) (hL : OrderL m L) : L.length = m.fItems.length := by
  obtain ⟨W, hW⟩ : ∃ L, WholeL m L := ⟨_, .inr ⟨hg, fun _ => true, fun j _ => ⟨fun _ => whole_closed h j, fun _ => rfl⟩, rfl⟩⟩
  rw [hL.count hW]
  rcases hW with ⟨h1, _⟩ | ⟨_, P, hP, rfl⟩
  · rw [h1] at hg; cases hg
  · rw [pickT_count P _ _ (Nat.le_refl _)]
    have : ∀ n, n ≤ m.fItems.length → (List.range n).countP P = n := by
      intro n
      induction n with
      | zero => intro _; rfl
      | succ n ih =>
        intro hn
        rw [List.range_succ, List.countP_append, ih (by omega)]
        have := (hP n (by omega)).2 (whole_closed h n)
        simp [this]
    exact this _ (Nat.le_refl _)

end Go.Proofs.YtmigamgcmhdncaaDoor
