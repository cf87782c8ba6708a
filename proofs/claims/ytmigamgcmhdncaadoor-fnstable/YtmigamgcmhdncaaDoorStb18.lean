/-
  Part 19 of the texts that the proof leans on.
-/
import Derived.Test.YtmigamgcmhdncaaDoorStb17
import Derived.Test.YtmigamgcmhdncaaDoorStb13
import Derived.Test.YtmigamgcmhdncaaDoorStb0
import Derived.Test.YtmigamgcmhdncaaDoorStb4
import Derived.Test.YtmigamgcmhdncaaDoorStb1
import Derived.Deep.RegionWith
import Derived.Test.YtmigamgcmhdncaaDoorRows
import Derived.Test.YtmigamgcmhdncaaDoorChecked
import Derived.Test.YtmigamgcmhdncaaDoorStb5
set_option linter.unusedVariables false
set_option linter.unusedSimpArgs false
set_option maxRecDepth 10000

namespace Go.Proofs.YtmigamgcmhdncaaDoor
open Go.RowKit

/-- The i-th dot of a full graph. -/
def fullD (i : Nat) : MDot := ⟨1 + (i / 4 : Nat), 1 + (i % 4 : Nat)⟩
theorem fullD_at {r n : Nat} (hr : 1 ≤ r) (hn : 1 ≤ n) (hn4 : n ≤ 4) : fullD (4 * (r - 1) + (n - 1)) = ⟨r, n⟩ := by
  unfold fullD
  have h1 : (4 * (r - 1) + (n - 1)) / 4 = r - 1 := by omega
  have h2 : (4 * (r - 1) + (n - 1)) % 4 = n - 1 := by omega
  rw [h1, h2]
  congr 1 <;> omega
theorem fullD_lt {i j : Nat} (h : i < j) : dotLt (fullD i) (fullD j) = true := by
  rw [dotLt_iff]
  show ((1 : Int) + (i / 4 : Nat) < 1 + (j / 4 : Nat)) ∨ ((1 : Int) + (i / 4 : Nat) = 1 + (j / 4 : Nat) ∧ (1 : Int) + (i % 4 : Nat) < 1 + (j % 4 : Nat))
  omega
theorem fullD_ok {i : Nat} (h : i < 12) : dotOkP (fullD i) = true := by
  unfold dotOkP fullD
  rw [inRange_yes (by show (1 : Int) ≤ 1 + (i / 4 : Nat); omega) (by show (1 : Int) + (i / 4 : Nat) ≤ 7; omega), inRange_yes (by show (1 : Int) ≤ 1 + (i % 4 : Nat); omega) (by show (1 : Int) + (i % 4 : Nat) ≤ 999; omega)]
  rfl

/-- Deps that were drawn so far: ascending, of the first P dots, none its own. -/
structure DepSt (l : List MDot) (own : MDot) (P : Nat) : Prop where
  up : l.Pairwise (fun a b => dotLt a b = true)
  at_ : ∀ d, d ∈ l → ∃ i, i < P ∧ fullD i = d
  ne : own ∉ l
theorem DepSt.nil (own : MDot) : DepSt [] own 0 := ⟨List.Pairwise.nil, (fun d h => by cases h), (fun h => by cases h)⟩
theorem DepSt.more {l : List MDot} {own : MDot} {P Q : Nat} (h : DepSt l own P) (hPQ : P ≤ Q) : DepSt l own Q := ⟨h.up, fun d hd => by obtain ⟨i, hi, e⟩ := h.at_ d hd; exact ⟨i, by omega, e⟩, h.ne⟩
theorem DepSt.app {l : List MDot} {own d : MDot} {P : Nat} (h : DepSt l own P) (hd : fullD P = d) (hne : d ≠ own) : DepSt (l ++ [d]) own (P + 1) := by
  refine ⟨?_, fun x hx => ?_, fun hx => ?_⟩
  · rw [List.pairwise_append]
    refine ⟨h.up, by simp, fun a ha b hb => ?_⟩
    rw [List.mem_singleton] at hb
    obtain ⟨i, hi, rfl⟩ := h.at_ a ha
    rw [hb, ← hd]
    exact fullD_lt hi
  · rcases List.mem_append.1 hx with hx | hx
    · obtain ⟨i, hi, e⟩ := h.at_ x hx; exact ⟨i, by omega, e⟩
    · rw [List.mem_singleton] at hx; exact ⟨P, by omega, by rw [hd, hx]⟩
  · rcases List.mem_append.1 hx with hx | hx
    · exact h.ne hx
    · rw [List.mem_singleton] at hx; exact hne hx.symm
theorem upOk_of {α : Type} {f : α → Bool} {lt : α → α → Bool} {l : List α} (hf : ∀ x, x ∈ l → f x = true) (hp : l.Pairwise (fun a b => lt a b = true)) : upOk f lt l = true := by
  refine upOk_yes (fun j hj => ?_)
  have h1 := hf _ (List.getElem_mem hj)
  cases j with
  | zero => exact stepOk_zero hj h1
  | succ i => rw [stepOk_succ (by omega) hj h1]; exact (List.pairwise_iff_getElem.1 hp) i (i + 1) (by omega) hj (by omega)
theorem upOk_mem {α : Type} {f : α → Bool} {lt : α → α → Bool} {l : List α} (h : upOk f lt l = true) {x : α} (hx : x ∈ l) : f x = true := by
  obtain ⟨j, hj, rfl⟩ := List.mem_iff_getElem.1 hx
  have := upOk_at h hj
  unfold stepOk at this
  rw [List.getElem?_eq_getElem hj] at this
  simp only [Bool.and_eq_true] at this
  exact this.1
theorem DepSt.item {l : List MDot} {own : MDot} (h : DepSt l own 12) (hl : l.length ≤ 60) (ho : dotOkP own = true) : itemP ⟨own, l⟩ = true := by
  unfold itemP depsP
  simp only [Bool.and_eq_true, decide_eq_true_eq]
  refine ⟨⟨ho, hl, upOk_of (fun x hx => ?_) h.up⟩, ?_⟩
  · obtain ⟨i, hi, rfl⟩ := h.at_ x hx; exact fullD_ok hi
  · rw [hasD_out.2 h.ne]; rfl

-- graphs as lists that go up
theorem graph_iff {l : List MItem} : graphP ⟨l⟩ = true ↔ l.length ≤ 100 ∧ (∀ x, x ∈ l → itemP x = true) ∧ l.Pairwise (fun a b => dotLt a.fD b.fD = true) := by
  constructor
  · intro h
    have h' : (decide (l.length ≤ 100) && upOk itemP itemLt l) = true := h
    rw [Bool.and_eq_true] at h'
    refine ⟨of_decide_eq_true h'.1, fun x hx => upOk_mem h'.2 hx, ?_⟩
    rw [List.pairwise_iff_getElem]
    intro i j hi hj hij
    exact graph_up h i j hi hj hij
  · rintro ⟨h1, h2, h3⟩
    show (decide (l.length ≤ 100) && upOk itemP itemLt l) = true
    rw [decide_eq_true h1, show upOk itemP itemLt l = true from upOk_of h2 h3]; rfl
theorem dotLt_total {a b : MDot} (h : a ≠ b) (h2 : dotLt a b = false) : dotLt b a = true := by
  rw [dotLt_iff]
  have h3 : ¬ (a.fR < b.fR ∨ (a.fR = b.fR ∧ a.fN < b.fN)) := fun e => by rw [dotLt_iff.2 e] at h2; cases h2
  have h4 : ¬ (a.fR = b.fR ∧ a.fN = b.fN) := fun e => h (sameD_iff.1 (decide_eq_true e))
  omega
/-- What is not there yet may be put, and then it is there. -/
theorem put_new {p : MGraph} {it : MItem} (hp : graphP p = true) (hi : itemP it = true) (hl : p.fItems.length < 100) (hn : ∀ x, x ∈ p.fItems → x.fD ≠ it.fD) :
    putOk p it = true ∧ (∀ x, x ∈ (putG p it).fItems ↔ x ∈ p.fItems ∨ x = it) ∧ (putG p it).fItems = insAt p.fItems (firstGt it.fD p.fItems) it := by
  obtain ⟨l⟩ := p
  simp only at *
  obtain ⟨g1, g2, g3⟩ := graph_iff.1 hp
  have hq := firstGt_le it.fD l
  have hmem : ∀ x, x ∈ insAt l (firstGt it.fD l) it ↔ x ∈ l ∨ x = it := fun x => by
    unfold insAt
    rw [List.mem_append, List.mem_cons]
    constructor
    · rintro (h | h | h)
      · exact .inl (List.mem_of_mem_take h)
      · exact .inr h
      · exact .inl (List.mem_of_mem_drop h)
    · rintro (h | h)
      · rw [← List.take_append_drop (firstGt it.fD l) l, List.mem_append] at h
        exact h.imp id .inr
      · exact .inr (.inl h)
  have hok : graphP ⟨insAt l (firstGt it.fD l) it⟩ = true := by
    refine graph_iff.2 ⟨by rw [insAt_length hq]; omega, fun x hx => ?_, ?_⟩
    · rcases (hmem x).1 hx with h | h
      · exact g2 x h
      · rw [h]; exact hi
    · unfold insAt
      rw [List.pairwise_append, List.pairwise_cons]
      have hlo : ∀ x, x ∈ l.take (firstGt it.fD l) → dotLt x.fD it.fD = true := fun x hx => by
        rw [List.mem_take_iff_getElem] at hx
        obtain ⟨j, hj, rfl⟩ := hx
        exact dotLt_total (fun e => hn _ (List.getElem_mem (by omega)) e.symm) (firstGt_lo j (by omega) (by omega))
      have hhi : ∀ x, x ∈ l.drop (firstGt it.fD l) → dotLt it.fD x.fD = true := fun x hx => by
        rw [List.mem_drop_iff_getElem] at hx
        obtain ⟨j, hj, rfl⟩ := hx
        have h0 : firstGt it.fD l < l.length := by omega
        have h1 := firstGt_hit h0
        by_cases hj0 : j = 0
        · subst hj0; simpa using h1
        · exact dotLt_trans h1 ((List.pairwise_iff_getElem.1 g3) _ _ h0 (by omega) (by omega))
      exact ⟨g3.sublist (List.take_sublist _ _), ⟨hhi, g3.sublist (List.drop_sublist _ _)⟩, fun a ha b hb => by
        rcases List.mem_cons.1 hb with rfl | hb
        · exact hlo a ha
        · exact dotLt_trans (hlo a ha) (hhi b hb)⟩
  have hno : hasI l it.fD = false := hasI_no (fun j hj => sameD_no (hn _ (List.getElem_mem hj)))
  have hput : putOk ⟨l⟩ it = true := by
    show (!hasI l it.fD && graphP ⟨insAt l (firstGt it.fD l) it⟩) = true
    rw [hno, hok]; rfl
  have hG : putG ⟨l⟩ it = ⟨insAt l (firstGt it.fD l) it⟩ := by unfold putG; rw [hput]; rfl
  rw [hG]
  exact ⟨hput, hmem, rfl⟩

/-- A graph of the first P dots, deps among all twelve. -/
structure FulSt (m : MGraph) (P : Nat) : Prop where
  ok : graphP m = true
  len : m.fItems.length = P
  dots : ∀ d, (∃ it, it ∈ m.fItems ∧ it.fD = d) ↔ ∃ i, i < P ∧ fullD i = d
  deps : ∀ it, it ∈ m.fItems → ∀ d, d ∈ it.fDeps → ∃ i, i < 12 ∧ fullD i = d
theorem FulSt.nil : FulSt ⟨[]⟩ 0 := ⟨rfl, rfl, fun d => ⟨(fun ⟨it, h, _⟩ => by cases h), (fun ⟨i, h, _⟩ => by omega)⟩, (fun it h => by cases h)⟩
theorem FulSt.put {m : MGraph} {P : Nat} {own : MDot} {l : List MDot} (h : FulSt m P) (hP : P < 12) (ho : fullD P = own) (hd : DepSt l own 12) (hl : l.length ≤ 60) : FulSt (putG m ⟨own, l⟩) (P + 1) := by
  have hn : ∀ x, x ∈ m.fItems → x.fD ≠ own := fun x hx e => by
    obtain ⟨i, hi, e2⟩ := (h.dots own).1 ⟨x, hx, e⟩
    have := fullD_lt hi
    rw [e2, ho, dotLt_self] at this
    cases this
  obtain ⟨h1, h2, h3⟩ := put_new (it := ⟨own, l⟩) h.ok (hd.item hl (by rw [← ho]; exact fullD_ok hP)) (by rw [h.len]; omega) hn
  refine ⟨?_, ?_, fun d => ?_, fun it hit d hdd => ?_⟩
  · unfold putG; rw [h1]; unfold putOk at h1; rw [Bool.and_eq_true] at h1; exact h1.2
  · rw [h3, insAt_length (firstGt_le _ _), h.len]
  · constructor
    · rintro ⟨it, hit, rfl⟩
      rcases (h2 it).1 hit with hit | rfl
      · obtain ⟨i, hi, e⟩ := (h.dots it.fD).1 ⟨it, hit, rfl⟩; exact ⟨i, by omega, e⟩
      · exact ⟨P, by omega, ho⟩
    · rintro ⟨i, hi, rfl⟩
      by_cases hip : i < P
      · obtain ⟨it, hit, e⟩ := (h.dots (fullD i)).2 ⟨i, hip, rfl⟩; exact ⟨it, (h2 it).2 (.inl hit), e⟩
      · have : i = P := by omega
        subst this
        exact ⟨⟨own, l⟩, (h2 _).2 (.inr rfl), ho.symm⟩
  · rcases (h2 it).1 hit with hit | rfl
    · exact h.deps it hit d hdd
    · exact hd.at_ d hdd
/-- In a full graph each dep is there. -/
theorem FulSt.closed {m : MGraph} (h : FulSt m 12) {it : MItem} (hi : it ∈ m.fItems) {d : MDot} (hd : d ∈ it.fDeps) : ∃ x, x ∈ m.fItems ∧ x.fD = d := (h.dots d).2 (h.deps it hi d hd)
theorem whole_closed {m : MGraph} (h : ∀ it, it ∈ m.fItems → ∀ d, d ∈ it.fDeps → ∃ x, x ∈ m.fItems ∧ x.fD = d) (i : Nat) : wholeAt m.fItems i := by
  have hno : ∀ k, ¬ lacks m.fItems k := fun k ⟨hk, d, hd, hn⟩ => by
    obtain ⟨x, hx, e⟩ := h _ (List.getElem_mem hk) d hd
    obtain ⟨j, hj, rfl⟩ := List.mem_iff_getElem.1 hx
    rw [hasI_yes hj (sameD_iff.2 e)] at hn
    cases hn
  exact ⟨hno i, fun k _ => hno k⟩
/-- Where all is closed, all is in the order. -/
theorem order_all {m : MGraph} {L : List MDot} (hg : graphP m = true) (h : ∀ it, it ∈ m.fItems → ∀ d, d ∈ it.fDeps → ∃ x, x ∈ m.fItems ∧ x.fD = d) (hL : OrderL m L) : L.length = m.fItems.length := by
  obtain ⟨W, hW⟩ : ∃ L, WholeL m L := ⟨_, .inr ⟨hg, fun _ => true, fun j _ => ⟨fun _ => whole_closed h j, fun _ => rfl⟩, rfl⟩⟩
  rw [hL.count hW]
  rcases hW with ⟨h1, _⟩ | ⟨_, P, hP, rfl⟩
  · rw [h1] at hg; cases hg
  · rw [pickT_count P _ _ (Nat.le_refl _)]
    have : ∀ n, n ≤ m.fItems.length → (List.range n).countP P = n := by
      intro n
      induction n with
      | zero => intro _; rfl
      | succ n ih =>
        intro hn
        rw [List.range_succ, List.countP_append, ih (by omega)]
        have := (hP n (by omega)).2 (whole_closed h n)
        simp [this]
    exact this _ (Nat.le_refl _)


/-- What the draw of a full graph answers. -/
def GraphFull (w : World) (g : Nat) (e : Ending) (w' : World) : Prop :=
  ∃ (cs : List Value) (m : MGraph), e = .returned (.agg cs.toArray) ∧ OutG w.heap.size w' cs m ∧ FulSt m 12 ∧ CurOk w' g ∧ w.grownBy w' (some g)

set_option maxHeartbeats 4000000 in
theorem l8Full_full {g : Nat} {w : World} (hc : CurOk w g) :
    Calls Tryd.prog 58 #[.pointer (some ⟨g, 0, none⟩)] w fun e w' => GraphFull w g e w' := by
  obtain ⟨iT, hiT, hz0, hz1, hz2⟩ := info_parts Tryd.infoOfDot
  have hgl := hc.lt
  obtain ⟨wq, hwq⟩ : ∃ x, x = (w.alloc (.cells #[.slice none 0 0] 30)).alloc (.cells #[.slice none 0 0] 30) := ⟨_, rfl⟩
  have HS0 : Hid (DrSt w g ⟨[]⟩ none 0 wq) := by
    unfold Hid; rw [hwq]
    exact ⟨(Bw.new _ _ _).alloc _, Bw.new' _ _ _ (by simp), OutG.mk' (.inl ⟨rfl, rfl, rfl⟩) List.nodup_nil (fun b hb => by cases hb), graphP_nil, (hc.alloc _).alloc _, grown_alloc (World.grownBy_alloc _ _ _) _, by simp, hgl⟩
  go_enter Tryd.func58, Tryd.ntmps58
  go_wp2_with (rw [← hwq])
  refine (l1Below_ok _ HS0.out.c).mono ?_
  rintro e w1 ⟨x, rfl, hx, hc1, hg1⟩
  have HS1 := Hid.mk (HS0.out.cursor hc1 hg1)
  have hxb : 0 ≤ x ∧ x < 6 := by omega
  clear hwq HS0 hx hc1 hg1 hc
  go_wp2_with fail
  obtain ⟨kk, hkk⟩ : ∃ z, z = 2 + x := ⟨_, rfl⟩
  rw [← hkk]
  clear hkk hxb
  go_loopw [5] (fun i wr => ∃ (p : Nat) (m : MGraph) (a : Option Addr) (c : Nat), i = .int .i64 p ∧ (1 ≤ p ∧ p ≤ 4) ∧ Hid (DrSt w g m a c wr) ∧ Hid (FulSt m (4 * (p - 1)))) (fun i _ => 4 - (intOf i).toNat)
  case atStart => exact ⟨1, _, _, _, rfl, by omega, HS1, Hid.mk FulSt.nil⟩
  case round =>
   clear HS1
   obtain ⟨p, m, a, c, rfl, hp, HS, HFO⟩ := hrel
   by_cases hp4 : p < 4
   · have hdp : decide ((p : Int) < 4) = true := decide_eq_true (by omega)
     go_wp2_with fail
     clear hdp
     go_loopw [6] (fun i wr => ∃ (k : Nat) (m : MGraph) (a : Option Addr) (c : Nat), i = .int .i64 k ∧ (1 ≤ k ∧ k ≤ 5) ∧ Hid (DrSt w g m a c wr) ∧ Hid (FulSt m (4 * (p - 1) + (k - 1)))) (fun i _ => 5 - (intOf i).toNat)
     case atStart => exact ⟨1, _, _, _, rfl, by omega, HS, HFO⟩
     case round =>
      clear HS HFO
      obtain ⟨k, m, a, c, rfl, hk, HS1, HFU⟩ := hrel
      by_cases hk5 : k < 5
      · obtain ⟨w1, hw1⟩ : ∃ z, z = wr := ⟨_, rfl⟩
        subst hw1
        have hdk : decide ((k : Int) < 5) = true := decide_eq_true (by omega)
        have hzz := HS1.out.z
        obtain ⟨w2, hw2⟩ : ∃ z, z = w1.alloc (.cells #[.int .i64 (p : Int), .int .i64 (k : Int), .slice none 0 0] 52) := ⟨_, rfl⟩
        have HI0 : Hid (ItSt g w1 (p : Int) (k : Int) (.slice none 0 0) [] [] w2) := by
          unfold Hid; rw [hw2]
          exact ⟨Bw.new _ _ _, .inl ⟨rfl, rfl, rfl⟩, List.nodup_nil, (fun b hb => by cases hb), HS1.out.c.alloc _, World.grownBy_alloc _ _ _, by omega⟩
        go_wp2_with (rw [← hw2])
        clear hw2
        go_loopw [8] (fun i wr => ∃ (r : Nat) (a1 : Option Addr) (c1 : Nat) (l : List MDot) (F : List Nat), i = .int .i64 r ∧ (1 ≤ r ∧ r ≤ 4 ∧ l.length ≤ 4 * (r - 1)) ∧ Hid (ItSt g w1 (p : Int) (k : Int) (.slice a1 l.length c1) l F wr) ∧ Hid (DepSt l ⟨(p : Int), (k : Int)⟩ (4 * (r - 1)))) (fun i _ => 4 - (intOf i).toNat)
        case atStart => exact ⟨1, none, 0, [], [], rfl, by simp, HI0, Hid.mk (DepSt.nil _)⟩
        case round =>
          clear HI0
          obtain ⟨r, a1, c1, l, F, rfl, hr, HI, HDO⟩ := hrel
          by_cases hr4 : r < 4
          · skip
            have hd4 : decide ((r : Int) < 4) = true := decide_eq_true (by omega)
            go_wp2_with fail
            clear hd4
            go_loopw [9] (fun i wr => ∃ (n : Nat) (a2 : Option Addr) (c2 : Nat) (l2 : List MDot) (F2 : List Nat), i = .int .i64 n ∧ (1 ≤ n ∧ n ≤ 5 ∧ l2.length ≤ 4 * (r - 1) + (n - 1)) ∧ Hid (ItSt g w1 (p : Int) (k : Int) (.slice a2 l2.length c2) l2 F2 wr) ∧ Hid (DepSt l2 ⟨(p : Int), (k : Int)⟩ (4 * (r - 1) + (n - 1)))) (fun i _ => 5 - (intOf i).toNat)
            case atStart => exact ⟨1, a1, c1, l, F, rfl, by omega, HI, HDO⟩
            case round =>
              have hr1 := hr.1
              clear HI hr HDO
              obtain ⟨n, a2, c2, l2, F2, rfl, hn, HI, HDE⟩ := hrel
              have hgI := HI.out.lt
              by_cases hn6 : n < 5
              · obtain ⟨w2, hw2⟩ : ∃ z, z = wr.alloc (.cells #[.int .i64 r, .int .i64 n] 40) := ⟨_, rfl⟩
                have HI2 : Hid (ItSt g w1 (p : Int) (k : Int) (.slice a2 l2.length c2) l2 F2 w2) := by unfold Hid; rw [hw2]; exact HI.out.alloc _
                have hbd : Bw w2 wr.heap.size 40 [.int .i64 r, .int .i64 n] := by rw [hw2]; exact Bw.new _ _ _
                have hgr := HI.out.b.lt
                have d0 := hbd.cell 0 _ rfl
                have d1 := hbd.cell 1 _ rfl
                have q0 := HI.out.b.cell 0 _ rfl
                have q1 := HI.out.b.cell 1 _ rfl
                have hne : ¬ w1.heap.size = wr.heap.size := by omega
                have hne2 : ¬ wr.heap.size = w1.heap.size := by omega
                have HDM : Hid (DepSt l2 ⟨(p : Int), (k : Int)⟩ (4 * (r - 1) + (n + 1 - 1))) := HDE.out.more (by omega)
                have HN : Hid (oDot w2 [.int .i64 r, .int .i64 n] ⟨r, n⟩ []) := ⟨rfl, wf_seven (by show (0 : Int) ≤ r; omega) (by show (r : Int) < 7; omega), wf_seven (by show (0 : Int) ≤ n; omega) (by show (n : Int) < 7; omega), rfl⟩
                clear HI
                by_cases he : (r : Int) = (p : Int) ∧ (n : Int) = (k : Int)
                · obtain ⟨he1, he2⟩ := he
                  rw [← he1] at q0
                  rw [← he2] at q1
                  go_wp2_with (rw [← hw2])
                  rw [← show w2 = wr.alloc (.cells #[.int .i64 (p : Int), .int .i64 (k : Int)] 40) by rw [hw2, he1, he2]]
                  exact ⟨⟨n + 1, a2, c2, l2, F2, by rw [← he2]; go_num, by omega, HI2, HDM⟩, by rw [← he2]; simp [intOf]; omega⟩
                · have he1 : (r : Int) ≠ (p : Int) ∨ (n : Int) ≠ (k : Int) := by omega
                  clear he
                  rcases he1 with he1 | he1
                  · have hf1 : decide ((r : Int) = (p : Int)) = false := decide_eq_false he1
                    have hf2 : ¬ r = p := by omega
                    have hf3 : decide (r = p) = false := decide_eq_false hf2
                    go_wp2_with (rw [← hw2])
                    refine (l1Once_ok _ HI2.out.c).mono ?_
                    rintro e w3 ⟨b, rfl, hc3, hg3⟩
                    have HI3 := Hid.mk (HI2.out.cursor hc3 hg3)
                    have hbd3 := hbd.grown hg3 (by simp; omega)
                    clear hw2 d0 d1 q0 q1 hne hne2 hbd hc3 hg3 HI2
                    cases b with
                    | false =>
                      go_wp2_with fail
                      exact ⟨⟨n + 1, a2, c2, l2, F2, by go_num, by omega, HI3, HDM⟩, by simp [intOf]; omega⟩
                    | true =>
                      have d0 := hbd3.cell 0 _ rfl
                      have d1 := hbd3.cell 1 _ rfl
                      have q2 := HI3.out.b.cell 2 _ rfl
                      obtain ⟨w4, hw4⟩ : ∃ z, z = w3.alloc (.cells #[.int .i64 r, .int .i64 n] 40) := ⟨_, rfl⟩
                      have HI4 : Hid (ItSt g w1 (p : Int) (k : Int) (.slice a2 l2.length c2) l2 F2 w4) := by unfold Hid; rw [hw4]; exact HI3.out.alloc _
                      have hbx4 : Bx w4 w3.heap.size [.int .i64 r, .int .i64 n] := by rw [hw4]; exact Bx.new _ _ _
                      obtain ⟨rs, hrs, hnext⟩ := HI4.out.app
                      have HNX := Hid.mk hnext
                      have HDA : Hid (DepSt (l2 ++ [(⟨r, n⟩ : MDot)]) ⟨(p : Int), (k : Int)⟩ (4 * (r - 1) + (n + 1 - 1))) := by
                        have h9 := HDE.out.app (d := ⟨r, n⟩) (fullD_at hr1 hn.1 (by omega)) (fun e9 => by simp only [MDot.mk.injEq] at e9; omega)
                        have e8 : 4 * (r - 1) + (n - 1) + 1 = 4 * (r - 1) + (n + 1 - 1) := by omega
                        rw [e8] at h9
                        exact h9
                      clear hnext
                      go_wp2_with (at_builtin; rw [← hw4]; refine wpList_append_src_y rfl _ _ 26 26 rfl 0 40 iT (.agg #[.int .i64 0, .int .i64 0]) 2 16 Tryd.underlying26 hiT hz0 hz1 hz2 rfl _ _ _ rfl hrs _ rfl 1 _ (Src.ofSlice w4 Tryd.underlying26 ⟨w3.heap.size, 0, none⟩ 1 1 _ rfl (bx_news hbx4) (by intro u hu; simp at hu; rcases hu with rfl | rfl <;> rfl)) (by unfold maxLen; omega) (by omega) (Nat.zero_le _) ?_; intro v5 w5 ho5 hgr5 hat5; obtain ⟨F5, hI5, hb5⟩ := HNX.out w5 v5 _ ⟨r, n⟩ ho5 hgr5 hat5 ⟨rfl, HN.out.2.1, HN.out.2.2.1, rfl⟩; obtain ⟨a5, c5, rfl, _⟩ := id (ownS.read oDot_good hI5.o); have HI5 := Hid.mk hI5; have HL5 : Hid ((l2 ++ [(⟨r, n⟩ : MDot)]).length = l2.length + 1) := (by unfold Hid; simp); have q3 := hb5.cell 2 _ rfl; have q4 := hb5.free 2; have q5 := hb5.lt; generalize l2 ++ [(⟨r, n⟩ : MDot)] = l5 at *; clear hI5 hb5 HNX ho5 hgr5 hat5)
                      exact ⟨⟨n + 1, a5, c5, l5, F5, by go_num, by have h9 := HL5.out; omega, HI5, HDA⟩, by simp [intOf]; omega⟩
                  · have hf1 : decide ((n : Int) = (k : Int)) = false := decide_eq_false he1
                    have hf2 : ¬ n = k := by omega
                    have hf3 : decide (n = k) = false := decide_eq_false hf2
                    go_wp2_with (rw [← hw2])
                    refine (l1Once_ok _ HI2.out.c).mono ?_
                    rintro e w3 ⟨b, rfl, hc3, hg3⟩
                    have HI3 := Hid.mk (HI2.out.cursor hc3 hg3)
                    have hbd3 := hbd.grown hg3 (by simp; omega)
                    clear hw2 d0 d1 q0 q1 hne hne2 hbd hc3 hg3 HI2
                    cases b with
                    | false =>
                      go_wp2_with fail
                      exact ⟨⟨n + 1, a2, c2, l2, F2, by go_num, by omega, HI3, HDM⟩, by simp [intOf]; omega⟩
                    | true =>
                      have d0 := hbd3.cell 0 _ rfl
                      have d1 := hbd3.cell 1 _ rfl
                      have q2 := HI3.out.b.cell 2 _ rfl
                      obtain ⟨w4, hw4⟩ : ∃ z, z = w3.alloc (.cells #[.int .i64 r, .int .i64 n] 40) := ⟨_, rfl⟩
                      have HI4 : Hid (ItSt g w1 (p : Int) (k : Int) (.slice a2 l2.length c2) l2 F2 w4) := by unfold Hid; rw [hw4]; exact HI3.out.alloc _
                      have hbx4 : Bx w4 w3.heap.size [.int .i64 r, .int .i64 n] := by rw [hw4]; exact Bx.new _ _ _
                      obtain ⟨rs, hrs, hnext⟩ := HI4.out.app
                      have HNX := Hid.mk hnext
                      have HDA : Hid (DepSt (l2 ++ [(⟨r, n⟩ : MDot)]) ⟨(p : Int), (k : Int)⟩ (4 * (r - 1) + (n + 1 - 1))) := by
                        have h9 := HDE.out.app (d := ⟨r, n⟩) (fullD_at hr1 hn.1 (by omega)) (fun e9 => by simp only [MDot.mk.injEq] at e9; omega)
                        have e8 : 4 * (r - 1) + (n - 1) + 1 = 4 * (r - 1) + (n + 1 - 1) := by omega
                        rw [e8] at h9
                        exact h9
                      clear hnext
                      go_wp2_with (at_builtin; rw [← hw4]; refine wpList_append_src_y rfl _ _ 26 26 rfl 0 40 iT (.agg #[.int .i64 0, .int .i64 0]) 2 16 Tryd.underlying26 hiT hz0 hz1 hz2 rfl _ _ _ rfl hrs _ rfl 1 _ (Src.ofSlice w4 Tryd.underlying26 ⟨w3.heap.size, 0, none⟩ 1 1 _ rfl (bx_news hbx4) (by intro u hu; simp at hu; rcases hu with rfl | rfl <;> rfl)) (by unfold maxLen; omega) (by omega) (Nat.zero_le _) ?_; intro v5 w5 ho5 hgr5 hat5; obtain ⟨F5, hI5, hb5⟩ := HNX.out w5 v5 _ ⟨r, n⟩ ho5 hgr5 hat5 ⟨rfl, HN.out.2.1, HN.out.2.2.1, rfl⟩; obtain ⟨a5, c5, rfl, _⟩ := id (ownS.read oDot_good hI5.o); have HI5 := Hid.mk hI5; have HL5 : Hid ((l2 ++ [(⟨r, n⟩ : MDot)]).length = l2.length + 1) := (by unfold Hid; simp); have q3 := hb5.cell 2 _ rfl; have q4 := hb5.free 2; have q5 := hb5.lt; generalize l2 ++ [(⟨r, n⟩ : MDot)] = l5 at *; clear hI5 hb5 HNX ho5 hgr5 hat5)
                      exact ⟨⟨n + 1, a5, c5, l5, F5, by go_num, by have h9 := HL5.out; omega, HI5, HDA⟩, by simp [intOf]; omega⟩
              · have hn5 : n = 5 := by omega
                subst hn5
                go_wp2_with fail
                go_roundw
                case rel => exact ⟨r + 1, a2, c2, l2, F2, by go_num, by omega, HI, HDE.out.more (by omega)⟩
                case measure => simp [intOf]; omega
          · have hr5 : r = 4 := by omega
            subst hr5
            have q0 := HI.out.b.cell 0 _ rfl
            have q1 := HI.out.b.cell 1 _ rfl
            have q2 := HI.out.b.cell 2 _ rfl
            have HD := Hid.mk (HS1.out.cursor HI.out.c HI.out.k)
            have q3 := HD.out.v.cell 0 _ rfl
            have HO := Hid.mk HD.out.o.read
            have HR : Hid (rItem wr.heap.size wr [.int .i64 (p : Int), .int .i64 (k : Int), .slice a1 l.length c1] ⟨⟨(p : Int), (k : Int)⟩, l⟩) := by
              obtain ⟨a9, c9, he9, hL9⟩ := ownS.read oDot_good HI.out.o
              simp only [Value.slice.injEq, true_and] at he9
              obtain ⟨rfl, rfl⟩ := he9
              exact ⟨_, _, rfl, wf_seven (by show 0 ≤ (p : Int); omega) (by show (p : Int) < 7; omega), wf_seven (by show 0 ≤ (k : Int); omega) (by show (k : Int) < 7; omega), hL9, trivial⟩
            have HW : Hid (wItem ⟨⟨(p : Int), (k : Int)⟩, l⟩ ≤ 1048576) := by
              have h6 : sumW wDot l ≤ l.length * 0 := sumW_all (fun y _ => Nat.le_refl 0)
              show l.length + sumW wDot l ≤ 1048576
              omega
            go_wp2_with fail
            refine (specGraphPut_o [.slice a m.fItems.length c] m [.int .i64 (p : Int), .int .i64 (k : Int), .slice a1 l.length c1] ⟨⟨(p : Int), (k : Int)⟩, l⟩ wr HO.out HR.out (Nat.le_trans (graphP_w HD.out.p) (by omega)) HW.out).mono ?_
            rintro e w5 ⟨cs5, rfl, ho5, hb5⟩
            obtain ⟨a5, c5, rfl⟩ := ho5.shape
            have HO5 := Hid.mk ho5
            have HF5 : Hid (FulSt (putG m ⟨⟨(p : Int), (k : Int)⟩, l⟩) (4 * (p - 1) + (k + 1 - 1))) := by
              have h9 := HFU.out.put (own := ⟨(p : Int), (k : Int)⟩) (l := l) (by omega) (fullD_at (by omega) (by omega) (by omega)) HDO.out (by omega)
              have e8 : 4 * (p - 1) + (k - 1) + 1 = 4 * (p - 1) + (k + 1 - 1) := by omega
              rw [e8] at h9
              exact h9
            have HP5 : Hid (graphP (putG m ⟨⟨(p : Int), (k : Int)⟩, l⟩) = true) := graphP_put HD.out.p
            have hv5 := HD.out.v.under hb5
            have hr5 := HD.out.r.under hb5
            have hc5 : CurOk w5 g := HD.out.c.below hb5
            have hk5 : w.grownBy w5 (some g) := grown_trans HD.out.k (grown_of_below hb5 _)
            have hz5 : w.heap.size + 1 + 1 ≤ w5.heap.size := Nat.le_trans HD.out.z hb5.size
            have hzr := HD.out.z
            have q4 := hv5.cell 0 _ rfl
            have q5 := hv5.free 0
            have q6 := hv5.lt
            have HD6 : Hid (DrSt w g (putG m ⟨⟨(p : Int), (k : Int)⟩, l⟩) a5 c5 (w5.setCell ⟨w.heap.size + 1, 0, none⟩ (.slice a5 (putG m ⟨⟨(p : Int), (k : Int)⟩, l⟩).fItems.length c5))) :=
              ⟨hr5.other' (by omega), hv5.put 0 _, (HO5.out.mono (by omega)).keep (fun b hB _ => heap_setCell_other w5 ⟨w.heap.size + 1, 0, none⟩ b _ (by show b ≠ w.heap.size + 1; omega)), HP5.out, hc5.setCell (p := ⟨w.heap.size + 1, 0, none⟩) (by show g < w.heap.size + 1; omega) _, grown_setCell hk5 (p := ⟨w.heap.size + 1, 0, none⟩) (by show w.heap.size ≤ w.heap.size + 1; omega) _, by simpa [World.setCell] using hz5, hgl⟩
            generalize putG m ⟨⟨(p : Int), (k : Int)⟩, l⟩ = m6 at *
            clear q0 q1 q2 q3 ho5 hb5 hv5 hr5 hc5 hk5 HO HR HW HI HS1
            go_wp2_with fail
            go_roundw
            case rel => exact ⟨k + 1, m6, a5, c5, by go_num, by omega, HD6, HF5⟩
            case measure => simp [intOf]; omega
      · have hk6 : k = 5 := by omega
        subst hk6
        go_wp2_with fail
        go_roundw
        case rel => exact ⟨p + 1, m, a, c, by go_num, by omega, HS1, (show 4 * (p - 1) + (5 - 1) = 4 * (p + 1 - 1) by omega) ▸ HFU⟩
        case measure => simp [intOf]; omega
   · have hp5 : p = 4 := by omega
     subst hp5
     clear hp
     have q0 := HS.out.v.cell 0 _ rfl
     have q1 := HS.out.r.cell 0 _ rfl
     have q2 := HS.out.r.free 0
     have q3 := HS.out.r.lt
     go_wp2_with fail
     refine bodyPost_ret (v := .agg #[.slice a m.fItems.length c]) (by simp [results, Tryd.results58, go_sem, *]) rfl (show GraphFull w g _ _ from ⟨[.slice a m.fItems.length c], m, rfl, ?_, HFO.out, ?_, ?_⟩)
     · exact (HS.out.o.keep (fun b hB _ => heap_setCell_other wr ⟨w.heap.size, 0, none⟩ b _ (by show b ≠ w.heap.size; omega))).mono (by omega)
     · exact HS.out.c.setCell (p := ⟨w.heap.size, 0, none⟩) hgl _
     · exact grown_setCell HS.out.k (p := ⟨w.heap.size, 0, none⟩) (Nat.le_refl _) _


/-- What a draw of any graph answers. -/
def GraphAny (w : World) (g : Nat) (e : Ending) (w' : World) : Prop :=
  ∃ (cs : List Value) (m : MGraph), e = .returned (.agg cs.toArray) ∧ OutG w.heap.size w' cs m ∧ wGraph m ≤ 6300 ∧ CurOk w' g ∧ w.grownBy w' (some g)

/-- What stands while it is drawn: the answer's block, the variable's at bg, the graph in blocks beside them. -/
structure AnSt (w : World) (g bg : Nat) (v : Value) (l : List MItem) (F : List Nat) (W : World) : Prop where
  r : Bw W w.heap.size 30 [.slice none 0 0]
  x : Bw W bg 30 [v]
  o : ownS 3 52 oItem W v l F
  n : F.Nodup
  f : ∀ b, b ∈ F → w.heap.size + 1 ≤ b ∧ b ≠ bg
  c : CurOk W g
  k : w.grownBy W (some g)
  lt : g < w.heap.size
  lb : w.heap.size < bg
theorem AnSt.cursor {w W W' : World} {g bg : Nat} {v : Value} {l : List MItem} {F : List Nat} (h : AnSt w g bg v l F W) (hc : CurOk W' g) (hg : W.grownBy W' (some g)) : AnSt w g bg v l F W' :=
  have hl := h.lt
  have hb := h.lb
  ⟨h.r.grown hg (by simp; omega), h.x.grown hg (by simp; omega), ownS.frame oItem_good h.o (fun b hb => hg.block b (ownS.lt oItem_good h.o b hb) (by have := (h.f b hb).1; simp; omega)), h.n, h.f, hc, grown_trans h.k hg, h.lt, h.lb⟩
theorem AnSt.below {w W W' : World} {g bg : Nat} {v : Value} {l : List MItem} {F : List Nat} (h : AnSt w g bg v l F W) (hb : Below W.heap.size W W') : AnSt w g bg v l F W' :=
  h.cursor (h.c.below hb) (grown_of_below hb _)
theorem AnSt.done {w W : World} {g bg : Nat} {v : Value} {l : List MItem} {F : List Nat} (h : AnSt w g bg v l F W) (hw : wGraph ⟨l⟩ ≤ 6300) : GraphAny w g (.returned (.agg #[v])) (W.setCell ⟨w.heap.size, 0, none⟩ v) := by
  refine ⟨[v], ⟨l⟩, rfl, OutG.mk' (F := F) (ownS.frame oItem_good h.o (fun b hb => heap_setCell_other W ⟨w.heap.size, 0, none⟩ b _ (by have := (h.f b hb).1; show b ≠ w.heap.size; omega))) h.n (fun b hb => by have := (h.f b hb).1; omega), hw, h.c.setCell (p := ⟨w.heap.size, 0, none⟩) h.lt _, grown_setCell h.k (p := ⟨w.heap.size, 0, none⟩) (Nat.le_refl _) _⟩
/-- Another graph, new, is put into the variable. -/
theorem AnSt.store {w W : World} {g bg : Nat} {v : Value} {l : List MItem} {F : List Nat} (h : AnSt w g bg v l F W) {B : Nat} {W' : World} {a : Option Addr} {c : Nat} {m : MGraph} (hO : OutG W.heap.size W' [.slice a m.fItems.length c] m) (hc : CurOk W' g) (hg : W.grownBy W' (some g)) :
    ∃ F', AnSt w g bg (.slice a m.fItems.length c) m.fItems F' (W'.setCell ⟨bg, 0, none⟩ (.slice a m.fItems.length c)) := by
  obtain ⟨F, ⟨v0, F0, e0, ho, rfl⟩, hN, hge⟩ := hO
  simp only [List.cons.injEq, and_true] at e0
  subst e0
  rw [List.append_nil] at hN hge
  have h' := h.cursor hc hg
  have hl := h.lt
  have hb := h.lb
  have hv := h.x.lt
  refine ⟨F0, h'.r.other' (by omega), h'.x.put 0 _, ownS.frame oItem_good ho (fun b hb => heap_setCell_other W' ⟨bg, 0, none⟩ b _ (by have := hge b hb; show b ≠ bg; omega)), hN, fun b hb => by have := hge b hb; omega, h'.c.setCell (p := ⟨bg, 0, none⟩) (by show g < bg; omega) _, grown_setCell h'.k (p := ⟨bg, 0, none⟩) (by show w.heap.size ≤ bg; omega) _, h.lt, h.lb⟩
theorem AnSt.app {w W : World} {g bg : Nat} {v : Value} {l : List MItem} {F : List Nat} (h : AnSt w g bg v l F W) :
    ∃ xs, W.ownsRow 0 52 3 v l.length xs ∧ ∀ (W' : World) (v' : Value) (news : List Value) (x : MItem) (Fx : List Nat), W'.ownsRow 0 52 3 v' (l.length + 1) (xs ++ news) → W.grownBy W' v.ownBlock → (v'.ownBlock = v.ownBlock ∨ v'.ownBlock = some W.heap.size) → oItem W news x Fx → Fx.Nodup → (∀ b, b ∈ Fx → b ∉ F) → (∀ b, b ∈ Fx → w.heap.size + 1 ≤ b ∧ b ≠ bg) → ∀ l9 : List MItem, l9 = l ++ [x] →
      ∃ F' a c, v' = .slice a l9.length c ∧ AnSt w g bg (.slice a l9.length c) l9 F' (W'.setCell ⟨bg, 0, none⟩ (.slice a l9.length c)) ∧ Bw W' bg 30 [v] := by
  obtain ⟨xs, hox, hnext⟩ := ownS.push oItem_good h.o h.n
  refine ⟨xs, hox, fun W' v' news x Fx ho hg hat hx hN hd hge l9 h9 => ?_⟩
  subst h9
  obtain ⟨F', ho', hN', hF'⟩ := hnext W' v' news x Fx ho hg hat hx hN hd
  obtain ⟨a, c, hv, _⟩ := id (ownS.read oItem_good ho')
  have hl := h.lt
  have hb := h.lb
  have hk : ∀ k, v.ownBlock = some k → w.heap.size + 1 ≤ k ∧ k ≠ bg := fun k hk => h.f k (ownS.blk h.o k hk)
  have hWl : bg < W.heap.size := h.x.lt
  have hbW : Bw W' bg 30 [v] := (hg.block _ hWl (fun e => (hk _ e.symm).2 rfl)).trans h.x
  have hrW : Bw W' w.heap.size 30 [.slice none 0 0] := (hg.block _ h.r.lt (fun e => by have := (hk _ e.symm).1; omega)).trans h.r
  have hge' : ∀ b, b ∈ F' → w.heap.size + 1 ≤ b ∧ b ≠ bg := fun b hb => by
    rcases hF' b hb with h1 | h1 | h1
    · exact h.f b h1
    · exact hge b h1
    · constructor <;> omega
  subst hv
  refine ⟨F', a, c, rfl, ⟨hrW.other' (by omega), hbW.put 0 _, ownS.frame oItem_good ho' (fun b hb => heap_setCell_other W' ⟨bg, 0, none⟩ b _ (hge' b hb).2), hN', hge', ?_, ?_, h.lt, h.lb⟩, hbW⟩
  · exact (h.c.grown hg (fun k e => by have := (hk k e).1; omega)).setCell (p := ⟨bg, 0, none⟩) (by show g < bg; omega) _
  · exact grown_setCell (World.grownBy.andThen h.k hg (fun j e => .inl (by have := (hk j e).1; omega))) (p := ⟨bg, 0, none⟩) (by show w.heap.size ≤ bg; omega) _
/-- The first item's R is another one. -/
theorem AnSt.top {w W : World} {g bg : Nat} {v : Value} {l : List MItem} {F : List Nat} (h : AnSt w g bg v l F W) (hl : 0 < l.length) (z : Int) (hz : (Lit.int .i64 z).wf = true) :
    ∃ gi cap, v = .slice (some ⟨gi, 0, none⟩) l.length cap ∧ gi < W.heap.size ∧ (∃ u, W.cell? ⟨gi, 0, none⟩ = some u) ∧ W.frozen? ⟨gi, 0, none⟩ = false ∧ gi ≠ bg ∧ gi ≠ w.heap.size ∧ ∃ (l' : List MItem) (F' : List Nat), AnSt w g bg v l' F' (W.setCell ⟨gi, 0, none⟩ (.int .i64 z)) ∧ l'.length = l.length ∧ wGraph ⟨l'⟩ = wGraph ⟨l⟩ := by
  rcases id h.o with ⟨_, he, _⟩ | ⟨gi, cap, cur, Fs, hv, h2, h3, h4, h5, h6, h7, hFF⟩
  · rw [he] at hl; simp at hl
  have ho := h.o
  rw [hv] at ho
  have hgF : gi ∈ F := by rw [hFF]; simp
  have hfz : ∀ i, W.frozen? ⟨gi, i, none⟩ = false := fun i => frozen_of_row W gi i cur _ h2
  have hcell0 : ∃ u, W.cell? ⟨gi, 0, none⟩ = some u := by
    rw [cell_of_row W gi 0 cur _ (0, 0) h2]
    have h8 : 0 < cur.size := by rw [h5]; omega
    exact ⟨cur[0], Array.getElem?_eq_getElem h8⟩
  obtain ⟨F', ho', hN', hF', _⟩ := ownS.cellPut oItem_good ho h.n (k := 0) (i := 0) hl (by omega) (.int .i64 z) ⟨⟨z, l[0].fD.fN⟩, l[0].fDeps⟩ [] (fun b hb => by cases hb) (fun cs Fk hcs hN => by
    obtain ⟨v2, F2, rfl, h0, h1, h2, rfl⟩ := hcs
    exact ⟨F2 ++ [], ⟨v2, F2, rfl, hz, h1, h2, rfl⟩, hN, fun b hb => .inl hb⟩)
  have hgb := h.f gi hgF
  have hlt := h.lt
  have hlb := h.lb
  simp only [Nat.zero_mul, Nat.add_zero] at ho'
  have hlen : (l.set 0 ⟨⟨z, l[0].fD.fN⟩, l[0].fDeps⟩).length = l.length := by simp
  refine ⟨gi, cap, hv, ownS.lt oItem_good ho gi hgF, hcell0, hfz 0, hgb.2, by omega, l.set 0 ⟨⟨z, l[0].fD.fN⟩, l[0].fDeps⟩, F', ⟨h.r.other' (by omega), h.x.other' (by omega), ?_, hN', fun b hb => ?_, h.c.setCell (p := ⟨gi, 0, none⟩) (by show g < gi; omega) _, grown_setCell h.k (p := ⟨gi, 0, none⟩) (by show w.heap.size ≤ gi; omega) _, h.lt, h.lb⟩, hlen, ?_⟩
  · rw [hv]; exact ho'
  · rcases hF' b hb with h1 | h1
    · exact h.f b h1
    · cases h1
  · cases l with
    | nil => simp at hl
    | cons x r => rfl




def rdDs (B : Nat) (w : World) (v : Value) (l : List MDot) : Prop := ∃ a c, v = .slice a l.length c ∧ LeafL 2 rDot B w a c l
theorem rdDs.below {B : Nat} {w w' : World} {v : Value} {l : List MDot} (h : rdDs B w v l) (hb : Below B w w') : rdDs B w' v l := by
  obtain ⟨a, c, e, h1⟩ := h
  exact ⟨a, c, e, h1.below rDot_good hb⟩
theorem rdDs.mono {B B' : Nat} {w : World} {v : Value} {l : List MDot} (h : rdDs B w v l) (hB : B ≤ B') : rdDs B' w v l := by
  obtain ⟨a, c, e, h1⟩ := h
  exact ⟨a, c, e, LeafL.mono rDot_good h1 hB⟩
theorem rdDs_own {e : TypeId} {w : World} {v : Value} {l : List MDot} {F : List Nat} (h : ownS 2 e oDot w v l F) : rdDs w.heap.size w v l := ownS.read oDot_good h
end Go.Proofs.YtmigamgcmhdncaaDoor
