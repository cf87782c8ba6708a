/-
  The program's merge of two lists.
-/
import Derived.Test.YtiahmcclmlmgpaaDoorRegK
import Derived.Test.YtiahmcclmlmgpaaDoorMergeM
import Derived.Test.YtiahmcclmlmgpaaDoorPairK
import Derived.Test.YtiahmcclmlmgpaaDoorTabG
namespace Go.Proofs.YtiahmcclmlmgpaaDoor
open Go.RowKit Go.Maps
set_option linter.unusedVariables false
set_option linter.unusedSimpArgs false
set_option maxRecDepth 10000
abbrev q7cd_38_3_0 : Oper := ⟨some 15, .move (.tmp 0), 27, "l04_mem.go:178", #[], none⟩
abbrev q7cd_38_3_1 : Oper := ⟨some 16, .indexAddr 27 (.tmp 15) (.const (.int .i64 0)), 0, "l04_mem.go:178", #[⟨0, .data⟩], none⟩
abbrev q7cd_38_3_2 : Oper := ⟨some 17, .fieldAddr 31 (.tmp 16) 0, 0, "l04_mem.go:178", #[⟨1, .data⟩], none⟩
abbrev q7cd_38_3_3 : Oper := ⟨some 18, .load 9 (.tmp 17), 9, "l04_mem.go:178", #[⟨2, .data⟩], none⟩
abbrev q7cd_38_3_4 : Oper := ⟨some 19, .move (.tmp 1), 27, "l04_mem.go:178", #[], none⟩
abbrev q7cd_38_3_5 : Oper := ⟨some 20, .indexAddr 27 (.tmp 19) (.const (.int .i64 0)), 0, "l04_mem.go:178", #[⟨4, .data⟩], none⟩
abbrev q7cd_38_3_6 : Oper := ⟨some 21, .fieldAddr 31 (.tmp 20) 0, 0, "l04_mem.go:178", #[⟨5, .data⟩], none⟩
abbrev q7cd_38_3_7 : Oper := ⟨some 22, .load 9 (.tmp 21), 9, "l04_mem.go:178", #[⟨6, .data⟩], none⟩
abbrev q7cd_38_3_8 : Oper := ⟨some 23, .call { callee := .value (.func 44), args := #[.tmp 18, .tmp 22], argTypes := #[9, 9] }, 3, "l04_mem.go:178", #[⟨3, .data⟩, ⟨7, .data⟩], none⟩
abbrev q7cd_38_3_9 : Oper := ⟨some 6, .assign (.tmp 23), 3, "l04_mem.go:178", #[⟨8, .data⟩, ⟨8, .chain⟩, ⟨0, .phase⟩, ⟨1, .phase⟩, ⟨2, .phase⟩, ⟨3, .phase⟩, ⟨4, .phase⟩, ⟨5, .phase⟩, ⟨6, .phase⟩, ⟨7, .phase⟩, ⟨8, .phase⟩], none⟩

def sliceLen : Value → Nat
  | .slice _ n _ => n
  | _ => 0
theorem LeafL.tail {α : Type} {size : Nat} {R : Rep α} {B : Nat} {w : World} {b o c : Nat} {x : α} {l : List α} (h : LeafL size R B w (some ⟨b, o, none⟩) c (x :: l)) :
    LeafL size R B w (if c = 1 then some ⟨b, o, none⟩ else some ⟨b, o + size, none⟩) (c - 1) l := by
  have h1 := h.1
  have h2 := h.2.1
  simp only [List.length_cons] at h1
  by_cases hc : c = 1
  · rw [if_pos hc]
    have hl : l = [] := List.eq_nil_of_length_eq_zero (by omega)
    subst hl
    exact ⟨Nat.zero_le _, by omega, fun j hj => by simp at hj⟩
  · rw [if_neg hc]
    have h3 := LeafL.sub h (f := 1) (m := l.length) (c' := c - 1) (by simp; omega) (by omega) (by omega)
    simpa using h3
/-- A list of pairs, as what is appended. -/
theorem Src.prs {P : Program} {w : World} {B : Nat} {a : Option Addr} {l : List MPair} {tx e' : TypeId} {n c : Nat} (hk : P.underlying tx = some (.slice e')) (hn : l.length = n) (hr : RdS 3 rPair B w a l) :
    ∃ css : List (List Value), css.length = l.length ∧ (∀ c, c ∈ css → c.length = 3) ∧ (∀ j, (h1 : j < l.length) → (h2 : j < css.length) → rPair B w css[j] l[j]) ∧ Src P 3 tx (.slice a n c) n css.flatten w := by
  cases a with
  | none =>
    have hz : l = [] := by
      cases l with
      | nil => rfl
      | cons z r =>
        obtain ⟨_, _, h, _⟩ := hr 0 (by simp)
        cases h
    subst hz
    simp only [List.length_nil] at hn
    subst hn
    exact ⟨[], rfl, (fun _ h => by cases h), (fun _ h => by simp at h), Src.ofNil w hk c⟩
  | some ad =>
    by_cases h0 : n = 0
    · subst h0
      have hz : l = [] := List.eq_nil_of_length_eq_zero hn
      subst hz
      exact ⟨[], rfl, (fun _ h => by cases h), (fun _ h => by simp at h), Src.ofSlice w hk ad 0 c [] (by simp) (fun j u hu => by simp at hu) (fun u hu => by cases hu)⟩
    · obtain ⟨b, off, e, _⟩ := hr 0 (by omega)
      simp only [Option.some.injEq] at e
      subst e
      obtain ⟨css, c1, c2, c3, c4⟩ := hr.cells l.length (Nat.le_refl _)
      have hfl := flat_len c2
      refine ⟨css, c1, c2, c3, Src.ofSlice w hk ⟨b, off, none⟩ n c css.flatten (by rw [hfl, c1, hn]) (fun j u hu => by rw [Addr.add_lit]; exact c4 j u hu) ?_⟩
      intro v hv
      obtain ⟨cs, hcs, hvc⟩ := List.mem_flatten.1 hv
      obtain ⟨j, hj, rfl⟩ := List.mem_iff_getElem.1 hcs
      obtain ⟨e1, _⟩ := c3 j (by omega) hj
      rw [e1] at hvc
      simp at hvc
      rcases hvc with rfl | rfl | rfl <;> rfl
theorem rPair_any {B B' : Nat} {w w' : World} {cs : List Value} {m : MPair} (h : rPair B w cs m) : rPair B' w' cs m := by
  obtain ⟨h0, h1, h2, h3, h4⟩ := h
  exact ⟨h0, h1, h2, h3, h4⟩
theorem cat_rows {B : Nat} {w : World} {l1 l2 : List MPair} {c1 c2 : List (List Value)} (a1 : c1.length = l1.length) (a2 : ∀ c, c ∈ c1 → c.length = 3) (a3 : ∀ j, (h1 : j < l1.length) → (h2 : j < c1.length) → rPair B w c1[j] l1[j])
    {B' : Nat} {w' : World} (b1 : c2.length = l2.length) (b2 : ∀ c, c ∈ c2 → c.length = 3) (b3 : ∀ j, (h1 : j < l2.length) → (h2 : j < c2.length) → rPair B' w' c2[j] l2[j]) :
    (c1 ++ c2).length = (l1 ++ l2).length ∧ (∀ c, c ∈ c1 ++ c2 → c.length = 3) ∧ ∀ j, (h1 : j < (l1 ++ l2).length) → (h2 : j < (c1 ++ c2).length) → rPair B w (c1 ++ c2)[j] (l1 ++ l2)[j] := by
  refine ⟨by simp [a1, b1], fun c hc => (List.mem_append.1 hc).elim (a2 c) (b2 c), fun j h1 h2 => ?_⟩
  by_cases hj : j < l1.length
  · rw [List.getElem_append_left (by omega), List.getElem_append_left hj]
    exact a3 j hj (by omega)
  · simp only [List.length_append] at h1 h2
    rw [List.getElem_append_right (by omega), List.getElem_append_right (by omega)]
    have := b3 (j - l1.length) (by omega) (by omega)
    simp only [a1]
    exact rPair_any this
theorem rows_cat {B B1 B2 base e : Nat} {w0 w1 w2 w : World} {v : Value} {out l1 l2 : List MPair} {css s1 s2 : List (List Value)}
    (a1 : css.length = out.length) (a2 : ∀ c, c ∈ css → c.length = 3) (a3 : ∀ j, (h1 : j < out.length) → (h2 : j < css.length) → rPair B w0 css[j] out[j])
    (b1 : s1.length = l1.length) (b2 : ∀ c, c ∈ s1 → c.length = 3) (b3 : ∀ j, (h1 : j < l1.length) → (h2 : j < s1.length) → rPair B1 w1 s1[j] l1[j])
    (c1 : s2.length = l2.length) (c2 : ∀ c, c ∈ s2 → c.length = 3) (c3 : ∀ j, (h1 : j < l2.length) → (h2 : j < s2.length) → rPair B2 w2 s2[j] l2[j])
    (h : w.ownsRow base e 3 v (out.length + l1.length + l2.length) ((css.flatten ++ s1.flatten) ++ s2.flatten)) : RowR 3 e rPair B w base v (out ++ (l1 ++ l2)) := by
  obtain ⟨d1, d2, d3⟩ := cat_rows b1 b2 b3 c1 c2 c3
  obtain ⟨e1, e2, e3⟩ := cat_rows a1 a2 a3 d1 d2 d3
  exact ⟨css ++ (s1 ++ s2), e1, e2, fun j h1 h2 => rPair_any (e3 j h1 h2), own_congr h (by simp; omega) (by simp)⟩

set_option maxHeartbeats 8000000 in
theorem mergeTwo_any (a b : Option Addr) (na nb ca cb : Nat) (la lb : List MPair) (w : World) (hxa : la.length = na) (hxb : lb.length = nb) (hna : na ≤ 16777216) (hnb : nb ≤ 16777216) (hLa : LeafL 3 rPair w.heap.size w a ca la) (hLb : LeafL 3 rPair w.heap.size w b cb lb) (hT : Tabs w) :
    Calls Tryd.prog 38 #[.slice a na ca, .slice b nb cb] w fun e w' => ∃ v, e = .returned v ∧ RowR 3 31 rPair w.heap.size w' w.heap.size v (mergeP la lb) ∧ Below w.heap.size w w' := by
  obtain ⟨iP, hiP, hzP0, hzP1, hzP2⟩ := info_parts Tryd.infoPair
  have HTT := Hid.mk hT
  subst hxa
  subst hxb
  clear hT
  go_enter Tryd.func38, Tryd.ntmps38
  go_wp2_with fail
  go_loopw [0, 1, 5] (fun av bv ov wr => ∃ (xa ya : Option Addr) (c1 c2 : Nat) (l1 l2 out : List MPair), av = .slice xa l1.length c1 ∧ bv = .slice ya l2.length c2 ∧ LeafL 3 rPair w.heap.size w xa c1 l1 ∧ LeafL 3 rPair w.heap.size w ya c2 l2 ∧ RowR 3 31 rPair w.heap.size wr w.heap.size ov out ∧ out.length + l1.length + l2.length ≤ la.length + lb.length ∧ Hid (mergeP la lb = out ++ mergeP l1 l2) ∧ Below w.heap.size w wr) (fun av bv _ _ => sliceLen av + sliceLen bv)
  case atStart => exact ⟨a, b, ca, cb, la, lb, [], rfl, rfl, hLa, hLb, RowR.start, by simp, rfl, Below.refl _ _⟩
  case round =>
    obtain ⟨xa, ya, c1, c2, l1, l2, out, rfl, rfl, hL1, hL2, hrow, hol, HM, hbk⟩ := hrel
    clear hLa hLb
    have hbz := hbk.size
    cases l1 with
    | nil =>
      have HE : Hid (mergeP la lb = out ++ ([] ++ l2)) := by show _ = _; rw [HM.out, mergeP_nil]; rfl
      simp only [List.length_nil] at hol ⊢
      obtain ⟨css, r1, r2, r3, r4⟩ := hrow
      obtain ⟨s1, u1, u2, u3, u4⟩ := Src.prs (P := Tryd.prog) (n := 0) (c := c1) Tryd.underlying27 rfl (hL1.2.2.below rPair_good hbk)
      go_wp2_with (first | (at_builtin; refine wpList_append_src_at rfl _ _ 27 27 rfl w.heap.size 31 iP (.agg #[.string ⟨#[]⟩, .string ⟨#[]⟩, .bool false]) 3 40 Tryd.underlying27 hiP hzP0 hzP1 hzP2 rfl _ _ _ rfl r4 _ rfl _ s1.flatten u4 (by unfold maxLen; omega) (by omega) hbk.size ?_; intro v2 w2 ho2 hgr2 hat2; have hB2 := hbk.grown hgr2 hbk.size (fun k h => (r4.lt k h).1); obtain ⟨s2, y1, y2, y3, y4⟩ := Src.prs (P := Tryd.prog) (n := l2.length) (c := c2) Tryd.underlying27 rfl (hL2.2.2.below rPair_good hB2)) | (at_builtin; refine wpList_append_src_at rfl _ _ 27 27 rfl w.heap.size 31 iP (.agg #[.string ⟨#[]⟩, .string ⟨#[]⟩, .bool false]) 3 40 Tryd.underlying27 hiP hzP0 hzP1 hzP2 rfl _ _ _ rfl ho2 _ rfl _ s2.flatten y4 (by unfold maxLen; omega) (by omega) hB2.size ?_; intro v3 w3 ho3 hgr3 hat3))
      have hB3 := hB2.grown hgr3 hB2.size (fun k h => (ho2.lt k h).1)
      have HF := Hid.mk (rows_cat r1 r2 r3 u1 u2 u3 y1 y2 y3 ho3)
      clear r1 r2 r3 r4 u1 u2 u3 u4 y1 y2 y3 y4 ho2 ho3 hgr2 hgr3 hat2 hat3
      go_wp2_with fail
      go_ret
      exact ⟨v3, rfl, by rw [HE.out]; exact HF.out, hB3⟩
    | cons x l1 =>
      cases l2 with
      | nil =>
        have HE : Hid (mergeP la lb = out ++ (x :: l1 ++ [])) := by show _ = _; rw [HM.out, mergeP_nil']; simp
        simp only [List.length_nil, List.length_cons] at hol ⊢
        obtain ⟨css, r1, r2, r3, r4⟩ := hrow
        obtain ⟨s1, u1, u2, u3, u4⟩ := Src.prs (P := Tryd.prog) (n := l1.length + 1) (c := c1) Tryd.underlying27 rfl (hL1.2.2.below rPair_good hbk)
        go_wp2_with (first | (at_builtin; refine wpList_append_src_at rfl _ _ 27 27 rfl w.heap.size 31 iP (.agg #[.string ⟨#[]⟩, .string ⟨#[]⟩, .bool false]) 3 40 Tryd.underlying27 hiP hzP0 hzP1 hzP2 rfl _ _ _ rfl r4 _ rfl _ s1.flatten u4 (by unfold maxLen; omega) (by omega) hbk.size ?_; intro v2 w2 ho2 hgr2 hat2; have hB2 := hbk.grown hgr2 hbk.size (fun k h => (r4.lt k h).1); obtain ⟨s2, y1, y2, y3, y4⟩ := Src.prs (P := Tryd.prog) (n := 0) (c := c2) Tryd.underlying27 rfl (hL2.2.2.below rPair_good hB2)) | (at_builtin; refine wpList_append_src_at rfl _ _ 27 27 rfl w.heap.size 31 iP (.agg #[.string ⟨#[]⟩, .string ⟨#[]⟩, .bool false]) 3 40 Tryd.underlying27 hiP hzP0 hzP1 hzP2 rfl _ _ _ rfl ho2 _ rfl _ s2.flatten y4 (by unfold maxLen; omega) (by omega) hB2.size ?_; intro v3 w3 ho3 hgr3 hat3))
        have hB3 := hB2.grown hgr3 hB2.size (fun k h => (ho2.lt k h).1)
        have HF := Hid.mk (rows_cat r1 r2 r3 u1 u2 u3 y1 y2 y3 ho3)
        clear r1 r2 r3 r4 u1 u2 u3 u4 y1 y2 y3 y4 ho2 ho3 hgr2 hgr3 hat2 hat3
        go_wp2_with fail
        go_ret
        exact ⟨v3, rfl, by rw [HE.out]; exact HF.out, hB3⟩
      | cons y l2 =>
        obtain ⟨ba, oa, rfl, hBa, csa, _, hca, rfl, gx0, gx1, _, _⟩ := (hL1.2.2.below rPair_good hbk) 0 (by simp)
        obtain ⟨bb, ob, rfl, hBb, csb, _, hcb, rfl, gy0, gy1, _, _⟩ := (hL2.2.2.below rPair_good hbk) 0 (by simp)
        simp only [List.getElem_cons_zero, Nat.zero_mul, Nat.add_zero] at hca hcb gx0 gx1 gy0 gy1
        have ka0 := hca 0 _ rfl
        have ka1 := hca 1 _ rfl
        have ka2 := hca 2 _ rfl
        have kb0 := hcb 0 _ rfl
        have kb1 := hcb 1 _ rfl
        have kb2 := hcb 2 _ rfl
        rw [Nat.add_zero] at ka0 kb0
        have hn1 := hL1.1
        have hn2 := hL2.1
        have hm1 := hL1.2.1
        have hm2 := hL2.2.1
        simp only [List.length_cons] at hn1 hn2 hol ⊢
        have HRPx : Hid (∀ W : World, rPair w.heap.size W [.string x.fKey, .string x.fVal, .bool x.fGone] x) := fun W => ⟨rfl, gx0, gx1, trivial, trivial⟩
        have HRPy : Hid (∀ W : World, rPair w.heap.size W [.string y.fKey, .string y.fVal, .bool y.fGone] y) := fun W => ⟨rfl, gy0, gy1, trivial, trivial⟩
        have HK := Hid.mk (keyOrder_any x.fKey y.fKey wr.drew ((HTT.out.below hbk).below (Below.drew (Below.refl _ _))) gx0 gy0)
        go_wp2_with fail
        refine wp_region_held_drew (S := fun W => (W.cell? ⟨ba, oa, none⟩ = some (.string x.fKey) ∧ W.cell? ⟨bb, ob, none⟩ = some (.string y.fKey)) ∧ Below wr.heap.size wr W) (by kernel_rfl) (⟨⟨ka0, kb0⟩, Below.drew (Below.refl _ _)⟩) (fun hHeld => ?_)
        refine tk 0 q7cd_38_3_0 (some 15) (v := ?v1) rfl rfl (by kernel_rfl) hHeld (by rfl) (fun _ _ _ x => x) (fun w h => ?y1) ?_; (case y1 => (try dsimp only at h); go_simp; try (with_reducible rfl)); try simp only [Act.put, sa, s0, s1]
        refine tk 1 q7cd_38_3_1 (some 16) (v := ?v2) rfl rfl (by kernel_rfl) hHeld (by rfl) (fun _ _ _ x => x) (fun w h => ?y2) ?_; (case y2 => (try dsimp only at h); go_simp; try (with_reducible rfl)); try simp only [Act.put, sa, s0, s1]
        refine tk 2 q7cd_38_3_2 (some 17) (v := ?v3) rfl rfl (by kernel_rfl) hHeld (by rfl) (fun _ _ _ x => x) (fun w h => ?y3) ?_; (case y3 => (try dsimp only at h); go_simp; try (with_reducible rfl)); try simp only [Act.put, sa, s0, s1]
        refine tk 3 q7cd_38_3_3 (some 18) (v := ?v4) rfl rfl (by kernel_rfl) hHeld (by rfl) (fun _ _ _ x => x) (fun w h => ?y4) ?_; (case y4 => (try dsimp only at h); go_simp; try (with_reducible rfl)); try simp only [Act.put, sa, s0, s1]
        refine tk 4 q7cd_38_3_4 (some 19) (v := ?v5) rfl rfl (by kernel_rfl) hHeld (by rfl) (fun _ _ _ x => x) (fun w h => ?y5) ?_; (case y5 => (try dsimp only at h); go_simp; try (with_reducible rfl)); try simp only [Act.put, sa, s0, s1]
        refine tk 5 q7cd_38_3_5 (some 20) (v := ?v6) rfl rfl (by kernel_rfl) hHeld (by rfl) (fun _ _ _ x => x) (fun w h => ?y6) ?_; (case y6 => (try dsimp only at h); go_simp; try (with_reducible rfl)); try simp only [Act.put, sa, s0, s1]
        refine tk 6 q7cd_38_3_6 (some 21) (v := ?v7) rfl rfl (by kernel_rfl) hHeld (by rfl) (fun _ _ _ x => x) (fun w h => ?y7) ?_; (case y7 => (try dsimp only at h); go_simp; try (with_reducible rfl)); try simp only [Act.put, sa, s0, s1]
        refine tk 7 q7cd_38_3_7 (some 22) (v := ?v8) rfl rfl (by kernel_rfl) hHeld (by rfl) (fun _ _ _ x => x) (fun w h => ?y8) ?_; (case y8 => (try dsimp only at h); go_simp; try (with_reducible rfl)); try simp only [Act.put, sa, s0, s1]
        refine wpAnyH_ready (rs := [8]) (by kernel_rfl) (by simp) ?_
        refine AllReadyH.cons (o := q7cd_38_3_8) rfl (fun K hK => ?_) AllReadyH.nil
        go_simp
        refine Calls.mono HK.out ?_
        rintro e w1 ⟨rfl, hx1⟩
        go_wp2_with fail
        refine hK.out _ _ (⟨⟨(hx1.cell (p := ⟨ba, oa, none⟩) (by show ba < wr.heap.size; omega)).trans hHeld.1.1, (hx1.cell (p := ⟨bb, ob, none⟩) (by show bb < wr.heap.size; omega)).trans hHeld.1.2⟩, bthen hHeld.2 hx1⟩) (fun hHeld => ?_)
        clear hK K
        try simp only [Act.put, sa, s0, s1]
        refine tk 9 q7cd_38_3_9 (some 6) (v := ?v9) rfl rfl (by kernel_rfl) hHeld (by rfl) (fun _ _ _ x => x) (fun w h => ?y9) ?_; (case y9 => (try dsimp only at h); go_simp; try (with_reducible rfl)); try simp only [Act.put, sa, s0, s1]
        refine wpAnyH_done (by kernel_rfl) ?_ _
        have hb1 : Below wr.heap.size wr w1 := bthen (Below.drew (Below.refl _ _)) hx1
        have hB1 := hbk.trans (hb1.mono hbk.size)
        have ca0 := (hb1.cell (p := ⟨ba, oa, none⟩) (by show ba < _; omega)).trans ka0
        have ca1 := (hb1.cell (p := ⟨ba, oa + 1, none⟩) (by show ba < _; omega)).trans ka1
        have ca2 := (hb1.cell (p := ⟨ba, oa + 2, none⟩) (by show ba < _; omega)).trans ka2
        have cb0 := (hb1.cell (p := ⟨bb, ob, none⟩) (by show bb < _; omega)).trans kb0
        have cb1 := (hb1.cell (p := ⟨bb, ob + 1, none⟩) (by show bb < _; omega)).trans kb1
        have cb2 := (hb1.cell (p := ⟨bb, ob + 2, none⟩) (by show bb < _; omega)).trans kb2
        clear ka0 ka1 ka2 kb0 kb1 kb2 HK
        by_cases hA : kLt x.fKey y.fKey = true
        · rw [ordK_lt hA]
          obtain ⟨css, r1, r2, r3, r4⟩ := hrow
          obtain ⟨Wx, hWx⟩ : ∃ Wx, Wx = w1.alloc (.cells #[.string x.fKey, .string x.fVal, .bool x.fGone] 31) := ⟨_, rfl⟩
          have hbx0 : Below wr.heap.size wr Wx := by rw [hWx]; exact hb1.alloc hb1.size _
          have hbx : Bx Wx w1.heap.size [.string x.fKey, .string x.fVal, .bool x.fGone] := by rw [hWx]; exact Bx.new _ _ _
          have r4x := own_below r4 hbx0
          have hzx := hbx0.size
          have hzw := hb1.size
          go_wp2_with (at_builtin; rw [← hWx]; refine wpList_append_own_at _ rfl _ _ 27 rfl w.heap.size 31 iP (.agg #[.string ⟨#[]⟩, .string ⟨#[]⟩, .bool false]) 3 40 Tryd.underlying27 hiP hzP0 hzP1 hzP2 rfl (by decide) _ _ _ rfl r4x ⟨w1.heap.size, 0, none⟩ 1 1 [.string x.fKey, .string x.fVal, .bool x.fGone] rfl rfl (bx_news hbx) (by intro u hu; simp at hu; rcases hu with rfl | rfl | rfl <;> rfl) (by unfold maxLen; omega) (by omega) (by omega) ?_; intro v' w3 hown3 hgrow3 hnil hloc)
          have hTn := Turn.after hbx0 (turnOwn hgrow3)
          have hge : ∀ k, k ∈ (Value.ownBlock _).toList → w.heap.size ≤ k := fun k hk => (r4.lt k (by simpa using hk)).1
          have hBl : Below w.heap.size wr w3 := Turn.below hTn (fun k hk => hge k hk) hbz
          have hrow3 := RowR.push rPair_good r1 r2 r3 hBl rfl (HRPx.out w3) hown3
          clear r1 r2 r3 r4 r4x hown3 hgrow3 hnil hloc hTn hge hbx hWx
          go_roundw
          case rel => exact ⟨_, _, _, _, l1, y :: l2, out ++ [x], rfl, rfl, LeafL.tail hL1, hL2, hrow3, by simp only [List.length_append, List.length_cons, List.length_nil]; omega, by show _ = _; rw [HM.out, mergeP_less hA]; simp, hbk.trans hBl⟩
          case measure => simp [sliceLen] <;> omega
        · have hA2 : kLt x.fKey y.fKey = false := Bool.eq_false_iff.2 hA
          by_cases hC : kLt y.fKey x.fKey = true
          · rw [ordK_gt hC]
            obtain ⟨css, r1, r2, r3, r4⟩ := hrow
            obtain ⟨Wx, hWx⟩ : ∃ Wx, Wx = w1.alloc (.cells #[.string y.fKey, .string y.fVal, .bool y.fGone] 31) := ⟨_, rfl⟩
            have hbx0 : Below wr.heap.size wr Wx := by rw [hWx]; exact hb1.alloc hb1.size _
            have hbx : Bx Wx w1.heap.size [.string y.fKey, .string y.fVal, .bool y.fGone] := by rw [hWx]; exact Bx.new _ _ _
            have r4x := own_below r4 hbx0
            have hzx := hbx0.size
            have hzw := hb1.size
            go_wp2_with (at_builtin; rw [← hWx]; refine wpList_append_own_at _ rfl _ _ 27 rfl w.heap.size 31 iP (.agg #[.string ⟨#[]⟩, .string ⟨#[]⟩, .bool false]) 3 40 Tryd.underlying27 hiP hzP0 hzP1 hzP2 rfl (by decide) _ _ _ rfl r4x ⟨w1.heap.size, 0, none⟩ 1 1 [.string y.fKey, .string y.fVal, .bool y.fGone] rfl rfl (bx_news hbx) (by intro u hu; simp at hu; rcases hu with rfl | rfl | rfl <;> rfl) (by unfold maxLen; omega) (by omega) (by omega) ?_; intro v' w3 hown3 hgrow3 hnil hloc)
            have hTn := Turn.after hbx0 (turnOwn hgrow3)
            have hge : ∀ k, k ∈ (Value.ownBlock _).toList → w.heap.size ≤ k := fun k hk => (r4.lt k (by simpa using hk)).1
            have hBl : Below w.heap.size wr w3 := Turn.below hTn (fun k hk => hge k hk) hbz
            have hrow3 := RowR.push rPair_good r1 r2 r3 hBl rfl (HRPy.out w3) hown3
            clear r1 r2 r3 r4 r4x hown3 hgrow3 hnil hloc hTn hge hbx hWx
            go_roundw
            case rel => exact ⟨_, _, _, _, x :: l1, l2, out ++ [y], rfl, rfl, hL1, LeafL.tail hL2, hrow3, by simp only [List.length_append, List.length_cons, List.length_nil]; omega, by show _ = _; rw [HM.out, mergeP_more hC]; simp, hbk.trans hBl⟩
            case measure => simp [sliceLen] <;> omega
          · have hC2 : kLt y.fKey x.fKey = false := Bool.eq_false_iff.2 hC
            have h0 : ordK x.fKey y.fKey = 0 := by unfold ordK; rw [hA2, hC2]; rfl
            rw [h0]
            obtain ⟨css, r1, r2, r3, r4⟩ := hrow
            obtain ⟨Wx, hWx⟩ : ∃ Wx, Wx = w1.alloc (.cells #[.string x.fKey, .string x.fVal, .bool x.fGone] 31) := ⟨_, rfl⟩
            have hbx0 : Below wr.heap.size wr Wx := by rw [hWx]; exact hb1.alloc hb1.size _
            have hbx : Bx Wx w1.heap.size [.string x.fKey, .string x.fVal, .bool x.fGone] := by rw [hWx]; exact Bx.new _ _ _
            have r4x := own_below r4 hbx0
            have hzx := hbx0.size
            have hzw := hb1.size
            go_wp2_with (at_builtin; rw [← hWx]; refine wpList_append_own_at _ rfl _ _ 27 rfl w.heap.size 31 iP (.agg #[.string ⟨#[]⟩, .string ⟨#[]⟩, .bool false]) 3 40 Tryd.underlying27 hiP hzP0 hzP1 hzP2 rfl (by decide) _ _ _ rfl r4x ⟨w1.heap.size, 0, none⟩ 1 1 [.string x.fKey, .string x.fVal, .bool x.fGone] rfl rfl (bx_news hbx) (by intro u hu; simp at hu; rcases hu with rfl | rfl | rfl <;> rfl) (by unfold maxLen; omega) (by omega) (by omega) ?_; intro v' w3 hown3 hgrow3 hnil hloc)
            have hTn := Turn.after hbx0 (turnOwn hgrow3)
            have hge : ∀ k, k ∈ (Value.ownBlock _).toList → w.heap.size ≤ k := fun k hk => (r4.lt k (by simpa using hk)).1
            have hBl : Below w.heap.size wr w3 := Turn.below hTn (fun k hk => hge k hk) hbz
            have hrow3 := RowR.push rPair_good r1 r2 r3 hBl rfl (HRPx.out w3) hown3
            clear r1 r2 r3 r4 r4x hown3 hgrow3 hnil hloc hTn hge hbx hWx
            go_roundw
            case rel => exact ⟨_, _, _, _, l1, l2, out ++ [x], rfl, rfl, LeafL.tail hL1, LeafL.tail hL2, hrow3, by simp only [List.length_append, List.length_cons, List.length_nil]; omega, by show _ = _; rw [HM.out, mergeP_same hA2 hC2]; simp, hbk.trans hBl⟩
            case measure => simp [sliceLen] <;> omega

end Go.Proofs.YtiahmcclmlmgpaaDoor
