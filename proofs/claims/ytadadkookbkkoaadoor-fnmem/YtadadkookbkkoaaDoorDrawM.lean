/-
  The draw of a table in memory: it ends, and what comes out is a small table in memory of its own; beside it only the cursor is written.
-/
import Derived.Test.YtadadkookbkkoaaDoorRegK
import Derived.Test.YtadadkookbkkoaaDoorDrawK
import Derived.Test.YtadadkookbkkoaaDoorMPut
import Derived.Test.YtadadkookbkkoaaDoorRowG
namespace Go.Proofs.YtadadkookbkkoaaDoor
open Go.RowKit Go.Maps
set_option linter.unusedVariables false
set_option linter.unusedSimpArgs false
set_option maxRecDepth 10000
abbrev qb3b_48_5_1 : Oper := ⟨some 17, .move (.tmp 0), 54, "l04_mem.go:160", #[], none⟩
abbrev qb3b_48_5_3 : Oper := ⟨some 19, .move (.tmp 0), 54, "l04_mem.go:160", #[], none⟩
abbrev qb3b_48_5_2 : Oper := ⟨some 18, .call { callee := .value (.func 50), args := #[.tmp 17], argTypes := #[54] }, 28, "l04_mem.go:160", #[⟨1, .data⟩], none⟩
abbrev qb3b_48_5_0 : Oper := ⟨some 16, .load 26 (.tmp 5), 26, "l04_mem.go:160", #[], none⟩
abbrev qb3b_48_5_4 : Oper := ⟨some 20, .call { callee := .value (.func 29), args := #[.tmp 19, .const (.int .i64 4)], argTypes := #[54, 3] }, 3, "l04_mem.go:160", #[⟨3, .data⟩, ⟨2, .chain⟩], none⟩
abbrev qb3b_48_5_5 : Oper := ⟨some 21, .binOp .add 3 (.const (.int .i64 1)) (.tmp 20) 3, 3, "l04_mem.go:160", #[⟨4, .data⟩], none⟩
abbrev qb3b_48_5_6 : Oper := ⟨some 22, .call { callee := .value (.func 10), args := #[.tmp 16, .tmp 18, .tmp 21], argTypes := #[26, 28, 3] }, 31, "l04_mem.go:160", #[⟨0, .data⟩, ⟨2, .data⟩, ⟨5, .data⟩, ⟨4, .chain⟩], none⟩
abbrev qb3b_48_5_7 : Oper := ⟨some 15, .move (.tmp 22), 31, "l04_mem.go:160", #[⟨6, .data⟩], none⟩
abbrev qb3b_48_5_8 : Oper := ⟨some 23, .extract (.tmp 15) 0, 26, "l04_mem.go:160", #[⟨7, .data⟩], none⟩
abbrev qb3b_48_5_9 : Oper := ⟨some 24, .extract (.tmp 15) 1, 4, "l04_mem.go:160", #[⟨7, .data⟩, { on := 10, ground := Ground.gcOnly Departure.lateStores }], none⟩
abbrev qb3b_48_5_10 : Oper := ⟨none, .store 26 (.tmp 5) (.tmp 23), 0, "l04_mem.go:160", #[⟨8, .data⟩, ⟨6, .chain⟩, ⟨0, .phase⟩, ⟨1, .phase⟩, ⟨2, .phase⟩, ⟨3, .phase⟩, ⟨4, .phase⟩, ⟨5, .phase⟩, ⟨6, .phase⟩, ⟨7, .phase⟩, ⟨8, .phase⟩, { on := 9, ground := Ground.textOnly Departure.lateStores }], none⟩

theorem MemDrawn.grown {w w' : World} {base most g : Nat} {v : Value} {l : List MNode} (h : MemDrawn w base v l most) (hg : w.grownBy w' (some g)) (hb : g < base) : MemDrawn w' base v l most :=
  ⟨own_of_block h.1 (fun k hk => hg.block k (h.1.lt k hk).2 (fun e => by have := (h.1.lt k hk).1; simp at e; omega)), h.2⟩
theorem MemDrawn.under {w w' : World} {base most : Nat} {v : Value} {l : List MNode} (h : MemDrawn w base v l most) (hb : Below w.heap.size w w') : MemDrawn w' base v l most := ⟨own_below h.1 hb, h.2⟩
theorem MemDrawn.other {w : World} {base most b i : Nat} {v u : Value} {l : List MNode} (h : MemDrawn w base v l most) (hb : b < base) : MemDrawn (w.setCell ⟨b, i, none⟩ u) base v l most :=
  ⟨own_of_block h.1 (fun k hk => heap_setCell_other w ⟨b, i, none⟩ k u (by have := (h.1.lt k hk).1; show k ≠ b; omega)), h.2⟩
theorem MemDrawn.nil {w : World} {base : Nat} : MemDrawn w base (.slice none 0 0) [] 0 := ⟨⟨rfl, .inl ⟨rfl, rfl⟩⟩, ⟨fun _ h => (List.not_mem_nil h).elim, Nat.le_refl _⟩⟩
theorem MemDrawn.more {w : World} {base a b : Nat} {v : Value} {l : List MNode} (h : MemDrawn w base v l a) (hab : a ≤ b) : MemDrawn w base v l b := ⟨h.1, h.2.1, Nat.le_trans h.2.2 hab⟩

theorem ownN_leaf' {w : World} {base n c : Nat} {a : Option Addr} {l : List MNode} (h : w.ownsRow base 36 4 (.slice a n c) l.length (flatN l)) (hok : ∀ x, x ∈ l → NdOk x) : LeafL 4 rNode w.heap.size w a c l := by
  obtain ⟨a', c', h1, h2⟩ := ownN_leaf h hok
  simp only [Value.slice.injEq] at h1
  rw [h1.1, h1.2.2]
  exact h2

/-- What a draw of a table answers. -/
def MemPost (w : World) (g most : Nat) (e : Ending) (w' : World) : Prop := ∃ (v : Value) (l : List MNode), e = .returned (.agg #[v]) ∧ MemDrawn w' w.heap.size v l most ∧ CurOk w' g ∧ w.grownBy w' (some g)

/-- Within the draw: the boxes of the table and of the answer, the table's row, the cursor. -/
def InDraw (w : World) (g : Nat) (v : Value) (l : List MNode) (most : Nat) (W : World) : Prop :=
  CurOk W g ∧ w.grownBy W (some g) ∧ Bw W w.heap.size 26 [.slice none 0 0] ∧ Bw W (w.heap.size + 1) 26 [v] ∧ MemDrawn W (w.heap.size + 2) v l most
theorem InDraw.step {w W W' : World} {g most : Nat} {v : Value} {l : List MNode} (h : InDraw w g v l most W) (hg : g < w.heap.size) (hc : CurOk W' g) (hs : W.grownBy W' (some g)) : InDraw w g v l most W' :=
  ⟨hc, grown_trans h.2.1 hs, h.2.2.1.grown hs (by simp; omega), h.2.2.2.1.grown hs (by simp; omega), h.2.2.2.2.grown hs (by omega)⟩
theorem grown_below {a b c : World} {r : Option Nat} (h : a.grownBy b r) (hb : Below b.heap.size b c) : a.grownBy c r :=
  ⟨hb.os.trans h.os, hb.tape.trans h.tape, hb.output.trans h.output, Nat.le_trans h.size hb.size, fun k hk hr => (hb.block k (Nat.lt_of_lt_of_le hk h.size)).trans (h.block k hk hr)⟩
theorem InDraw.below {w W W' : World} {g most : Nat} {v : Value} {l : List MNode} (h : InDraw w g v l most W) (hb : Below W.heap.size W W') : InDraw w g v l most W' :=
  ⟨h.1.below hb, grown_below h.2.1 hb, h.2.2.1.under hb, h.2.2.2.1.under hb, h.2.2.2.2.under hb⟩

theorem Bw.other' {w : World} {b b' i : Nat} {t : TypeId} {vs : List Value} {u : Value} (h : Bw w b t vs) (hne : b ≠ b') : Bw (w.setCell ⟨b', i, none⟩ u) b t vs := by
  unfold Bw at h ⊢
  rw [heap_setCell_other w ⟨b', i, none⟩ b u hne]
  exact h

theorem MemDrawn.base {w : World} {base base' most : Nat} {v : Value} {l : List MNode} (h : MemDrawn w base v l most) (hb : base' ≤ base) : MemDrawn w base' v l most := ⟨own_base h.1 hb, h.2⟩
theorem InDraw.put {w W : World} {g most m2 : Nat} {v v' : Value} {l l' : List MNode} {k : Nat} (h : InDraw w g v l most W) (hd : MemDrawn W (w.heap.size + 2) v' l' k) (hg : g < w.heap.size) (hm : k ≤ m2) : InDraw w g v' l' m2 (W.setCell ⟨w.heap.size + 1, 0, none⟩ v') :=
  ⟨h.1.setCell (p := ⟨w.heap.size + 1, 0, none⟩) (by show g < w.heap.size + 1; omega) _, grown_setCell h.2.1 (p := ⟨w.heap.size + 1, 0, none⟩) (by show w.heap.size ≤ w.heap.size + 1; omega) _, h.2.2.1.other' (by omega), h.2.2.2.1.put 0 _, (hd.other (by omega)).more hm⟩
theorem wf_small {z : Int} (h1 : 1 ≤ z) (h2 : z ≤ 4) : (Lit.int .i64 z).wf = true := by
  have : z = 1 ∨ z = 2 ∨ z = 3 ∨ z = 4 := by omega
  rcases this with rfl | rfl | rfl | rfl <;> rfl

set_option maxHeartbeats 4000000 in
theorem l4Draw_ok {g : Nat} {w : World} (q : Int) (hc : CurOk w g) (hq : q ≤ 100) :
    Calls Tryd.prog 48 #[.pointer (some ⟨g, 0, none⟩), .int .i64 q] w fun e w' => MemPost w g 100 e w' := by
  have hgl := hc.lt
  obtain ⟨w0, hw0⟩ : ∃ x, x = (w.alloc (.cells #[.slice none 0 0] 26)).alloc (.cells #[.slice none 0 0] 26) := ⟨_, rfl⟩
  have hI0 : InDraw w g (.slice none 0 0) [] 0 w0 := by
    rw [hw0]
    exact ⟨(hc.alloc _).alloc _, grown_alloc (grown_alloc (World.grownBy.refl _ _) _) _, (Bw.new _ _ _).alloc _, Bw.new' _ _ _ (by simp), MemDrawn.nil⟩
  go_enter Tryd.func48, Tryd.ntmps48
  go_wp2_with (rw [← hw0])
  refine (l1Below_ok _ hI0.1).mono ?_
  rintro e w1 ⟨x, rfl, hx, hc1, hg1⟩
  have hI1 := hI0.step hgl hc1 hg1
  have hx1 : x ≤ 100 := by by_cases h0 : 0 < q; (have := hx.2.2.1 h0; omega); (have := hx.2.2.2 (by omega); omega)
  have hx0 := hx.1
  clear hw0 hI0 hx hc1 hg1
  go_wp2_with fail
  go_loopw [6] (fun iv wr => ∃ (i : Nat) (v : Value) (l : List MNode), (i : Int) ≤ x ∧ iv = .int .i64 i ∧ InDraw w g v l (x.toNat - i) wr) (fun iv _ => (intOf iv).toNat)
  case atStart => exact ⟨x.toNat, .slice none 0 0, [], by omega, by rw [show ((x.toNat : Nat) : Int) = x by omega], by rw [Nat.sub_self]; exact hI1⟩
  case round =>
    obtain ⟨i, v, l, hi, rfl, hI⟩ := hrel
    obtain ⟨a, c, rfl, hLf⟩ := ownN_leaf hI.2.2.2.2.1 (fun y hy => (hI.2.2.2.2.2.1 y hy).ok)
    have HI := Hid.mk hI
    have HLN := Hid.mk hI.2.2.2.2.2.2
    clear hI1
    by_cases hlt : 0 < i
    · have hlt' : (0 : Int) < (i : Int) := by omega
      obtain ⟨j, rfl⟩ : ∃ j, i = j + 1 := ⟨i - 1, by omega⟩
      have y1 := HI.out.2.2.2.1.cell 0 _ rfl
      have HD0 : Hid (InDraw w g (.slice a l.length c) l (x.toNat - (j + 1)) wr.drew) := HI.out.below (Below.drew (Below.refl _ _))
      have hlc : l.length ≤ 100 := by have h := HLN.out; omega
      clear hLf hI
      go_wp2_with fail
      refine wp_region_held_drew (S := fun W => True) (by kernel_rfl) (trivial) (fun hHeld => ?_)
      obtain ⟨wS, hwS⟩ : ∃ wS, wS = wr.drew := ⟨_, rfl⟩
      have HDwS : Hid (InDraw w g (.slice a l.length c) l (x.toNat - (j + 1)) wS) := by rw [hwS]; exact HD0.out
      rw [← hwS]
      clear hwS
      refine tk 1 qb3b_48_5_1 (some 17) (v := ?v1) rfl rfl (by kernel_rfl) hHeld (by rfl) (fun _ _ _ x => x) (fun w h => ?y1) ?_; (case y1 => (try dsimp only at h); go_simp; try (with_reducible rfl)); try simp only [Act.put, sa, s0, s1]
      refine tk 3 qb3b_48_5_3 (some 19) (v := ?v2) rfl rfl (by kernel_rfl) hHeld (by rfl) (fun _ _ _ x => x) (fun w h => ?y2) ?_; (case y2 => (try dsimp only at h); go_simp; try (with_reducible rfl)); try simp only [Act.put, sa, s0, s1]
      refine wpAnyH_ready (rs := [0, 2]) (by kernel_rfl) (by simp) ?_
      refine (AllReadyH.cons (o := qb3b_48_5_0) rfl (fun K hK => ?_) (AllReadyH.cons (o := qb3b_48_5_2) rfl (fun K hK => ?_) AllReadyH.nil))
      · skip
        have yq := HDwS.out.2.2.2.1.cell 0 _ rfl
        go_simp
        obtain ⟨wE0, hq0⟩ : ∃ q, q = wS := ⟨_, rfl⟩
        have HDwE0 : Hid (InDraw w g (.slice a l.length c) l (x.toNat - (j + 1)) wE0) := by rw [hq0]; exact HDwS
        rw [← hq0]
        clear hq0 yq
        refine hK.out _ _ (trivial) (fun hHeld => ?_)
        clear hK K
        try simp only [Act.put, sa, s0, s1]
        refine wpAnyH_ready (rs := [2]) (by kernel_rfl) (by simp) ?_
        refine (AllReadyH.cons (o := qb3b_48_5_2) rfl (fun K hK => ?_) AllReadyH.nil)
        · go_simp
          refine Calls.mono (l4Pair_ok HDwE0.out.1) ?_
          rintro e wE2 ⟨pr, ⟨rfl, hp1, hp2⟩, hc2, hg2⟩
          have HDwE2 := Hid.mk (HDwE0.out.step hgl hc2 hg2)
          clear hc2 hg2
          go_wp2_with fail
          refine hK.out _ _ (trivial) (fun hHeld => ?_)
          clear hK K
          try simp only [Act.put, sa, s0, s1]
          refine wpAnyH_ready (rs := [4]) (by kernel_rfl) (by simp) ?_
          refine (AllReadyH.cons (o := qb3b_48_5_4) rfl (fun K hK => ?_) AllReadyH.nil)
          · go_simp
            refine Calls.mono (l1Below_ok 4 HDwE2.out.1) ?_
            rintro e wE4 ⟨tw, rfl, ht, hc4, hg4⟩
            have HDwE4 := Hid.mk (HDwE2.out.step hgl hc4 hg4)
            have ht1 : 1 ≤ 1 + tw := (by omega)
            have ht2 : 1 + tw ≤ 4 := (by have := ht.2.2.1 (by omega); omega)
            have hwr : IntKind.i64.wrap (1 + tw) = 1 + tw := (by rw [IntKind.wrap_i64]; omega)
            clear hc4 hg4 ht
            go_wp2_with fail
            refine hK.out _ _ (trivial) (fun hHeld => ?_)
            clear hK K
            try simp only [Act.put, sa, s0, s1]
            refine tk 5 qb3b_48_5_5 (some 21) (v := ?v3) rfl rfl (by kernel_rfl) hHeld (by rfl) (fun _ _ _ x => x) (fun w h => ?y3) ?_; (case y3 => (try dsimp only at h); go_simp; try (with_reducible rfl)); try simp only [Act.put, sa, s0, s1]
            refine wpAnyH_ready (rs := [6]) (by kernel_rfl) (by simp) ?_
            refine (AllReadyH.cons (o := qb3b_48_5_6) rfl (fun K hK => ?_) AllReadyH.nil)
            · go_simp
              refine Calls.mono (specMemPut_ok a l.length c l pr (1 + tw) wE4 rfl (by omega) (ownN_leaf' HDwE4.out.2.2.2.2.1 (fun y hy => (HDwE4.out.2.2.2.2.2.1 y hy).ok)) HDwE4.out.2.2.2.2.2.1 hp1 hp2 ht1 ht2 (wf_small ht1 ht2)) ?_
              rintro e wE6 ⟨v3, b3, l3, rfl, hd3, hx3⟩
              have HDwE6 := Hid.mk (HDwE4.out.below hx3)
              obtain ⟨a3, c3, rfl, _⟩ := ownN_leaf hd3.1 (fun y hy => (hd3.2.1 y hy).ok)
              have hz2 := HDwE4.out.2.2.2.1.lt
              have HE3 := Hid.mk (MemDrawn.base hd3 (show w.heap.size + 2 ≤ _ by omega))
              have q1 := HDwE6.out.2.2.2.1.cell 0 _ rfl
              have qf := HDwE6.out.2.2.2.1.free 0
              have ql := HDwE6.out.2.2.2.1.lt
              clear hd3 hx3
              go_wp2_with fail
              refine hK.out _ _ (trivial) (fun hHeld => ?_)
              clear hK K
              try simp only [Act.put, sa, s0, s1]
              refine tk 7 qb3b_48_5_7 (some 15) (v := ?v4) rfl rfl (by kernel_rfl) hHeld (by rfl) (fun _ _ _ x => x) (fun w h => ?y4) ?_; (case y4 => (try dsimp only at h); go_simp; try (with_reducible rfl)); try simp only [Act.put, sa, s0, s1]
              refine tk 8 qb3b_48_5_8 (some 23) (v := ?v5) rfl rfl (by kernel_rfl) hHeld (by rfl) (fun _ _ _ x => x) (fun w h => ?y5) ?_; (case y5 => (try dsimp only at h); go_simp; try (with_reducible rfl)); try simp only [Act.put, sa, s0, s1]
              refine tk 9 qb3b_48_5_9 (some 24) (v := ?v6) rfl rfl (by kernel_rfl) hHeld (by rfl) (fun _ _ _ x => x) (fun w h => ?y6) ?_; (case y6 => (try dsimp only at h); go_simp; try (with_reducible rfl)); try simp only [Act.put, sa, s0, s1]
              refine wpAnyH_ready (rs := [10]) (by kernel_rfl) (by simp) ?_
              refine (AllReadyH.cons (o := qb3b_48_5_10) rfl (fun K hK => ?_) AllReadyH.nil)
              · go_simp
                obtain ⟨wE10, hq10⟩ : ∃ q, q = wE6.setCell ⟨w.heap.size + 1, 0, none⟩ (.slice a3 l3.length c3) := ⟨_, rfl⟩
                have HN : Hid (InDraw w g (.slice a3 l3.length c3) l3 (x.toNat - j) wE10) := by rw [hq10]; exact InDraw.put HDwE6.out HE3.out hgl (by have h := HLN.out; omega)
                rw [← hq10]
                clear hq10 q1 qf ql
                refine hK.out _ _ (trivial) (fun hHeld => ?_)
                clear hK K
                try simp only [Act.put, sa, s0, s1]
                refine wpAnyH_done (by kernel_rfl) ?_ _
                go_wp2_with fail
                go_roundw
                case rel => exact ⟨j, .slice a3 l3.length c3, l3, by omega, by go_num, HN.out⟩
                case measure => simp [intOf]
      · go_simp
        refine Calls.mono (l4Pair_ok HDwS.out.1) ?_
        rintro e wE2 ⟨pr, ⟨rfl, hp1, hp2⟩, hc2, hg2⟩
        have HDwE2 := Hid.mk (HDwS.out.step hgl hc2 hg2)
        clear hc2 hg2
        go_wp2_with fail
        refine hK.out _ _ (trivial) (fun hHeld => ?_)
        clear hK K
        try simp only [Act.put, sa, s0, s1]
        refine wpAnyH_ready (rs := [0, 4]) (by kernel_rfl) (by simp) ?_
        refine (AllReadyH.cons (o := qb3b_48_5_0) rfl (fun K hK => ?_) (AllReadyH.cons (o := qb3b_48_5_4) rfl (fun K hK => ?_) AllReadyH.nil))
        · skip
          have yq := HDwE2.out.2.2.2.1.cell 0 _ rfl
          go_simp
          obtain ⟨wE0, hq0⟩ : ∃ q, q = wE2 := ⟨_, rfl⟩
          have HDwE0 : Hid (InDraw w g (.slice a l.length c) l (x.toNat - (j + 1)) wE0) := by rw [hq0]; exact HDwE2
          rw [← hq0]
          clear hq0 yq
          refine hK.out _ _ (trivial) (fun hHeld => ?_)
          clear hK K
          try simp only [Act.put, sa, s0, s1]
          refine wpAnyH_ready (rs := [4]) (by kernel_rfl) (by simp) ?_
          refine (AllReadyH.cons (o := qb3b_48_5_4) rfl (fun K hK => ?_) AllReadyH.nil)
          · go_simp
            refine Calls.mono (l1Below_ok 4 HDwE0.out.1) ?_
            rintro e wE4 ⟨tw, rfl, ht, hc4, hg4⟩
            have HDwE4 := Hid.mk (HDwE0.out.step hgl hc4 hg4)
            have ht1 : 1 ≤ 1 + tw := (by omega)
            have ht2 : 1 + tw ≤ 4 := (by have := ht.2.2.1 (by omega); omega)
            have hwr : IntKind.i64.wrap (1 + tw) = 1 + tw := (by rw [IntKind.wrap_i64]; omega)
            clear hc4 hg4 ht
            go_wp2_with fail
            refine hK.out _ _ (trivial) (fun hHeld => ?_)
            clear hK K
            try simp only [Act.put, sa, s0, s1]
            refine tk 5 qb3b_48_5_5 (some 21) (v := ?v7) rfl rfl (by kernel_rfl) hHeld (by rfl) (fun _ _ _ x => x) (fun w h => ?y7) ?_; (case y7 => (try dsimp only at h); go_simp; try (with_reducible rfl)); try simp only [Act.put, sa, s0, s1]
            refine wpAnyH_ready (rs := [6]) (by kernel_rfl) (by simp) ?_
            refine (AllReadyH.cons (o := qb3b_48_5_6) rfl (fun K hK => ?_) AllReadyH.nil)
            · go_simp
              refine Calls.mono (specMemPut_ok a l.length c l pr (1 + tw) wE4 rfl (by omega) (ownN_leaf' HDwE4.out.2.2.2.2.1 (fun y hy => (HDwE4.out.2.2.2.2.2.1 y hy).ok)) HDwE4.out.2.2.2.2.2.1 hp1 hp2 ht1 ht2 (wf_small ht1 ht2)) ?_
              rintro e wE6 ⟨v3, b3, l3, rfl, hd3, hx3⟩
              have HDwE6 := Hid.mk (HDwE4.out.below hx3)
              obtain ⟨a3, c3, rfl, _⟩ := ownN_leaf hd3.1 (fun y hy => (hd3.2.1 y hy).ok)
              have hz2 := HDwE4.out.2.2.2.1.lt
              have HE3 := Hid.mk (MemDrawn.base hd3 (show w.heap.size + 2 ≤ _ by omega))
              have q1 := HDwE6.out.2.2.2.1.cell 0 _ rfl
              have qf := HDwE6.out.2.2.2.1.free 0
              have ql := HDwE6.out.2.2.2.1.lt
              clear hd3 hx3
              go_wp2_with fail
              refine hK.out _ _ (trivial) (fun hHeld => ?_)
              clear hK K
              try simp only [Act.put, sa, s0, s1]
              refine tk 7 qb3b_48_5_7 (some 15) (v := ?v8) rfl rfl (by kernel_rfl) hHeld (by rfl) (fun _ _ _ x => x) (fun w h => ?y8) ?_; (case y8 => (try dsimp only at h); go_simp; try (with_reducible rfl)); try simp only [Act.put, sa, s0, s1]
              refine tk 8 qb3b_48_5_8 (some 23) (v := ?v9) rfl rfl (by kernel_rfl) hHeld (by rfl) (fun _ _ _ x => x) (fun w h => ?y9) ?_; (case y9 => (try dsimp only at h); go_simp; try (with_reducible rfl)); try simp only [Act.put, sa, s0, s1]
              refine tk 9 qb3b_48_5_9 (some 24) (v := ?v10) rfl rfl (by kernel_rfl) hHeld (by rfl) (fun _ _ _ x => x) (fun w h => ?y10) ?_; (case y10 => (try dsimp only at h); go_simp; try (with_reducible rfl)); try simp only [Act.put, sa, s0, s1]
              refine wpAnyH_ready (rs := [10]) (by kernel_rfl) (by simp) ?_
              refine (AllReadyH.cons (o := qb3b_48_5_10) rfl (fun K hK => ?_) AllReadyH.nil)
              · go_simp
                obtain ⟨wE10, hq10⟩ : ∃ q, q = wE6.setCell ⟨w.heap.size + 1, 0, none⟩ (.slice a3 l3.length c3) := ⟨_, rfl⟩
                have HN : Hid (InDraw w g (.slice a3 l3.length c3) l3 (x.toNat - j) wE10) := by rw [hq10]; exact InDraw.put HDwE6.out HE3.out hgl (by have h := HLN.out; omega)
                rw [← hq10]
                clear hq10 q1 qf ql
                refine hK.out _ _ (trivial) (fun hHeld => ?_)
                clear hK K
                try simp only [Act.put, sa, s0, s1]
                refine wpAnyH_done (by kernel_rfl) ?_ _
                go_wp2_with fail
                go_roundw
                case rel => exact ⟨j, .slice a3 l3.length c3, l3, by omega, by go_num, HN.out⟩
                case measure => simp [intOf]
        · go_simp
          refine Calls.mono (l1Below_ok 4 HDwE2.out.1) ?_
          rintro e wE4 ⟨tw, rfl, ht, hc4, hg4⟩
          have HDwE4 := Hid.mk (HDwE2.out.step hgl hc4 hg4)
          have ht1 : 1 ≤ 1 + tw := (by omega)
          have ht2 : 1 + tw ≤ 4 := (by have := ht.2.2.1 (by omega); omega)
          have hwr : IntKind.i64.wrap (1 + tw) = 1 + tw := (by rw [IntKind.wrap_i64]; omega)
          clear hc4 hg4 ht
          go_wp2_with fail
          refine hK.out _ _ (trivial) (fun hHeld => ?_)
          clear hK K
          try simp only [Act.put, sa, s0, s1]
          refine tk 5 qb3b_48_5_5 (some 21) (v := ?v11) rfl rfl (by kernel_rfl) hHeld (by rfl) (fun _ _ _ x => x) (fun w h => ?y11) ?_; (case y11 => (try dsimp only at h); go_simp; try (with_reducible rfl)); try simp only [Act.put, sa, s0, s1]
          refine wpAnyH_ready (rs := [0]) (by kernel_rfl) (by simp) ?_
          refine (AllReadyH.cons (o := qb3b_48_5_0) rfl (fun K hK => ?_) AllReadyH.nil)
          · skip
            have yq := HDwE4.out.2.2.2.1.cell 0 _ rfl
            go_simp
            obtain ⟨wE0, hq0⟩ : ∃ q, q = wE4 := ⟨_, rfl⟩
            have HDwE0 : Hid (InDraw w g (.slice a l.length c) l (x.toNat - (j + 1)) wE0) := by rw [hq0]; exact HDwE4
            rw [← hq0]
            clear hq0 yq
            refine hK.out _ _ (trivial) (fun hHeld => ?_)
            clear hK K
            try simp only [Act.put, sa, s0, s1]
            refine wpAnyH_ready (rs := [6]) (by kernel_rfl) (by simp) ?_
            refine (AllReadyH.cons (o := qb3b_48_5_6) rfl (fun K hK => ?_) AllReadyH.nil)
            · go_simp
              refine Calls.mono (specMemPut_ok a l.length c l pr (1 + tw) wE0 rfl (by omega) (ownN_leaf' HDwE0.out.2.2.2.2.1 (fun y hy => (HDwE0.out.2.2.2.2.2.1 y hy).ok)) HDwE0.out.2.2.2.2.2.1 hp1 hp2 ht1 ht2 (wf_small ht1 ht2)) ?_
              rintro e wE6 ⟨v3, b3, l3, rfl, hd3, hx3⟩
              have HDwE6 := Hid.mk (HDwE0.out.below hx3)
              obtain ⟨a3, c3, rfl, _⟩ := ownN_leaf hd3.1 (fun y hy => (hd3.2.1 y hy).ok)
              have hz2 := HDwE0.out.2.2.2.1.lt
              have HE3 := Hid.mk (MemDrawn.base hd3 (show w.heap.size + 2 ≤ _ by omega))
              have q1 := HDwE6.out.2.2.2.1.cell 0 _ rfl
              have qf := HDwE6.out.2.2.2.1.free 0
              have ql := HDwE6.out.2.2.2.1.lt
              clear hd3 hx3
              go_wp2_with fail
              refine hK.out _ _ (trivial) (fun hHeld => ?_)
              clear hK K
              try simp only [Act.put, sa, s0, s1]
              refine tk 7 qb3b_48_5_7 (some 15) (v := ?v12) rfl rfl (by kernel_rfl) hHeld (by rfl) (fun _ _ _ x => x) (fun w h => ?y12) ?_; (case y12 => (try dsimp only at h); go_simp; try (with_reducible rfl)); try simp only [Act.put, sa, s0, s1]
              refine tk 8 qb3b_48_5_8 (some 23) (v := ?v13) rfl rfl (by kernel_rfl) hHeld (by rfl) (fun _ _ _ x => x) (fun w h => ?y13) ?_; (case y13 => (try dsimp only at h); go_simp; try (with_reducible rfl)); try simp only [Act.put, sa, s0, s1]
              refine tk 9 qb3b_48_5_9 (some 24) (v := ?v14) rfl rfl (by kernel_rfl) hHeld (by rfl) (fun _ _ _ x => x) (fun w h => ?y14) ?_; (case y14 => (try dsimp only at h); go_simp; try (with_reducible rfl)); try simp only [Act.put, sa, s0, s1]
              refine wpAnyH_ready (rs := [10]) (by kernel_rfl) (by simp) ?_
              refine (AllReadyH.cons (o := qb3b_48_5_10) rfl (fun K hK => ?_) AllReadyH.nil)
              · go_simp
                obtain ⟨wE10, hq10⟩ : ∃ q, q = wE6.setCell ⟨w.heap.size + 1, 0, none⟩ (.slice a3 l3.length c3) := ⟨_, rfl⟩
                have HN : Hid (InDraw w g (.slice a3 l3.length c3) l3 (x.toNat - j) wE10) := by rw [hq10]; exact InDraw.put HDwE6.out HE3.out hgl (by have h := HLN.out; omega)
                rw [← hq10]
                clear hq10 q1 qf ql
                refine hK.out _ _ (trivial) (fun hHeld => ?_)
                clear hK K
                try simp only [Act.put, sa, s0, s1]
                refine wpAnyH_done (by kernel_rfl) ?_ _
                go_wp2_with fail
                go_roundw
                case rel => exact ⟨j, .slice a3 l3.length c3, l3, by omega, by go_num, HN.out⟩
                case measure => simp [intOf]
    · have hlt' : ¬ (0 : Int) < (i : Int) := by omega
      have y1 := HI.out.2.2.2.1.cell 0 _ rfl
      have y0 := HI.out.2.2.1.cell 0 _ rfl
      have f0 := HI.out.2.2.1.free 0
      have z0 := HI.out.2.2.1.lt
      have z1 := HI.out.2.2.2.1.lt
      have FZ : Hid (MemDrawn (wr.setCell ⟨w.heap.size, 0, none⟩ (.slice a l.length c)) w.heap.size (.slice a l.length c) l 100 ∧ CurOk (wr.setCell ⟨w.heap.size, 0, none⟩ (.slice a l.length c)) g ∧ w.grownBy (wr.setCell ⟨w.heap.size, 0, none⟩ (.slice a l.length c)) (some g)) := by
        obtain ⟨k1, k2, k3⟩ := (HI.out.2.2.2.2.other (b := w.heap.size) (i := 0) (u := .slice a l.length c) (by omega)).more (b := 100) (by omega)
        exact ⟨⟨own_base k1 (by omega), k2, k3⟩, HI.out.1.setCell (p := ⟨w.heap.size, 0, none⟩) hgl _, grown_setCell HI.out.2.1 (p := ⟨w.heap.size, 0, none⟩) (Nat.le_refl _) _⟩
      clear hI hLf
      go_wp2_with fail
      exact bodyPost_ret (v := .agg #[.slice a l.length c]) (by simp [results, Tryd.results48, go_sem, *]) rfl (show MemPost w g 100 _ _ from ⟨_, l, rfl, FZ.out⟩)

end Go.Proofs.YtadadkookbkkoaaDoor
