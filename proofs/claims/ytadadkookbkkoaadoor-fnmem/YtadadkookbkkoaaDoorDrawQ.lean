/-
  The draw of a table in memory that may be wrong.
-/
import Derived.Test.YtadadkookbkkoaaDoorRegK
import Derived.Test.YtadadkookbkkoaaDoorDrawO
namespace Go.Proofs.YtadadkookbkkoaaDoor
open Go.RowKit Go.Maps
set_option linter.unusedVariables false
set_option linter.unusedSimpArgs false
set_option maxRecDepth 10000
abbrev q8da_26_4_0 : Oper := ⟨some 13, .fieldAddr 26 (.tmp 5) 0, 0, "l04_mem.go:169", #[], none⟩
abbrev q8da_26_4_2 : Oper := ⟨some 15, .move (.tmp 0), 54, "l04_mem.go:169", #[], none⟩
abbrev q8da_26_4_4 : Oper := ⟨some 17, .move (.tmp 0), 54, "l04_mem.go:169", #[], none⟩
abbrev q8da_26_4_3 : Oper := ⟨some 16, .call { callee := .value (.func 30), args := #[.tmp 15], argTypes := #[54] }, 28, "l04_mem.go:169", #[⟨2, .data⟩], none⟩
abbrev q8da_26_4_1 : Oper := ⟨some 14, .load 24 (.tmp 13), 24, "l04_mem.go:169", #[⟨0, .data⟩], none⟩
abbrev q8da_26_4_5 : Oper := ⟨some 18, .call { callee := .value (.func 29), args := #[.tmp 17, .const (.int .i64 6)], argTypes := #[54, 3] }, 3, "l04_mem.go:169", #[⟨4, .data⟩, ⟨3, .chain⟩], none⟩
abbrev q8da_26_4_6 : Oper := ⟨some 19, .build 36 #[(0, .tmp 16), (1, .tmp 18)], 36, "l04_mem.go:169", #[⟨3, .data⟩, ⟨5, .data⟩], none⟩
abbrev q8da_26_4_7 : Oper := ⟨some 20, .buildSlice 24 1 #[(0, .tmp 19)], 24, "l04_mem.go:169", #[⟨6, .data⟩], none⟩
abbrev q8da_26_4_8 : Oper := ⟨some 21, .call { callee := .builtin .append, args := #[.tmp 14, .tmp 20], argTypes := #[24, 24] }, 24, "l04_mem.go:169", #[⟨1, .data⟩, ⟨7, .data⟩, ⟨5, .chain⟩], none⟩
abbrev q8da_26_4_9 : Oper := ⟨some 22, .fieldAddr 26 (.tmp 5) 0, 0, "l04_mem.go:169", #[⟨0, .phase⟩, ⟨1, .phase⟩, ⟨2, .phase⟩, ⟨3, .phase⟩, ⟨4, .phase⟩, ⟨5, .phase⟩, ⟨6, .phase⟩, ⟨7, .phase⟩, ⟨8, .phase⟩], none⟩
abbrev q8da_26_4_10 : Oper := ⟨none, .store 24 (.tmp 22) (.tmp 21), 0, "l04_mem.go:169", #[⟨9, .data⟩, ⟨8, .data⟩, ⟨8, .chain⟩, ⟨0, .phase⟩, ⟨1, .phase⟩, ⟨2, .phase⟩, ⟨3, .phase⟩, ⟨4, .phase⟩, ⟨5, .phase⟩, ⟨6, .phase⟩, ⟨7, .phase⟩, ⟨8, .phase⟩], none⟩

theorem wf_six {z : Int} (h1 : 0 ≤ z) (h2 : z < 6) : (Lit.int .i64 z).wf = true := by
  have : z = 0 ∨ z = 1 ∨ z = 2 ∨ z = 3 ∨ z = 4 ∨ z = 5 := by omega
  rcases this with rfl | rfl | rfl | rfl | rfl | rfl <;> rfl

/-- Within the draw: the boxes of the answer and of the table, the table's row, the cursor. -/
def InAny (w : World) (g bm : Nat) (v : Value) (l : List MNode) (most : Nat) (W : World) : Prop :=
  CurOk W g ∧ w.grownBy W (some g) ∧ Bw W w.heap.size 26 [.slice none 0 0] ∧ Bw W bm 26 [v] ∧ MemDrawn W (w.heap.size + 1) v l most ∧ v.ownBlock ≠ some bm
theorem InAny.step {w W W' : World} {g bm most : Nat} {v : Value} {l : List MNode} (h : InAny w g bm v l most W) (hg : g < w.heap.size) (hb : w.heap.size < bm) (hc : CurOk W' g) (hs : W.grownBy W' (some g)) : InAny w g bm v l most W' :=
  ⟨hc, grown_trans h.2.1 hs, h.2.2.1.grown hs (by simp; omega), h.2.2.2.1.grown hs (by simp; omega), h.2.2.2.2.1.grown hs (by omega), h.2.2.2.2.2⟩
theorem InAny.below {w W W' : World} {g bm most : Nat} {v : Value} {l : List MNode} (h : InAny w g bm v l most W) (hb : Below W.heap.size W W') : InAny w g bm v l most W' :=
  ⟨h.1.below hb, grown_below h.2.1 hb, h.2.2.1.under hb, h.2.2.2.1.under hb, h.2.2.2.2.1.under hb, h.2.2.2.2.2⟩
/-- The answer's box holds what the table's box holds. -/
theorem InAny.done {w W : World} {g bm most : Nat} {v : Value} {l : List MNode} (h : InAny w g bm v l most W) (hg : g < w.heap.size) : MemPost w g most (.returned (.agg #[v])) (W.setCell ⟨w.heap.size, 0, none⟩ v) :=
  ⟨v, l, rfl, (h.2.2.2.2.1.other (by omega)).base (by omega), h.1.setCell (p := ⟨w.heap.size, 0, none⟩) hg _, grown_setCell h.2.1 (p := ⟨w.heap.size, 0, none⟩) (Nat.le_refl _) _⟩
/-- Behind an append to the table's row. -/
def InApp (w : World) (g bm : Nat) (v : Value) (l : List MNode) (most : Nat) (W : World) : Prop :=
  CurOk W g ∧ Bw W w.heap.size 26 [.slice none 0 0] ∧ (∃ u, Bw W bm 26 [u]) ∧ w.grownBy W (some g) ∧ MemDrawn W (w.heap.size + 1) v l most ∧ v.ownBlock ≠ some bm
theorem grown_own {w W W' : World} {r r' : Option Nat} (h : w.grownBy W r) (h2 : W.grownBy W' r') (hr : ∀ k, r' = some k → w.heap.size ≤ k) : w.grownBy W' r :=
  ⟨h2.os.trans h.os, h2.tape.trans h.tape, h2.output.trans h.output, Nat.le_trans h.size h2.size, fun k hk hne => (h2.block k (Nat.lt_of_lt_of_le hk h.size) (fun e => by have := hr k e.symm; omega)).trans (h.block k hk hne)⟩
theorem InAny.append {w W W' : World} {g bm most m2 : Nat} {v v' : Value} {l l' : List MNode} (h : InAny w g bm v l most W) (hg : g < w.heap.size) (hb : w.heap.size < bm) (hgr : W.grownBy W' v.ownBlock) (hat : v'.ownBlock = v.ownBlock ∨ v'.ownBlock = some W.heap.size)
    (ho : W'.ownsRow (w.heap.size + 1) 36 4 v' l'.length (flatN l')) (hs : ∀ y, y ∈ l' → ShN y) (hm : l'.length ≤ m2) : InApp w g bm v' l' m2 W' := by
  have hge : ∀ k, v.ownBlock = some k → w.heap.size + 1 ≤ k := fun k hk => (h.2.2.2.2.1.1.lt k hk).1
  have hbl := h.2.2.2.1.lt
  refine ⟨h.1.grown hgr (fun k hk => by have := hge k hk; omega), h.2.2.1.grown hgr (fun e => by have := hge _ e; omega), ⟨v, h.2.2.2.1.grown hgr h.2.2.2.2.2⟩, grown_own h.2.1 hgr (fun k hk => by have := hge k hk; omega), ⟨ho, hs, hm⟩, ?_⟩
  rcases hat with e | e
  · rw [e]; exact h.2.2.2.2.2
  · rw [e]; simp; omega
theorem InAny.put {w W : World} {g bm most : Nat} {v : Value} {l : List MNode} (h : InApp w g bm v l most W) (hg : g < w.heap.size) (hb : w.heap.size < bm) : InAny w g bm v l most (W.setCell ⟨bm, 0, none⟩ v) := by
  obtain ⟨u, hu⟩ := h.2.2.1
  refine ⟨h.1.setCell (p := ⟨bm, 0, none⟩) (by show g < bm; omega) _, grown_setCell h.2.2.2.1 (p := ⟨bm, 0, none⟩) (by show w.heap.size ≤ bm; omega) _, h.2.1.other' (by omega), hu.put 0 v, ⟨own_of_block h.2.2.2.2.1.1 (fun k hk => heap_setCell_other W ⟨bm, 0, none⟩ k v (fun e => h.2.2.2.2.2 (by rw [hk]; exact congrArg some e))), h.2.2.2.2.1.2⟩, h.2.2.2.2.2⟩
theorem InAny.more {w W : World} {g bm a b : Nat} {v : Value} {l : List MNode} (h : InAny w g bm v l a W) (hab : a ≤ b) : InAny w g bm v l b W := ⟨h.1, h.2.1, h.2.2.1, h.2.2.2.1, h.2.2.2.2.1.more hab, h.2.2.2.2.2⟩

set_option maxHeartbeats 8000000 in
theorem l4DrawAny_ok {g : Nat} {w : World} (q : Int) (hc : CurOk w g) (hq : q ≤ 100) :
    Calls Tryd.prog 26 #[.pointer (some ⟨g, 0, none⟩), .int .i64 q] w fun e w' => MemPost w g 101 e w' := by
  obtain ⟨iN, hiN, hzN0, hzN1, hzN2⟩ := info_parts Tryd.infoNode
  have HIN : Hid (_ ∧ _ ∧ _ ∧ _) := ⟨hiN, hzN0, hzN1, hzN2⟩
  clear hiN hzN0 hzN1 hzN2
  have hgl := hc.lt
  obtain ⟨w0, hw0⟩ : ∃ x, x = w.alloc (.cells #[.slice none 0 0] 26) := ⟨_, rfl⟩
  have hbr : Bw w0 w.heap.size 26 [.slice none 0 0] := by rw [hw0]; exact Bw.new _ _ _
  have hc0 : CurOk w0 g := by rw [hw0]; exact hc.alloc _
  have hg0 : w.grownBy w0 (some g) := by rw [hw0]; exact World.grownBy_alloc w _ _
  have hz0 : w0.heap.size = w.heap.size + 1 := by rw [hw0]; simp
  go_enter Tryd.func26, Tryd.ntmps26
  go_wp2_with (rw [← hw0])
  refine (l4Draw_ok q hc0 hq).mono ?_
  rintro e w1 ⟨v, l, rfl, hd1, hc1, hg1⟩
  rw [hz0] at hd1
  obtain ⟨a, c, rfl, _⟩ := ownN_leaf hd1.1 (fun y hy => (hd1.2.1 y hy).ok)
  have hbr1 := hbr.grown hg1 (by simp; omega)
  obtain ⟨bm, hbme⟩ : ∃ b, b = w1.heap.size := ⟨_, rfl⟩
  have hbm : w.heap.size < bm := by rw [hbme]; exact hbr1.lt
  obtain ⟨w2, hw2⟩ : ∃ x, x = w1.alloc (.cells #[.slice a l.length c] 26) := ⟨_, rfl⟩
  have HD2 : Hid (InAny w g bm (.slice a l.length c) l 100 w2) := by
    refine ⟨by rw [hw2]; exact hc1.alloc _, by rw [hw2]; exact grown_alloc (grown_trans hg0 hg1) _, by rw [hw2]; exact hbr1.alloc _, by rw [hw2]; exact Bw.new' _ _ _ hbme, by rw [hw2]; exact hd1.under ((Below.refl _ _).alloc (Nat.le_refl _) _), fun e => ?_⟩
    have := (hd1.1.lt _ e).2
    omega
  have hln : l.length ≤ 100 := hd1.2.2
  go_wp2_with fail
  rw [← hw2, ← hbme]
  refine (l1Below_ok 12 HD2.out.1).mono ?_
  rintro e w3 ⟨x, rfl, hx, hc3, hg3⟩
  have HD3 := Hid.mk (HD2.out.step hgl hbm hc3 hg3)
  clear hw0 hbr hc0 hg0 hc1 hg1 hd1 hbr1 hw2 HD2 hc3 hg3 hbme hx
  by_cases x0 : x = 0
  · subst x0
    go_wp2_with fail
    refine wp_region_held_drew (S := fun W => True) (by kernel_rfl) (trivial) (fun hHeld => ?_)
    obtain ⟨wS, hwS⟩ : ∃ wS, wS = w3.drew := ⟨_, rfl⟩
    have HDwS : Hid (InAny w g bm (.slice a l.length c) l 100 wS) := by rw [hwS]; exact HD3.out.below (Below.drew (Below.refl _ _))
    rw [← hwS]
    clear hwS
    refine tk 0 q8da_26_4_0 (some 13) (v := ?v1) rfl rfl (by kernel_rfl) hHeld (by rfl) (fun _ _ _ x => x) (fun w h => ?y1) ?_; (case y1 => (try dsimp only at h); go_simp; try (with_reducible rfl)); try simp only [Act.put, sa, s0, s1]
    refine tk 2 q8da_26_4_2 (some 15) (v := ?v2) rfl rfl (by kernel_rfl) hHeld (by rfl) (fun _ _ _ x => x) (fun w h => ?y2) ?_; (case y2 => (try dsimp only at h); go_simp; try (with_reducible rfl)); try simp only [Act.put, sa, s0, s1]
    refine tk 4 q8da_26_4_4 (some 17) (v := ?v3) rfl rfl (by kernel_rfl) hHeld (by rfl) (fun _ _ _ x => x) (fun w h => ?y3) ?_; (case y3 => (try dsimp only at h); go_simp; try (with_reducible rfl)); try simp only [Act.put, sa, s0, s1]
    refine wpAnyH_ready (rs := [1, 3]) (by kernel_rfl) (by simp) ?_
    refine (AllReadyH.cons (o := q8da_26_4_1) rfl (fun K hK => ?_) (AllReadyH.cons (o := q8da_26_4_3) rfl (fun K hK => ?_) AllReadyH.nil))
    · skip
      have yq := HDwS.out.2.2.2.1.cell 0 _ rfl
      go_simp
      obtain ⟨wE1, hq1⟩ : ∃ q, q = wS := ⟨_, rfl⟩
      have HDwE1 : Hid (InAny w g bm (.slice a l.length c) l 100 wE1) := by rw [hq1]; exact HDwS
      have hop1 : Below wS.heap.size wS wE1 := by rw [hq1]; exact Below.refl _ _
      rw [← hq1]
      clear hq1 yq
      refine hK.out _ _ (trivial) (fun hHeld => ?_)
      clear hK K
      try simp only [Act.put, sa, s0, s1]
      refine wpAnyH_ready (rs := [3]) (by kernel_rfl) (by simp) ?_
      refine (AllReadyH.cons (o := q8da_26_4_3) rfl (fun K hK => ?_) AllReadyH.nil)
      · go_simp
        refine Calls.mono (l4PairAny_ok HDwE1.out.1) ?_
        rintro e wE3 ⟨pr, ⟨rfl, hp1, hp2⟩, hc5, hg5⟩
        have HDwE3 := Hid.mk (HDwE1.out.step hgl hbm hc5 hg5)
        clear hc5 hg5
        go_wp2_with fail
        refine hK.out _ _ (trivial) (fun hHeld => ?_)
        clear hK K
        try simp only [Act.put, sa, s0, s1]
        refine wpAnyH_ready (rs := [5]) (by kernel_rfl) (by simp) ?_
        refine (AllReadyH.cons (o := q8da_26_4_5) rfl (fun K hK => ?_) AllReadyH.nil)
        · go_simp
          refine Calls.mono (l1Below_ok 6 HDwE3.out.1) ?_
          rintro e wE5 ⟨tw, rfl, ht, hc6, hg6⟩
          have HDwE5 := Hid.mk (HDwE3.out.step hgl hbm hc6 hg6)
          have htw : (Lit.int .i64 tw).wf = true := (wf_six ht.1 (ht.2.2.1 (by omega)))
          clear hc6 hg6 ht
          go_wp2_with fail
          refine hK.out _ _ (trivial) (fun hHeld => ?_)
          clear hK K
          try simp only [Act.put, sa, s0, s1]
          refine tk 6 q8da_26_4_6 (some 19) (v := ?v4) rfl rfl (by kernel_rfl) hHeld (by rfl) (fun _ _ _ x => x) (fun w h => ?y4) ?_; (case y4 => (try dsimp only at h); go_simp; try (with_reducible rfl)); try simp only [Act.put, sa, s0, s1]
          refine wpAnyH_ready (rs := [7]) (by kernel_rfl) (by simp) ?_
          refine (AllReadyH.cons (o := q8da_26_4_7) rfl (fun K hK => ?_) AllReadyH.nil)
          · go_simp
            obtain ⟨wE7, hq7⟩ : ∃ q, q = wE5.alloc (.cells #[.string pr.fKey, .string pr.fVal, .bool pr.fGone, .int .i64 tw] 36) := ⟨_, rfl⟩
            have hop7 : Below wE5.heap.size wE5 wE7 := by rw [hq7]; exact (Below.refl _ _).alloc (Nat.le_refl _) _
            have HDwE7 := Hid.mk (HDwE5.out.below hop7)
            obtain ⟨g7, HG7⟩ : ∃ z, Hid (z = wE5.heap.size) := ⟨_, Hid.mk rfl⟩
            have HB7 : Hid (Bx wE7 g7 (ndC ⟨pr, tw⟩)) := by unfold Hid; rw [HG7.out, hq7]; exact Bx.new _ _ _
            have hgb7 : bm < g7 := by rw [HG7.out]; exact HDwE5.out.2.2.2.1.lt
            rw [← HG7.out]
            rw [← hq7]
            clear hq7
            refine hK.out _ _ (trivial) (fun hHeld => ?_)
            clear hK K
            try simp only [Act.put, sa, s0, s1]
            refine wpAnyH_ready (rs := [8]) (by kernel_rfl) (by simp) ?_
            refine (AllReadyH.cons (o := q8da_26_4_8) rfl (fun K hK => ?_) AllReadyH.nil)
            · skip
              have HX8 : Hid (Bx wE7 g7 (ndC ⟨pr, tw⟩)) := Bx.under HB7.out (show Below wE7.heap.size wE7 wE7 from Below.refl _ _)
              refine step_append_src wE7 rfl _ _ 24 24 rfl (w.heap.size + 1) 36 iN (.agg #[.string ⟨#[]⟩, .string ⟨#[]⟩, .bool false, .int .i64 0]) 4 48 Tryd.underlying24 HIN.out.1 HIN.out.2.1 HIN.out.2.2.1 HIN.out.2.2.2 rfl (.slice a l.length c) l.length (flatN l) rfl HDwE7.out.2.2.2.2.1.1 (.slice (some ⟨g7, 0, none⟩) 1 1) rfl 1 (ndC ⟨pr, tw⟩) (Src.ofSlice _ Tryd.underlying24 ⟨g7, 0, none⟩ 1 1 _ rfl (bx_news HX8.out) ndC_one) (by unfold maxLen; omega) (by omega) (by have h := HDwE7.out.2.2.2.1.lt; omega) ?_
              intro v8 wE8 ho8 hgr8 hat8
              obtain ⟨l9, HL9⟩ : ∃ l9 : List MNode, Hid (l9 = l ++ [(⟨pr, tw⟩ : MNode)]) := ⟨_, Hid.mk rfl⟩
              have ho9 : wE8.ownsRow (w.heap.size + 1) 36 4 v8 l9.length (flatN l9) := own_congr ho8 (by rw [HL9.out]; simp) (by rw [HL9.out, flatN_app]; simp [flatN])
              have HS8 : Hid (∀ y, y ∈ l9 → ShN y) := fun y hy => (List.mem_append.1 (HL9.out ▸ hy)).elim (HDwE7.out.2.2.2.2.1.2.1 y) (fun h => by rw [List.mem_singleton.1 h]; exact ⟨hp1, hp2, htw⟩)
              obtain ⟨a8, c8, rfl, _⟩ := ownN_leaf ho9 (fun y hy => (HS8.out y hy).ok)
              have HN8 := Hid.mk (InAny.append HDwE7.out hgl hbm hgr8 hat8 ho9 HS8.out (show l9.length ≤ 101 by rw [HL9.out]; simp; omega))
              obtain ⟨u8, hu8⟩ := HN8.out.2.2.1
              have q1 := hu8.cell 0 _ rfl
              have qf := hu8.free 0
              have ql := hu8.lt
              clear ho8 ho9 hgr8 hat8
              refine hK.out _ _ (trivial) (fun hHeld => ?_)
              clear hK K
              try simp only [Act.put, sa, s0, s1]
              refine tk 9 q8da_26_4_9 (some 22) (v := ?v5) rfl rfl (by kernel_rfl) hHeld (by rfl) (fun _ _ _ x => x) (fun w h => ?y5) ?_; (case y5 => (try dsimp only at h); go_simp; try (with_reducible rfl)); try simp only [Act.put, sa, s0, s1]
              refine wpAnyH_ready (rs := [10]) (by kernel_rfl) (by simp) ?_
              refine (AllReadyH.cons (o := q8da_26_4_10) rfl (fun K hK => ?_) AllReadyH.nil)
              · go_simp
                obtain ⟨wE10, hq10⟩ : ∃ q, q = wE8.setCell ⟨bm, 0, none⟩ (.slice a8 l9.length c8) := ⟨_, rfl⟩
                have HN : Hid (InAny w g bm (.slice a8 l9.length c8) l9 101 wE10) := by rw [hq10]; exact InAny.put HN8.out hgl hbm
                clear q1 qf ql
                rw [← hq10]
                clear hq10
                refine hK.out _ _ (trivial) (fun hHeld => ?_)
                clear hK K
                try simp only [Act.put, sa, s0, s1]
                refine wpAnyH_done (by kernel_rfl) ?_ _
                have k0 := HN.out.2.2.2.1.cell 0 _ rfl
                have k1 := HN.out.2.2.1.cell 0 _ rfl
                have k2 := HN.out.2.2.1.free 0
                have k3 := HN.out.2.2.1.lt
                have k4 := HN.out.2.2.2.1.lt
                go_wp2_with fail
                exact bodyPost_ret (v := .agg #[.slice a8 l9.length c8]) (by simp [results, Tryd.results26, go_sem, *]) rfl (HN.out.done hgl)
    · go_simp
      refine Calls.mono (l4PairAny_ok HDwS.out.1) ?_
      rintro e wE3 ⟨pr, ⟨rfl, hp1, hp2⟩, hc5, hg5⟩
      have HDwE3 := Hid.mk (HDwS.out.step hgl hbm hc5 hg5)
      clear hc5 hg5
      go_wp2_with fail
      refine hK.out _ _ (trivial) (fun hHeld => ?_)
      clear hK K
      try simp only [Act.put, sa, s0, s1]
      refine wpAnyH_ready (rs := [1, 5]) (by kernel_rfl) (by simp) ?_
      refine (AllReadyH.cons (o := q8da_26_4_1) rfl (fun K hK => ?_) (AllReadyH.cons (o := q8da_26_4_5) rfl (fun K hK => ?_) AllReadyH.nil))
      · skip
        have yq := HDwE3.out.2.2.2.1.cell 0 _ rfl
        go_simp
        obtain ⟨wE1, hq1⟩ : ∃ q, q = wE3 := ⟨_, rfl⟩
        have HDwE1 : Hid (InAny w g bm (.slice a l.length c) l 100 wE1) := by rw [hq1]; exact HDwE3
        have hop1 : Below wE3.heap.size wE3 wE1 := by rw [hq1]; exact Below.refl _ _
        rw [← hq1]
        clear hq1 yq
        refine hK.out _ _ (trivial) (fun hHeld => ?_)
        clear hK K
        try simp only [Act.put, sa, s0, s1]
        refine wpAnyH_ready (rs := [5]) (by kernel_rfl) (by simp) ?_
        refine (AllReadyH.cons (o := q8da_26_4_5) rfl (fun K hK => ?_) AllReadyH.nil)
        · go_simp
          refine Calls.mono (l1Below_ok 6 HDwE1.out.1) ?_
          rintro e wE5 ⟨tw, rfl, ht, hc6, hg6⟩
          have HDwE5 := Hid.mk (HDwE1.out.step hgl hbm hc6 hg6)
          have htw : (Lit.int .i64 tw).wf = true := (wf_six ht.1 (ht.2.2.1 (by omega)))
          clear hc6 hg6 ht
          go_wp2_with fail
          refine hK.out _ _ (trivial) (fun hHeld => ?_)
          clear hK K
          try simp only [Act.put, sa, s0, s1]
          refine tk 6 q8da_26_4_6 (some 19) (v := ?v6) rfl rfl (by kernel_rfl) hHeld (by rfl) (fun _ _ _ x => x) (fun w h => ?y6) ?_; (case y6 => (try dsimp only at h); go_simp; try (with_reducible rfl)); try simp only [Act.put, sa, s0, s1]
          refine wpAnyH_ready (rs := [7]) (by kernel_rfl) (by simp) ?_
          refine (AllReadyH.cons (o := q8da_26_4_7) rfl (fun K hK => ?_) AllReadyH.nil)
          · go_simp
            obtain ⟨wE7, hq7⟩ : ∃ q, q = wE5.alloc (.cells #[.string pr.fKey, .string pr.fVal, .bool pr.fGone, .int .i64 tw] 36) := ⟨_, rfl⟩
            have hop7 : Below wE5.heap.size wE5 wE7 := by rw [hq7]; exact (Below.refl _ _).alloc (Nat.le_refl _) _
            have HDwE7 := Hid.mk (HDwE5.out.below hop7)
            obtain ⟨g7, HG7⟩ : ∃ z, Hid (z = wE5.heap.size) := ⟨_, Hid.mk rfl⟩
            have HB7 : Hid (Bx wE7 g7 (ndC ⟨pr, tw⟩)) := by unfold Hid; rw [HG7.out, hq7]; exact Bx.new _ _ _
            have hgb7 : bm < g7 := by rw [HG7.out]; exact HDwE5.out.2.2.2.1.lt
            rw [← HG7.out]
            rw [← hq7]
            clear hq7
            refine hK.out _ _ (trivial) (fun hHeld => ?_)
            clear hK K
            try simp only [Act.put, sa, s0, s1]
            refine wpAnyH_ready (rs := [8]) (by kernel_rfl) (by simp) ?_
            refine (AllReadyH.cons (o := q8da_26_4_8) rfl (fun K hK => ?_) AllReadyH.nil)
            · skip
              have HX8 : Hid (Bx wE7 g7 (ndC ⟨pr, tw⟩)) := Bx.under HB7.out (show Below wE7.heap.size wE7 wE7 from Below.refl _ _)
              refine step_append_src wE7 rfl _ _ 24 24 rfl (w.heap.size + 1) 36 iN (.agg #[.string ⟨#[]⟩, .string ⟨#[]⟩, .bool false, .int .i64 0]) 4 48 Tryd.underlying24 HIN.out.1 HIN.out.2.1 HIN.out.2.2.1 HIN.out.2.2.2 rfl (.slice a l.length c) l.length (flatN l) rfl HDwE7.out.2.2.2.2.1.1 (.slice (some ⟨g7, 0, none⟩) 1 1) rfl 1 (ndC ⟨pr, tw⟩) (Src.ofSlice _ Tryd.underlying24 ⟨g7, 0, none⟩ 1 1 _ rfl (bx_news HX8.out) ndC_one) (by unfold maxLen; omega) (by omega) (by have h := HDwE7.out.2.2.2.1.lt; omega) ?_
              intro v8 wE8 ho8 hgr8 hat8
              obtain ⟨l9, HL9⟩ : ∃ l9 : List MNode, Hid (l9 = l ++ [(⟨pr, tw⟩ : MNode)]) := ⟨_, Hid.mk rfl⟩
              have ho9 : wE8.ownsRow (w.heap.size + 1) 36 4 v8 l9.length (flatN l9) := own_congr ho8 (by rw [HL9.out]; simp) (by rw [HL9.out, flatN_app]; simp [flatN])
              have HS8 : Hid (∀ y, y ∈ l9 → ShN y) := fun y hy => (List.mem_append.1 (HL9.out ▸ hy)).elim (HDwE7.out.2.2.2.2.1.2.1 y) (fun h => by rw [List.mem_singleton.1 h]; exact ⟨hp1, hp2, htw⟩)
              obtain ⟨a8, c8, rfl, _⟩ := ownN_leaf ho9 (fun y hy => (HS8.out y hy).ok)
              have HN8 := Hid.mk (InAny.append HDwE7.out hgl hbm hgr8 hat8 ho9 HS8.out (show l9.length ≤ 101 by rw [HL9.out]; simp; omega))
              obtain ⟨u8, hu8⟩ := HN8.out.2.2.1
              have q1 := hu8.cell 0 _ rfl
              have qf := hu8.free 0
              have ql := hu8.lt
              clear ho8 ho9 hgr8 hat8
              refine hK.out _ _ (trivial) (fun hHeld => ?_)
              clear hK K
              try simp only [Act.put, sa, s0, s1]
              refine tk 9 q8da_26_4_9 (some 22) (v := ?v7) rfl rfl (by kernel_rfl) hHeld (by rfl) (fun _ _ _ x => x) (fun w h => ?y7) ?_; (case y7 => (try dsimp only at h); go_simp; try (with_reducible rfl)); try simp only [Act.put, sa, s0, s1]
              refine wpAnyH_ready (rs := [10]) (by kernel_rfl) (by simp) ?_
              refine (AllReadyH.cons (o := q8da_26_4_10) rfl (fun K hK => ?_) AllReadyH.nil)
              · go_simp
                obtain ⟨wE10, hq10⟩ : ∃ q, q = wE8.setCell ⟨bm, 0, none⟩ (.slice a8 l9.length c8) := ⟨_, rfl⟩
                have HN : Hid (InAny w g bm (.slice a8 l9.length c8) l9 101 wE10) := by rw [hq10]; exact InAny.put HN8.out hgl hbm
                clear q1 qf ql
                rw [← hq10]
                clear hq10
                refine hK.out _ _ (trivial) (fun hHeld => ?_)
                clear hK K
                try simp only [Act.put, sa, s0, s1]
                refine wpAnyH_done (by kernel_rfl) ?_ _
                have k0 := HN.out.2.2.2.1.cell 0 _ rfl
                have k1 := HN.out.2.2.1.cell 0 _ rfl
                have k2 := HN.out.2.2.1.free 0
                have k3 := HN.out.2.2.1.lt
                have k4 := HN.out.2.2.2.1.lt
                go_wp2_with fail
                exact bodyPost_ret (v := .agg #[.slice a8 l9.length c8]) (by simp [results, Tryd.results26, go_sem, *]) rfl (HN.out.done hgl)
      · go_simp
        refine Calls.mono (l1Below_ok 6 HDwE3.out.1) ?_
        rintro e wE5 ⟨tw, rfl, ht, hc6, hg6⟩
        have HDwE5 := Hid.mk (HDwE3.out.step hgl hbm hc6 hg6)
        have htw : (Lit.int .i64 tw).wf = true := (wf_six ht.1 (ht.2.2.1 (by omega)))
        clear hc6 hg6 ht
        go_wp2_with fail
        refine hK.out _ _ (trivial) (fun hHeld => ?_)
        clear hK K
        try simp only [Act.put, sa, s0, s1]
        refine tk 6 q8da_26_4_6 (some 19) (v := ?v8) rfl rfl (by kernel_rfl) hHeld (by rfl) (fun _ _ _ x => x) (fun w h => ?y8) ?_; (case y8 => (try dsimp only at h); go_simp; try (with_reducible rfl)); try simp only [Act.put, sa, s0, s1]
        refine wpAnyH_ready (rs := [1, 7]) (by kernel_rfl) (by simp) ?_
        refine (AllReadyH.cons (o := q8da_26_4_1) rfl (fun K hK => ?_) (AllReadyH.cons (o := q8da_26_4_7) rfl (fun K hK => ?_) AllReadyH.nil))
        · skip
          have yq := HDwE5.out.2.2.2.1.cell 0 _ rfl
          go_simp
          obtain ⟨wE1, hq1⟩ : ∃ q, q = wE5 := ⟨_, rfl⟩
          have HDwE1 : Hid (InAny w g bm (.slice a l.length c) l 100 wE1) := by rw [hq1]; exact HDwE5
          have hop1 : Below wE5.heap.size wE5 wE1 := by rw [hq1]; exact Below.refl _ _
          rw [← hq1]
          clear hq1 yq
          refine hK.out _ _ (trivial) (fun hHeld => ?_)
          clear hK K
          try simp only [Act.put, sa, s0, s1]
          refine wpAnyH_ready (rs := [7]) (by kernel_rfl) (by simp) ?_
          refine (AllReadyH.cons (o := q8da_26_4_7) rfl (fun K hK => ?_) AllReadyH.nil)
          · go_simp
            obtain ⟨wE7, hq7⟩ : ∃ q, q = wE1.alloc (.cells #[.string pr.fKey, .string pr.fVal, .bool pr.fGone, .int .i64 tw] 36) := ⟨_, rfl⟩
            have hop7 : Below wE1.heap.size wE1 wE7 := by rw [hq7]; exact (Below.refl _ _).alloc (Nat.le_refl _) _
            have HDwE7 := Hid.mk (HDwE1.out.below hop7)
            obtain ⟨g7, HG7⟩ : ∃ z, Hid (z = wE1.heap.size) := ⟨_, Hid.mk rfl⟩
            have HB7 : Hid (Bx wE7 g7 (ndC ⟨pr, tw⟩)) := by unfold Hid; rw [HG7.out, hq7]; exact Bx.new _ _ _
            have hgb7 : bm < g7 := by rw [HG7.out]; exact HDwE1.out.2.2.2.1.lt
            rw [← HG7.out]
            rw [← hq7]
            clear hq7
            refine hK.out _ _ (trivial) (fun hHeld => ?_)
            clear hK K
            try simp only [Act.put, sa, s0, s1]
            refine wpAnyH_ready (rs := [8]) (by kernel_rfl) (by simp) ?_
            refine (AllReadyH.cons (o := q8da_26_4_8) rfl (fun K hK => ?_) AllReadyH.nil)
            · skip
              have HX8 : Hid (Bx wE7 g7 (ndC ⟨pr, tw⟩)) := Bx.under HB7.out (show Below wE7.heap.size wE7 wE7 from Below.refl _ _)
              refine step_append_src wE7 rfl _ _ 24 24 rfl (w.heap.size + 1) 36 iN (.agg #[.string ⟨#[]⟩, .string ⟨#[]⟩, .bool false, .int .i64 0]) 4 48 Tryd.underlying24 HIN.out.1 HIN.out.2.1 HIN.out.2.2.1 HIN.out.2.2.2 rfl (.slice a l.length c) l.length (flatN l) rfl HDwE7.out.2.2.2.2.1.1 (.slice (some ⟨g7, 0, none⟩) 1 1) rfl 1 (ndC ⟨pr, tw⟩) (Src.ofSlice _ Tryd.underlying24 ⟨g7, 0, none⟩ 1 1 _ rfl (bx_news HX8.out) ndC_one) (by unfold maxLen; omega) (by omega) (by have h := HDwE7.out.2.2.2.1.lt; omega) ?_
              intro v8 wE8 ho8 hgr8 hat8
              obtain ⟨l9, HL9⟩ : ∃ l9 : List MNode, Hid (l9 = l ++ [(⟨pr, tw⟩ : MNode)]) := ⟨_, Hid.mk rfl⟩
              have ho9 : wE8.ownsRow (w.heap.size + 1) 36 4 v8 l9.length (flatN l9) := own_congr ho8 (by rw [HL9.out]; simp) (by rw [HL9.out, flatN_app]; simp [flatN])
              have HS8 : Hid (∀ y, y ∈ l9 → ShN y) := fun y hy => (List.mem_append.1 (HL9.out ▸ hy)).elim (HDwE7.out.2.2.2.2.1.2.1 y) (fun h => by rw [List.mem_singleton.1 h]; exact ⟨hp1, hp2, htw⟩)
              obtain ⟨a8, c8, rfl, _⟩ := ownN_leaf ho9 (fun y hy => (HS8.out y hy).ok)
              have HN8 := Hid.mk (InAny.append HDwE7.out hgl hbm hgr8 hat8 ho9 HS8.out (show l9.length ≤ 101 by rw [HL9.out]; simp; omega))
              obtain ⟨u8, hu8⟩ := HN8.out.2.2.1
              have q1 := hu8.cell 0 _ rfl
              have qf := hu8.free 0
              have ql := hu8.lt
              clear ho8 ho9 hgr8 hat8
              refine hK.out _ _ (trivial) (fun hHeld => ?_)
              clear hK K
              try simp only [Act.put, sa, s0, s1]
              refine tk 9 q8da_26_4_9 (some 22) (v := ?v9) rfl rfl (by kernel_rfl) hHeld (by rfl) (fun _ _ _ x => x) (fun w h => ?y9) ?_; (case y9 => (try dsimp only at h); go_simp; try (with_reducible rfl)); try simp only [Act.put, sa, s0, s1]
              refine wpAnyH_ready (rs := [10]) (by kernel_rfl) (by simp) ?_
              refine (AllReadyH.cons (o := q8da_26_4_10) rfl (fun K hK => ?_) AllReadyH.nil)
              · go_simp
                obtain ⟨wE10, hq10⟩ : ∃ q, q = wE8.setCell ⟨bm, 0, none⟩ (.slice a8 l9.length c8) := ⟨_, rfl⟩
                have HN : Hid (InAny w g bm (.slice a8 l9.length c8) l9 101 wE10) := by rw [hq10]; exact InAny.put HN8.out hgl hbm
                clear q1 qf ql
                rw [← hq10]
                clear hq10
                refine hK.out _ _ (trivial) (fun hHeld => ?_)
                clear hK K
                try simp only [Act.put, sa, s0, s1]
                refine wpAnyH_done (by kernel_rfl) ?_ _
                have k0 := HN.out.2.2.2.1.cell 0 _ rfl
                have k1 := HN.out.2.2.1.cell 0 _ rfl
                have k2 := HN.out.2.2.1.free 0
                have k3 := HN.out.2.2.1.lt
                have k4 := HN.out.2.2.2.1.lt
                go_wp2_with fail
                exact bodyPost_ret (v := .agg #[.slice a8 l9.length c8]) (by simp [results, Tryd.results26, go_sem, *]) rfl (HN.out.done hgl)
        · go_simp
          obtain ⟨wE7, hq7⟩ : ∃ q, q = wE5.alloc (.cells #[.string pr.fKey, .string pr.fVal, .bool pr.fGone, .int .i64 tw] 36) := ⟨_, rfl⟩
          have hop7 : Below wE5.heap.size wE5 wE7 := by rw [hq7]; exact (Below.refl _ _).alloc (Nat.le_refl _) _
          have HDwE7 := Hid.mk (HDwE5.out.below hop7)
          obtain ⟨g7, HG7⟩ : ∃ z, Hid (z = wE5.heap.size) := ⟨_, Hid.mk rfl⟩
          have HB7 : Hid (Bx wE7 g7 (ndC ⟨pr, tw⟩)) := by unfold Hid; rw [HG7.out, hq7]; exact Bx.new _ _ _
          have hgb7 : bm < g7 := by rw [HG7.out]; exact HDwE5.out.2.2.2.1.lt
          rw [← HG7.out]
          rw [← hq7]
          clear hq7
          refine hK.out _ _ (trivial) (fun hHeld => ?_)
          clear hK K
          try simp only [Act.put, sa, s0, s1]
          refine wpAnyH_ready (rs := [1]) (by kernel_rfl) (by simp) ?_
          refine (AllReadyH.cons (o := q8da_26_4_1) rfl (fun K hK => ?_) AllReadyH.nil)
          · skip
            have yq := HDwE7.out.2.2.2.1.cell 0 _ rfl
            go_simp
            obtain ⟨wE1, hq1⟩ : ∃ q, q = wE7 := ⟨_, rfl⟩
            have HDwE1 : Hid (InAny w g bm (.slice a l.length c) l 100 wE1) := by rw [hq1]; exact HDwE7
            have hop1 : Below wE7.heap.size wE7 wE1 := by rw [hq1]; exact Below.refl _ _
            rw [← hq1]
            clear hq1 yq
            refine hK.out _ _ (trivial) (fun hHeld => ?_)
            clear hK K
            try simp only [Act.put, sa, s0, s1]
            refine wpAnyH_ready (rs := [8]) (by kernel_rfl) (by simp) ?_
            refine (AllReadyH.cons (o := q8da_26_4_8) rfl (fun K hK => ?_) AllReadyH.nil)
            · skip
              have HX8 : Hid (Bx wE1 g7 (ndC ⟨pr, tw⟩)) := Bx.under HB7.out (show Below wE7.heap.size wE7 wE1 from bthen (Below.refl _ _) hop1)
              refine step_append_src wE1 rfl _ _ 24 24 rfl (w.heap.size + 1) 36 iN (.agg #[.string ⟨#[]⟩, .string ⟨#[]⟩, .bool false, .int .i64 0]) 4 48 Tryd.underlying24 HIN.out.1 HIN.out.2.1 HIN.out.2.2.1 HIN.out.2.2.2 rfl (.slice a l.length c) l.length (flatN l) rfl HDwE1.out.2.2.2.2.1.1 (.slice (some ⟨g7, 0, none⟩) 1 1) rfl 1 (ndC ⟨pr, tw⟩) (Src.ofSlice _ Tryd.underlying24 ⟨g7, 0, none⟩ 1 1 _ rfl (bx_news HX8.out) ndC_one) (by unfold maxLen; omega) (by omega) (by have h := HDwE1.out.2.2.2.1.lt; omega) ?_
              intro v8 wE8 ho8 hgr8 hat8
              obtain ⟨l9, HL9⟩ : ∃ l9 : List MNode, Hid (l9 = l ++ [(⟨pr, tw⟩ : MNode)]) := ⟨_, Hid.mk rfl⟩
              have ho9 : wE8.ownsRow (w.heap.size + 1) 36 4 v8 l9.length (flatN l9) := own_congr ho8 (by rw [HL9.out]; simp) (by rw [HL9.out, flatN_app]; simp [flatN])
              have HS8 : Hid (∀ y, y ∈ l9 → ShN y) := fun y hy => (List.mem_append.1 (HL9.out ▸ hy)).elim (HDwE1.out.2.2.2.2.1.2.1 y) (fun h => by rw [List.mem_singleton.1 h]; exact ⟨hp1, hp2, htw⟩)
              obtain ⟨a8, c8, rfl, _⟩ := ownN_leaf ho9 (fun y hy => (HS8.out y hy).ok)
              have HN8 := Hid.mk (InAny.append HDwE1.out hgl hbm hgr8 hat8 ho9 HS8.out (show l9.length ≤ 101 by rw [HL9.out]; simp; omega))
              obtain ⟨u8, hu8⟩ := HN8.out.2.2.1
              have q1 := hu8.cell 0 _ rfl
              have qf := hu8.free 0
              have ql := hu8.lt
              clear ho8 ho9 hgr8 hat8
              refine hK.out _ _ (trivial) (fun hHeld => ?_)
              clear hK K
              try simp only [Act.put, sa, s0, s1]
              refine tk 9 q8da_26_4_9 (some 22) (v := ?v10) rfl rfl (by kernel_rfl) hHeld (by rfl) (fun _ _ _ x => x) (fun w h => ?y10) ?_; (case y10 => (try dsimp only at h); go_simp; try (with_reducible rfl)); try simp only [Act.put, sa, s0, s1]
              refine wpAnyH_ready (rs := [10]) (by kernel_rfl) (by simp) ?_
              refine (AllReadyH.cons (o := q8da_26_4_10) rfl (fun K hK => ?_) AllReadyH.nil)
              · go_simp
                obtain ⟨wE10, hq10⟩ : ∃ q, q = wE8.setCell ⟨bm, 0, none⟩ (.slice a8 l9.length c8) := ⟨_, rfl⟩
                have HN : Hid (InAny w g bm (.slice a8 l9.length c8) l9 101 wE10) := by rw [hq10]; exact InAny.put HN8.out hgl hbm
                clear q1 qf ql
                rw [← hq10]
                clear hq10
                refine hK.out _ _ (trivial) (fun hHeld => ?_)
                clear hK K
                try simp only [Act.put, sa, s0, s1]
                refine wpAnyH_done (by kernel_rfl) ?_ _
                have k0 := HN.out.2.2.2.1.cell 0 _ rfl
                have k1 := HN.out.2.2.1.cell 0 _ rfl
                have k2 := HN.out.2.2.1.free 0
                have k3 := HN.out.2.2.1.lt
                have k4 := HN.out.2.2.2.1.lt
                go_wp2_with fail
                exact bodyPost_ret (v := .agg #[.slice a8 l9.length c8]) (by simp [results, Tryd.results26, go_sem, *]) rfl (HN.out.done hgl)
  · have k0 := HD3.out.2.2.2.1.cell 0 _ rfl
    have k1 := HD3.out.2.2.1.cell 0 _ rfl
    have k2 := HD3.out.2.2.1.free 0
    have k3 := HD3.out.2.2.1.lt
    have k4 := HD3.out.2.2.2.1.lt
    go_wp2_with fail
    exact bodyPost_ret (v := .agg #[.slice a l.length c]) (by simp [results, Tryd.results26, go_sem, *]) rfl ((HD3.out.more (by omega : (100 : Nat) ≤ 101)).done hgl)

end Go.Proofs.YtadadkookbkkoaaDoor
