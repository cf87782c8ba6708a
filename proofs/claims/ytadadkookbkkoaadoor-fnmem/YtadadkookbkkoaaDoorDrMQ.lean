/-
  Tables as they are drawn, no longer than was said.
-/
import Derived.Test.YtadadkookbkkoaaDoorRegK
import Derived.Test.YtadadkookbkkoaaDoorDrMK
namespace Go.Proofs.YtadadkookbkkoaaDoor
open Go.RowKit Go.Maps
set_option linter.unusedVariables false
set_option linter.unusedSimpArgs false
set_option maxRecDepth 10000
abbrev qe38_48_5_1 : Oper := ⟨some 17, .move (.tmp 0), 54, "l04_mem.go:160", #[], none⟩
abbrev qe38_48_5_3 : Oper := ⟨some 19, .move (.tmp 0), 54, "l04_mem.go:160", #[], none⟩
abbrev qe38_48_5_2 : Oper := ⟨some 18, .call { callee := .value (.func 50), args := #[.tmp 17], argTypes := #[54] }, 28, "l04_mem.go:160", #[⟨1, .data⟩], none⟩
abbrev qe38_48_5_0 : Oper := ⟨some 16, .load 26 (.tmp 5), 26, "l04_mem.go:160", #[], none⟩
abbrev qe38_48_5_4 : Oper := ⟨some 20, .call { callee := .value (.func 29), args := #[.tmp 19, .const (.int .i64 4)], argTypes := #[54, 3] }, 3, "l04_mem.go:160", #[⟨3, .data⟩, ⟨2, .chain⟩], none⟩
abbrev qe38_48_5_5 : Oper := ⟨some 21, .binOp .add 3 (.const (.int .i64 1)) (.tmp 20) 3, 3, "l04_mem.go:160", #[⟨4, .data⟩], none⟩
abbrev qe38_48_5_6 : Oper := ⟨some 22, .call { callee := .value (.func 10), args := #[.tmp 16, .tmp 18, .tmp 21], argTypes := #[26, 28, 3] }, 31, "l04_mem.go:160", #[⟨0, .data⟩, ⟨2, .data⟩, ⟨5, .data⟩, ⟨4, .chain⟩], none⟩
abbrev qe38_48_5_7 : Oper := ⟨some 15, .move (.tmp 22), 31, "l04_mem.go:160", #[⟨6, .data⟩], none⟩
abbrev qe38_48_5_8 : Oper := ⟨some 23, .extract (.tmp 15) 0, 26, "l04_mem.go:160", #[⟨7, .data⟩], none⟩
abbrev qe38_48_5_9 : Oper := ⟨some 24, .extract (.tmp 15) 1, 4, "l04_mem.go:160", #[⟨7, .data⟩, { on := 10, ground := Ground.gcOnly Departure.lateStores }], none⟩
abbrev qe38_48_5_10 : Oper := ⟨none, .store 26 (.tmp 5) (.tmp 23), 0, "l04_mem.go:160", #[⟨8, .data⟩, ⟨6, .chain⟩, ⟨0, .phase⟩, ⟨1, .phase⟩, ⟨2, .phase⟩, ⟨3, .phase⟩, ⟨4, .phase⟩, ⟨5, .phase⟩, ⟨6, .phase⟩, ⟨7, .phase⟩, ⟨8, .phase⟩, { on := 9, ground := Ground.textOnly Departure.lateStores }], none⟩
abbrev qe38_26_4_0 : Oper := ⟨some 13, .fieldAddr 26 (.tmp 5) 0, 0, "l04_mem.go:169", #[], none⟩
abbrev qe38_26_4_2 : Oper := ⟨some 15, .move (.tmp 0), 54, "l04_mem.go:169", #[], none⟩
abbrev qe38_26_4_4 : Oper := ⟨some 17, .move (.tmp 0), 54, "l04_mem.go:169", #[], none⟩
abbrev qe38_26_4_3 : Oper := ⟨some 16, .call { callee := .value (.func 30), args := #[.tmp 15], argTypes := #[54] }, 28, "l04_mem.go:169", #[⟨2, .data⟩], none⟩
abbrev qe38_26_4_1 : Oper := ⟨some 14, .load 24 (.tmp 13), 24, "l04_mem.go:169", #[⟨0, .data⟩], none⟩
abbrev qe38_26_4_5 : Oper := ⟨some 18, .call { callee := .value (.func 29), args := #[.tmp 17, .const (.int .i64 6)], argTypes := #[54, 3] }, 3, "l04_mem.go:169", #[⟨4, .data⟩, ⟨3, .chain⟩], none⟩
abbrev qe38_26_4_6 : Oper := ⟨some 19, .build 36 #[(0, .tmp 16), (1, .tmp 18)], 36, "l04_mem.go:169", #[⟨3, .data⟩, ⟨5, .data⟩], none⟩
abbrev qe38_26_4_7 : Oper := ⟨some 20, .buildSlice 24 1 #[(0, .tmp 19)], 24, "l04_mem.go:169", #[⟨6, .data⟩], none⟩
abbrev qe38_26_4_8 : Oper := ⟨some 21, .call { callee := .builtin .append, args := #[.tmp 14, .tmp 20], argTypes := #[24, 24] }, 24, "l04_mem.go:169", #[⟨1, .data⟩, ⟨7, .data⟩, ⟨5, .chain⟩], none⟩
abbrev qe38_26_4_9 : Oper := ⟨some 22, .fieldAddr 26 (.tmp 5) 0, 0, "l04_mem.go:169", #[⟨0, .phase⟩, ⟨1, .phase⟩, ⟨2, .phase⟩, ⟨3, .phase⟩, ⟨4, .phase⟩, ⟨5, .phase⟩, ⟨6, .phase⟩, ⟨7, .phase⟩, ⟨8, .phase⟩], none⟩
abbrev qe38_26_4_10 : Oper := ⟨none, .store 24 (.tmp 22) (.tmp 21), 0, "l04_mem.go:169", #[⟨9, .data⟩, ⟨8, .data⟩, ⟨8, .chain⟩, ⟨0, .phase⟩, ⟨1, .phase⟩, ⟨2, .phase⟩, ⟨3, .phase⟩, ⟨4, .phase⟩, ⟨5, .phase⟩, ⟨6, .phase⟩, ⟨7, .phase⟩, ⟨8, .phase⟩], none⟩

set_option maxHeartbeats 4000000 in
theorem l4DrawM_ok {g : Nat} {w : World} (q : Int) (QQ : Nat) (hc : CurOk w g) (hq : q ≤ QQ) (hQ : QQ ≤ 100) :
    Calls Tryd.prog 48 #[.pointer (some ⟨g, 0, none⟩), .int .i64 q] w fun e w' => MemPost w g QQ e w' := by
  have hgl := hc.lt
  obtain ⟨w0, hw0⟩ : ∃ x, x = (w.alloc (.cells #[.slice none 0 0] 26)).alloc (.cells #[.slice none 0 0] 26) := ⟨_, rfl⟩
  have hI0 : InDraw w g (.slice none 0 0) [] 0 w0 := by
    rw [hw0]
    exact ⟨(hc.alloc _).alloc _, grown_alloc (grown_alloc (World.grownBy.refl _ _) _) _, (Bw.new _ _ _).alloc _, Bw.new' _ _ _ (by simp), MemDrawn.nil⟩
  go_enter Tryd.func48, Tryd.ntmps48
  go_wp2_with (rw [← hw0])
  refine (l1Below_ok _ hI0.1).mono ?_
  rintro e w1 ⟨x, rfl, hx, hc1, hg1⟩
  have hI1 := hI0.step hgl hc1 hg1
  have hx1 : x ≤ QQ := by by_cases h0 : 0 < q; (have := hx.2.2.1 h0; omega); (have := hx.2.2.2 (by omega); omega)
  have hx0 := hx.1
  clear hw0 hI0 hx hc1 hg1
  go_wp2_with fail
  go_loopw [6] (fun iv wr => ∃ (i : Nat) (v : Value) (l : List MNode), (i : Int) ≤ x ∧ iv = .int .i64 i ∧ InDraw w g v l (x.toNat - i) wr) (fun iv _ => (intOf iv).toNat)
  case atStart => exact ⟨x.toNat, .slice none 0 0, [], by omega, by rw [show ((x.toNat : Nat) : Int) = x by omega], by rw [Nat.sub_self]; exact hI1⟩
  case round =>
    obtain ⟨i, v, l, hi, rfl, hI⟩ := hrel
    obtain ⟨a, c, rfl, hLf⟩ := ownN_leaf hI.2.2.2.2.1 (fun y hy => (hI.2.2.2.2.2.1 y hy).ok)
    have HI := Hid.mk hI
    have HLN := Hid.mk hI.2.2.2.2.2.2
    clear hI1
    by_cases hlt : 0 < i
    · have hlt' : (0 : Int) < (i : Int) := by omega
      obtain ⟨j, rfl⟩ : ∃ j, i = j + 1 := ⟨i - 1, by omega⟩
      have y1 := HI.out.2.2.2.1.cell 0 _ rfl
      have HD0 : Hid (InDraw w g (.slice a l.length c) l (x.toNat - (j + 1)) wr.drew) := HI.out.below (Below.drew (Below.refl _ _))
      have hlc : l.length ≤ 100 := by have h := HLN.out; omega
      clear hLf hI
      go_wp2_with fail
      refine wp_region_held_drew (S := fun W => True) (by kernel_rfl) (trivial) (fun hHeld => ?_)
      obtain ⟨wS, hwS⟩ : ∃ wS, wS = wr.drew := ⟨_, rfl⟩
      have HDwS : Hid (InDraw w g (.slice a l.length c) l (x.toNat - (j + 1)) wS) := by rw [hwS]; exact HD0.out
      rw [← hwS]
      clear hwS
      refine tk 1 qe38_48_5_1 (some 17) (v := ?v1) rfl rfl (by kernel_rfl) hHeld (by rfl) (fun _ _ _ x => x) (fun w h => ?y1) ?_; (case y1 => (try dsimp only at h); go_simp; try (with_reducible rfl)); try simp only [Act.put, sa, s0, s1]
      refine tk 3 qe38_48_5_3 (some 19) (v := ?v2) rfl rfl (by kernel_rfl) hHeld (by rfl) (fun _ _ _ x => x) (fun w h => ?y2) ?_; (case y2 => (try dsimp only at h); go_simp; try (with_reducible rfl)); try simp only [Act.put, sa, s0, s1]
      refine wpAnyH_ready (rs := [0, 2]) (by kernel_rfl) (by simp) ?_
      refine (AllReadyH.cons (o := qe38_48_5_0) rfl (fun K hK => ?_) (AllReadyH.cons (o := qe38_48_5_2) rfl (fun K hK => ?_) AllReadyH.nil))
      · skip
        have yq := HDwS.out.2.2.2.1.cell 0 _ rfl
        go_simp
        obtain ⟨wE0, hq0⟩ : ∃ q, q = wS := ⟨_, rfl⟩
        have HDwE0 : Hid (InDraw w g (.slice a l.length c) l (x.toNat - (j + 1)) wE0) := by rw [hq0]; exact HDwS
        rw [← hq0]
        clear hq0 yq
        refine hK.out _ _ (trivial) (fun hHeld => ?_)
        clear hK K
        try simp only [Act.put, sa, s0, s1]
        refine wpAnyH_ready (rs := [2]) (by kernel_rfl) (by simp) ?_
        refine (AllReadyH.cons (o := qe38_48_5_2) rfl (fun K hK => ?_) AllReadyH.nil)
        · go_simp
          refine Calls.mono (l4Pair_ok HDwE0.out.1) ?_
          rintro e wE2 ⟨pr, ⟨rfl, hp1, hp2⟩, hc2, hg2⟩
          have HDwE2 := Hid.mk (HDwE0.out.step hgl hc2 hg2)
          clear hc2 hg2
          go_wp2_with fail
          refine hK.out _ _ (trivial) (fun hHeld => ?_)
          clear hK K
          try simp only [Act.put, sa, s0, s1]
          refine wpAnyH_ready (rs := [4]) (by kernel_rfl) (by simp) ?_
          refine (AllReadyH.cons (o := qe38_48_5_4) rfl (fun K hK => ?_) AllReadyH.nil)
          · go_simp
            refine Calls.mono (l1Below_ok 4 HDwE2.out.1) ?_
            rintro e wE4 ⟨tw, rfl, ht, hc4, hg4⟩
            have HDwE4 := Hid.mk (HDwE2.out.step hgl hc4 hg4)
            have ht1 : 1 ≤ 1 + tw := (by omega)
            have ht2 : 1 + tw ≤ 4 := (by have := ht.2.2.1 (by omega); omega)
            have hwr : IntKind.i64.wrap (1 + tw) = 1 + tw := (by rw [IntKind.wrap_i64]; omega)
            clear hc4 hg4 ht
            go_wp2_with fail
            refine hK.out _ _ (trivial) (fun hHeld => ?_)
            clear hK K
            try simp only [Act.put, sa, s0, s1]
            refine tk 5 qe38_48_5_5 (some 21) (v := ?v3) rfl rfl (by kernel_rfl) hHeld (by rfl) (fun _ _ _ x => x) (fun w h => ?y3) ?_; (case y3 => (try dsimp only at h); go_simp; try (with_reducible rfl)); try simp only [Act.put, sa, s0, s1]
            refine wpAnyH_ready (rs := [6]) (by kernel_rfl) (by simp) ?_
            refine (AllReadyH.cons (o := qe38_48_5_6) rfl (fun K hK => ?_) AllReadyH.nil)
            · go_simp
              refine Calls.mono (specMemPut_ok a l.length c l pr (1 + tw) wE4 rfl (by omega) (ownN_leaf' HDwE4.out.2.2.2.2.1 (fun y hy => (HDwE4.out.2.2.2.2.2.1 y hy).ok)) HDwE4.out.2.2.2.2.2.1 hp1 hp2 ht1 ht2 (wf_small ht1 ht2)) ?_
              rintro e wE6 ⟨v3, b3, l3, rfl, hd3, hx3⟩
              have HDwE6 := Hid.mk (HDwE4.out.below hx3)
              obtain ⟨a3, c3, rfl, _⟩ := ownN_leaf hd3.1 (fun y hy => (hd3.2.1 y hy).ok)
              have hz2 := HDwE4.out.2.2.2.1.lt
              have HE3 := Hid.mk (MemDrawn.base hd3 (show w.heap.size + 2 ≤ _ by omega))
              have q1 := HDwE6.out.2.2.2.1.cell 0 _ rfl
              have qf := HDwE6.out.2.2.2.1.free 0
              have ql := HDwE6.out.2.2.2.1.lt
              clear hd3 hx3
              go_wp2_with fail
              refine hK.out _ _ (trivial) (fun hHeld => ?_)
              clear hK K
              try simp only [Act.put, sa, s0, s1]
              refine tk 7 qe38_48_5_7 (some 15) (v := ?v4) rfl rfl (by kernel_rfl) hHeld (by rfl) (fun _ _ _ x => x) (fun w h => ?y4) ?_; (case y4 => (try dsimp only at h); go_simp; try (with_reducible rfl)); try simp only [Act.put, sa, s0, s1]
              refine tk 8 qe38_48_5_8 (some 23) (v := ?v5) rfl rfl (by kernel_rfl) hHeld (by rfl) (fun _ _ _ x => x) (fun w h => ?y5) ?_; (case y5 => (try dsimp only at h); go_simp; try (with_reducible rfl)); try simp only [Act.put, sa, s0, s1]
              refine tk 9 qe38_48_5_9 (some 24) (v := ?v6) rfl rfl (by kernel_rfl) hHeld (by rfl) (fun _ _ _ x => x) (fun w h => ?y6) ?_; (case y6 => (try dsimp only at h); go_simp; try (with_reducible rfl)); try simp only [Act.put, sa, s0, s1]
              refine wpAnyH_ready (rs := [10]) (by kernel_rfl) (by simp) ?_
              refine (AllReadyH.cons (o := qe38_48_5_10) rfl (fun K hK => ?_) AllReadyH.nil)
              · go_simp
                obtain ⟨wE10, hq10⟩ : ∃ q, q = wE6.setCell ⟨w.heap.size + 1, 0, none⟩ (.slice a3 l3.length c3) := ⟨_, rfl⟩
                have HN : Hid (InDraw w g (.slice a3 l3.length c3) l3 (x.toNat - j) wE10) := by rw [hq10]; exact InDraw.put HDwE6.out HE3.out hgl (by have h := HLN.out; omega)
                rw [← hq10]
                clear hq10 q1 qf ql
                refine hK.out _ _ (trivial) (fun hHeld => ?_)
                clear hK K
                try simp only [Act.put, sa, s0, s1]
                refine wpAnyH_done (by kernel_rfl) ?_ _
                go_wp2_with fail
                go_roundw
                case rel => exact ⟨j, .slice a3 l3.length c3, l3, by omega, by go_num, HN.out⟩
                case measure => simp [intOf]
      · go_simp
        refine Calls.mono (l4Pair_ok HDwS.out.1) ?_
        rintro e wE2 ⟨pr, ⟨rfl, hp1, hp2⟩, hc2, hg2⟩
        have HDwE2 := Hid.mk (HDwS.out.step hgl hc2 hg2)
        clear hc2 hg2
        go_wp2_with fail
        refine hK.out _ _ (trivial) (fun hHeld => ?_)
        clear hK K
        try simp only [Act.put, sa, s0, s1]
        refine wpAnyH_ready (rs := [0, 4]) (by kernel_rfl) (by simp) ?_
        refine (AllReadyH.cons (o := qe38_48_5_0) rfl (fun K hK => ?_) (AllReadyH.cons (o := qe38_48_5_4) rfl (fun K hK => ?_) AllReadyH.nil))
        · skip
          have yq := HDwE2.out.2.2.2.1.cell 0 _ rfl
          go_simp
          obtain ⟨wE0, hq0⟩ : ∃ q, q = wE2 := ⟨_, rfl⟩
          have HDwE0 : Hid (InDraw w g (.slice a l.length c) l (x.toNat - (j + 1)) wE0) := by rw [hq0]; exact HDwE2
          rw [← hq0]
          clear hq0 yq
          refine hK.out _ _ (trivial) (fun hHeld => ?_)
          clear hK K
          try simp only [Act.put, sa, s0, s1]
          refine wpAnyH_ready (rs := [4]) (by kernel_rfl) (by simp) ?_
          refine (AllReadyH.cons (o := qe38_48_5_4) rfl (fun K hK => ?_) AllReadyH.nil)
          · go_simp
            refine Calls.mono (l1Below_ok 4 HDwE0.out.1) ?_
            rintro e wE4 ⟨tw, rfl, ht, hc4, hg4⟩
            have HDwE4 := Hid.mk (HDwE0.out.step hgl hc4 hg4)
            have ht1 : 1 ≤ 1 + tw := (by omega)
            have ht2 : 1 + tw ≤ 4 := (by have := ht.2.2.1 (by omega); omega)
            have hwr : IntKind.i64.wrap (1 + tw) = 1 + tw := (by rw [IntKind.wrap_i64]; omega)
            clear hc4 hg4 ht
            go_wp2_with fail
            refine hK.out _ _ (trivial) (fun hHeld => ?_)
            clear hK K
            try simp only [Act.put, sa, s0, s1]
            refine tk 5 qe38_48_5_5 (some 21) (v := ?v7) rfl rfl (by kernel_rfl) hHeld (by rfl) (fun _ _ _ x => x) (fun w h => ?y7) ?_; (case y7 => (try dsimp only at h); go_simp; try (with_reducible rfl)); try simp only [Act.put, sa, s0, s1]
            refine wpAnyH_ready (rs := [6]) (by kernel_rfl) (by simp) ?_
            refine (AllReadyH.cons (o := qe38_48_5_6) rfl (fun K hK => ?_) AllReadyH.nil)
            · go_simp
              refine Calls.mono (specMemPut_ok a l.length c l pr (1 + tw) wE4 rfl (by omega) (ownN_leaf' HDwE4.out.2.2.2.2.1 (fun y hy => (HDwE4.out.2.2.2.2.2.1 y hy).ok)) HDwE4.out.2.2.2.2.2.1 hp1 hp2 ht1 ht2 (wf_small ht1 ht2)) ?_
              rintro e wE6 ⟨v3, b3, l3, rfl, hd3, hx3⟩
              have HDwE6 := Hid.mk (HDwE4.out.below hx3)
              obtain ⟨a3, c3, rfl, _⟩ := ownN_leaf hd3.1 (fun y hy => (hd3.2.1 y hy).ok)
              have hz2 := HDwE4.out.2.2.2.1.lt
              have HE3 := Hid.mk (MemDrawn.base hd3 (show w.heap.size + 2 ≤ _ by omega))
              have q1 := HDwE6.out.2.2.2.1.cell 0 _ rfl
              have qf := HDwE6.out.2.2.2.1.free 0
              have ql := HDwE6.out.2.2.2.1.lt
              clear hd3 hx3
              go_wp2_with fail
              refine hK.out _ _ (trivial) (fun hHeld => ?_)
              clear hK K
              try simp only [Act.put, sa, s0, s1]
              refine tk 7 qe38_48_5_7 (some 15) (v := ?v8) rfl rfl (by kernel_rfl) hHeld (by rfl) (fun _ _ _ x => x) (fun w h => ?y8) ?_; (case y8 => (try dsimp only at h); go_simp; try (with_reducible rfl)); try simp only [Act.put, sa, s0, s1]
              refine tk 8 qe38_48_5_8 (some 23) (v := ?v9) rfl rfl (by kernel_rfl) hHeld (by rfl) (fun _ _ _ x => x) (fun w h => ?y9) ?_; (case y9 => (try dsimp only at h); go_simp; try (with_reducible rfl)); try simp only [Act.put, sa, s0, s1]
              refine tk 9 qe38_48_5_9 (some 24) (v := ?v10) rfl rfl (by kernel_rfl) hHeld (by rfl) (fun _ _ _ x => x) (fun w h => ?y10) ?_; (case y10 => (try dsimp only at h); go_simp; try (with_reducible rfl)); try simp only [Act.put, sa, s0, s1]
              refine wpAnyH_ready (rs := [10]) (by kernel_rfl) (by simp) ?_
              refine (AllReadyH.cons (o := qe38_48_5_10) rfl (fun K hK => ?_) AllReadyH.nil)
              · go_simp
                obtain ⟨wE10, hq10⟩ : ∃ q, q = wE6.setCell ⟨w.heap.size + 1, 0, none⟩ (.slice a3 l3.length c3) := ⟨_, rfl⟩
                have HN : Hid (InDraw w g (.slice a3 l3.length c3) l3 (x.toNat - j) wE10) := by rw [hq10]; exact InDraw.put HDwE6.out HE3.out hgl (by have h := HLN.out; omega)
                rw [← hq10]
                clear hq10 q1 qf ql
                refine hK.out _ _ (trivial) (fun hHeld => ?_)
                clear hK K
                try simp only [Act.put, sa, s0, s1]
                refine wpAnyH_done (by kernel_rfl) ?_ _
                go_wp2_with fail
                go_roundw
                case rel => exact ⟨j, .slice a3 l3.length c3, l3, by omega, by go_num, HN.out⟩
                case measure => simp [intOf]
        · go_simp
          refine Calls.mono (l1Below_ok 4 HDwE2.out.1) ?_
          rintro e wE4 ⟨tw, rfl, ht, hc4, hg4⟩
          have HDwE4 := Hid.mk (HDwE2.out.step hgl hc4 hg4)
          have ht1 : 1 ≤ 1 + tw := (by omega)
          have ht2 : 1 + tw ≤ 4 := (by have := ht.2.2.1 (by omega); omega)
          have hwr : IntKind.i64.wrap (1 + tw) = 1 + tw := (by rw [IntKind.wrap_i64]; omega)
          clear hc4 hg4 ht
          go_wp2_with fail
          refine hK.out _ _ (trivial) (fun hHeld => ?_)
          clear hK K
          try simp only [Act.put, sa, s0, s1]
          refine tk 5 qe38_48_5_5 (some 21) (v := ?v11) rfl rfl (by kernel_rfl) hHeld (by rfl) (fun _ _ _ x => x) (fun w h => ?y11) ?_; (case y11 => (try dsimp only at h); go_simp; try (with_reducible rfl)); try simp only [Act.put, sa, s0, s1]
          refine wpAnyH_ready (rs := [0]) (by kernel_rfl) (by simp) ?_
          refine (AllReadyH.cons (o := qe38_48_5_0) rfl (fun K hK => ?_) AllReadyH.nil)
          · skip
            have yq := HDwE4.out.2.2.2.1.cell 0 _ rfl
            go_simp
            obtain ⟨wE0, hq0⟩ : ∃ q, q = wE4 := ⟨_, rfl⟩
            have HDwE0 : Hid (InDraw w g (.slice a l.length c) l (x.toNat - (j + 1)) wE0) := by rw [hq0]; exact HDwE4
            rw [← hq0]
            clear hq0 yq
            refine hK.out _ _ (trivial) (fun hHeld => ?_)
            clear hK K
            try simp only [Act.put, sa, s0, s1]
            refine wpAnyH_ready (rs := [6]) (by kernel_rfl) (by simp) ?_
            refine (AllReadyH.cons (o := qe38_48_5_6) rfl (fun K hK => ?_) AllReadyH.nil)
            · go_simp
              refine Calls.mono (specMemPut_ok a l.length c l pr (1 + tw) wE0 rfl (by omega) (ownN_leaf' HDwE0.out.2.2.2.2.1 (fun y hy => (HDwE0.out.2.2.2.2.2.1 y hy).ok)) HDwE0.out.2.2.2.2.2.1 hp1 hp2 ht1 ht2 (wf_small ht1 ht2)) ?_
              rintro e wE6 ⟨v3, b3, l3, rfl, hd3, hx3⟩
              have HDwE6 := Hid.mk (HDwE0.out.below hx3)
              obtain ⟨a3, c3, rfl, _⟩ := ownN_leaf hd3.1 (fun y hy => (hd3.2.1 y hy).ok)
              have hz2 := HDwE0.out.2.2.2.1.lt
              have HE3 := Hid.mk (MemDrawn.base hd3 (show w.heap.size + 2 ≤ _ by omega))
              have q1 := HDwE6.out.2.2.2.1.cell 0 _ rfl
              have qf := HDwE6.out.2.2.2.1.free 0
              have ql := HDwE6.out.2.2.2.1.lt
              clear hd3 hx3
              go_wp2_with fail
              refine hK.out _ _ (trivial) (fun hHeld => ?_)
              clear hK K
              try simp only [Act.put, sa, s0, s1]
              refine tk 7 qe38_48_5_7 (some 15) (v := ?v12) rfl rfl (by kernel_rfl) hHeld (by rfl) (fun _ _ _ x => x) (fun w h => ?y12) ?_; (case y12 => (try dsimp only at h); go_simp; try (with_reducible rfl)); try simp only [Act.put, sa, s0, s1]
              refine tk 8 qe38_48_5_8 (some 23) (v := ?v13) rfl rfl (by kernel_rfl) hHeld (by rfl) (fun _ _ _ x => x) (fun w h => ?y13) ?_; (case y13 => (try dsimp only at h); go_simp; try (with_reducible rfl)); try simp only [Act.put, sa, s0, s1]
              refine tk 9 qe38_48_5_9 (some 24) (v := ?v14) rfl rfl (by kernel_rfl) hHeld (by rfl) (fun _ _ _ x => x) (fun w h => ?y14) ?_; (case y14 => (try dsimp only at h); go_simp; try (with_reducible rfl)); try simp only [Act.put, sa, s0, s1]
              refine wpAnyH_ready (rs := [10]) (by kernel_rfl) (by simp) ?_
              refine (AllReadyH.cons (o := qe38_48_5_10) rfl (fun K hK => ?_) AllReadyH.nil)
              · go_simp
                obtain ⟨wE10, hq10⟩ : ∃ q, q = wE6.setCell ⟨w.heap.size + 1, 0, none⟩ (.slice a3 l3.length c3) := ⟨_, rfl⟩
                have HN : Hid (InDraw w g (.slice a3 l3.length c3) l3 (x.toNat - j) wE10) := by rw [hq10]; exact InDraw.put HDwE6.out HE3.out hgl (by have h := HLN.out; omega)
                rw [← hq10]
                clear hq10 q1 qf ql
                refine hK.out _ _ (trivial) (fun hHeld => ?_)
                clear hK K
                try simp only [Act.put, sa, s0, s1]
                refine wpAnyH_done (by kernel_rfl) ?_ _
                go_wp2_with fail
                go_roundw
                case rel => exact ⟨j, .slice a3 l3.length c3, l3, by omega, by go_num, HN.out⟩
                case measure => simp [intOf]
    · have hlt' : ¬ (0 : Int) < (i : Int) := by omega
      have y1 := HI.out.2.2.2.1.cell 0 _ rfl
      have y0 := HI.out.2.2.1.cell 0 _ rfl
      have f0 := HI.out.2.2.1.free 0
      have z0 := HI.out.2.2.1.lt
      have z1 := HI.out.2.2.2.1.lt
      have FZ : Hid (MemDrawn (wr.setCell ⟨w.heap.size, 0, none⟩ (.slice a l.length c)) w.heap.size (.slice a l.length c) l QQ ∧ CurOk (wr.setCell ⟨w.heap.size, 0, none⟩ (.slice a l.length c)) g ∧ w.grownBy (wr.setCell ⟨w.heap.size, 0, none⟩ (.slice a l.length c)) (some g)) := by
        obtain ⟨k1, k2, k3⟩ := (HI.out.2.2.2.2.other (b := w.heap.size) (i := 0) (u := .slice a l.length c) (by omega)).more (b := QQ) (by omega)
        exact ⟨⟨own_base k1 (by omega), k2, k3⟩, HI.out.1.setCell (p := ⟨w.heap.size, 0, none⟩) hgl _, grown_setCell HI.out.2.1 (p := ⟨w.heap.size, 0, none⟩) (Nat.le_refl _) _⟩
      clear hI hLf
      go_wp2_with fail
      exact bodyPost_ret (v := .agg #[.slice a l.length c]) (by simp [results, Tryd.results48, go_sem, *]) rfl (show MemPost w g QQ _ _ from ⟨_, l, rfl, FZ.out⟩)

set_option maxHeartbeats 8000000 in
theorem l4DrawAnyM_ok {g : Nat} {w : World} (q : Int) (QQ : Nat) (hc : CurOk w g) (hq : q ≤ QQ) (hQ : QQ ≤ 100) :
    Calls Tryd.prog 26 #[.pointer (some ⟨g, 0, none⟩), .int .i64 q] w fun e w' => MemPost w g (QQ + 1) e w' := by
  obtain ⟨iN, hiN, hzN0, hzN1, hzN2⟩ := info_parts Tryd.infoNode
  have HIN : Hid (_ ∧ _ ∧ _ ∧ _) := ⟨hiN, hzN0, hzN1, hzN2⟩
  clear hiN hzN0 hzN1 hzN2
  have hgl := hc.lt
  obtain ⟨w0, hw0⟩ : ∃ x, x = w.alloc (.cells #[.slice none 0 0] 26) := ⟨_, rfl⟩
  have hbr : Bw w0 w.heap.size 26 [.slice none 0 0] := by rw [hw0]; exact Bw.new _ _ _
  have hc0 : CurOk w0 g := by rw [hw0]; exact hc.alloc _
  have hg0 : w.grownBy w0 (some g) := by rw [hw0]; exact World.grownBy_alloc w _ _
  have hz0 : w0.heap.size = w.heap.size + 1 := by rw [hw0]; simp
  go_enter Tryd.func26, Tryd.ntmps26
  go_wp2_with (rw [← hw0])
  refine (l4DrawM_ok q QQ hc0 hq hQ).mono ?_
  rintro e w1 ⟨v, l, rfl, hd1, hc1, hg1⟩
  rw [hz0] at hd1
  obtain ⟨a, c, rfl, _⟩ := ownN_leaf hd1.1 (fun y hy => (hd1.2.1 y hy).ok)
  have hbr1 := hbr.grown hg1 (by simp; omega)
  obtain ⟨bm, hbme⟩ : ∃ b, b = w1.heap.size := ⟨_, rfl⟩
  have hbm : w.heap.size < bm := by rw [hbme]; exact hbr1.lt
  obtain ⟨w2, hw2⟩ : ∃ x, x = w1.alloc (.cells #[.slice a l.length c] 26) := ⟨_, rfl⟩
  have HD2 : Hid (InAny w g bm (.slice a l.length c) l QQ w2) := by
    refine ⟨by rw [hw2]; exact hc1.alloc _, by rw [hw2]; exact grown_alloc (grown_trans hg0 hg1) _, by rw [hw2]; exact hbr1.alloc _, by rw [hw2]; exact Bw.new' _ _ _ hbme, by rw [hw2]; exact hd1.under ((Below.refl _ _).alloc (Nat.le_refl _) _), fun e => ?_⟩
    have := (hd1.1.lt _ e).2
    omega
  have hln : l.length ≤ QQ := hd1.2.2
  go_wp2_with fail
  rw [← hw2, ← hbme]
  refine (l1Below_ok 12 HD2.out.1).mono ?_
  rintro e w3 ⟨x, rfl, hx, hc3, hg3⟩
  have HD3 := Hid.mk (HD2.out.step hgl hbm hc3 hg3)
  clear hw0 hbr hc0 hg0 hc1 hg1 hd1 hbr1 hw2 HD2 hc3 hg3 hbme hx
  by_cases x0 : x = 0
  · subst x0
    go_wp2_with fail
    refine wp_region_held_drew (S := fun W => True) (by kernel_rfl) (trivial) (fun hHeld => ?_)
    obtain ⟨wS, hwS⟩ : ∃ wS, wS = w3.drew := ⟨_, rfl⟩
    have HDwS : Hid (InAny w g bm (.slice a l.length c) l QQ wS) := by rw [hwS]; exact HD3.out.below (Below.drew (Below.refl _ _))
    rw [← hwS]
    clear hwS
    refine tk 0 qe38_26_4_0 (some 13) (v := ?v15) rfl rfl (by kernel_rfl) hHeld (by rfl) (fun _ _ _ x => x) (fun w h => ?y15) ?_; (case y15 => (try dsimp only at h); go_simp; try (with_reducible rfl)); try simp only [Act.put, sa, s0, s1]
    refine tk 2 qe38_26_4_2 (some 15) (v := ?v16) rfl rfl (by kernel_rfl) hHeld (by rfl) (fun _ _ _ x => x) (fun w h => ?y16) ?_; (case y16 => (try dsimp only at h); go_simp; try (with_reducible rfl)); try simp only [Act.put, sa, s0, s1]
    refine tk 4 qe38_26_4_4 (some 17) (v := ?v17) rfl rfl (by kernel_rfl) hHeld (by rfl) (fun _ _ _ x => x) (fun w h => ?y17) ?_; (case y17 => (try dsimp only at h); go_simp; try (with_reducible rfl)); try simp only [Act.put, sa, s0, s1]
    refine wpAnyH_ready (rs := [1, 3]) (by kernel_rfl) (by simp) ?_
    refine (AllReadyH.cons (o := qe38_26_4_1) rfl (fun K hK => ?_) (AllReadyH.cons (o := qe38_26_4_3) rfl (fun K hK => ?_) AllReadyH.nil))
    · skip
      have yq := HDwS.out.2.2.2.1.cell 0 _ rfl
      go_simp
      obtain ⟨wE1, hq1⟩ : ∃ q, q = wS := ⟨_, rfl⟩
      have HDwE1 : Hid (InAny w g bm (.slice a l.length c) l QQ wE1) := by rw [hq1]; exact HDwS
      have hop1 : Below wS.heap.size wS wE1 := by rw [hq1]; exact Below.refl _ _
      rw [← hq1]
      clear hq1 yq
      refine hK.out _ _ (trivial) (fun hHeld => ?_)
      clear hK K
      try simp only [Act.put, sa, s0, s1]
      refine wpAnyH_ready (rs := [3]) (by kernel_rfl) (by simp) ?_
      refine (AllReadyH.cons (o := qe38_26_4_3) rfl (fun K hK => ?_) AllReadyH.nil)
      · go_simp
        refine Calls.mono (l4PairAny_ok HDwE1.out.1) ?_
        rintro e wE3 ⟨pr, ⟨rfl, hp1, hp2⟩, hc5, hg5⟩
        have HDwE3 := Hid.mk (HDwE1.out.step hgl hbm hc5 hg5)
        clear hc5 hg5
        go_wp2_with fail
        refine hK.out _ _ (trivial) (fun hHeld => ?_)
        clear hK K
        try simp only [Act.put, sa, s0, s1]
        refine wpAnyH_ready (rs := [5]) (by kernel_rfl) (by simp) ?_
        refine (AllReadyH.cons (o := qe38_26_4_5) rfl (fun K hK => ?_) AllReadyH.nil)
        · go_simp
          refine Calls.mono (l1Below_ok 6 HDwE3.out.1) ?_
          rintro e wE5 ⟨tw, rfl, ht, hc6, hg6⟩
          have HDwE5 := Hid.mk (HDwE3.out.step hgl hbm hc6 hg6)
          have htw : (Lit.int .i64 tw).wf = true := (wf_six ht.1 (ht.2.2.1 (by omega)))
          clear hc6 hg6 ht
          go_wp2_with fail
          refine hK.out _ _ (trivial) (fun hHeld => ?_)
          clear hK K
          try simp only [Act.put, sa, s0, s1]
          refine tk 6 qe38_26_4_6 (some 19) (v := ?v18) rfl rfl (by kernel_rfl) hHeld (by rfl) (fun _ _ _ x => x) (fun w h => ?y18) ?_; (case y18 => (try dsimp only at h); go_simp; try (with_reducible rfl)); try simp only [Act.put, sa, s0, s1]
          refine wpAnyH_ready (rs := [7]) (by kernel_rfl) (by simp) ?_
          refine (AllReadyH.cons (o := qe38_26_4_7) rfl (fun K hK => ?_) AllReadyH.nil)
          · go_simp
            obtain ⟨wE7, hq7⟩ : ∃ q, q = wE5.alloc (.cells #[.string pr.fKey, .string pr.fVal, .bool pr.fGone, .int .i64 tw] 36) := ⟨_, rfl⟩
            have hop7 : Below wE5.heap.size wE5 wE7 := by rw [hq7]; exact (Below.refl _ _).alloc (Nat.le_refl _) _
            have HDwE7 := Hid.mk (HDwE5.out.below hop7)
            obtain ⟨g7, HG7⟩ : ∃ z, Hid (z = wE5.heap.size) := ⟨_, Hid.mk rfl⟩
            have HB7 : Hid (Bx wE7 g7 (ndC ⟨pr, tw⟩)) := by unfold Hid; rw [HG7.out, hq7]; exact Bx.new _ _ _
            have hgb7 : bm < g7 := by rw [HG7.out]; exact HDwE5.out.2.2.2.1.lt
            rw [← HG7.out]
            rw [← hq7]
            clear hq7
            refine hK.out _ _ (trivial) (fun hHeld => ?_)
            clear hK K
            try simp only [Act.put, sa, s0, s1]
            refine wpAnyH_ready (rs := [8]) (by kernel_rfl) (by simp) ?_
            refine (AllReadyH.cons (o := qe38_26_4_8) rfl (fun K hK => ?_) AllReadyH.nil)
            · skip
              have HX8 : Hid (Bx wE7 g7 (ndC ⟨pr, tw⟩)) := Bx.under HB7.out (show Below wE7.heap.size wE7 wE7 from Below.refl _ _)
              refine step_append_src wE7 rfl _ _ 24 24 rfl (w.heap.size + 1) 36 iN (.agg #[.string ⟨#[]⟩, .string ⟨#[]⟩, .bool false, .int .i64 0]) 4 48 Tryd.underlying24 HIN.out.1 HIN.out.2.1 HIN.out.2.2.1 HIN.out.2.2.2 rfl (.slice a l.length c) l.length (flatN l) rfl HDwE7.out.2.2.2.2.1.1 (.slice (some ⟨g7, 0, none⟩) 1 1) rfl 1 (ndC ⟨pr, tw⟩) (Src.ofSlice _ Tryd.underlying24 ⟨g7, 0, none⟩ 1 1 _ rfl (bx_news HX8.out) ndC_one) (by unfold maxLen; omega) (by omega) (by have h := HDwE7.out.2.2.2.1.lt; omega) ?_
              intro v8 wE8 ho8 hgr8 hat8
              obtain ⟨l9, HL9⟩ : ∃ l9 : List MNode, Hid (l9 = l ++ [(⟨pr, tw⟩ : MNode)]) := ⟨_, Hid.mk rfl⟩
              have ho9 : wE8.ownsRow (w.heap.size + 1) 36 4 v8 l9.length (flatN l9) := own_congr ho8 (by rw [HL9.out]; simp) (by rw [HL9.out, flatN_app]; simp [flatN])
              have HS8 : Hid (∀ y, y ∈ l9 → ShN y) := fun y hy => (List.mem_append.1 (HL9.out ▸ hy)).elim (HDwE7.out.2.2.2.2.1.2.1 y) (fun h => by rw [List.mem_singleton.1 h]; exact ⟨hp1, hp2, htw⟩)
              obtain ⟨a8, c8, rfl, _⟩ := ownN_leaf ho9 (fun y hy => (HS8.out y hy).ok)
              have HN8 := Hid.mk (InAny.append HDwE7.out hgl hbm hgr8 hat8 ho9 HS8.out (show l9.length ≤ QQ + 1 by rw [HL9.out]; simp; omega))
              obtain ⟨u8, hu8⟩ := HN8.out.2.2.1
              have q1 := hu8.cell 0 _ rfl
              have qf := hu8.free 0
              have ql := hu8.lt
              clear ho8 ho9 hgr8 hat8
              refine hK.out _ _ (trivial) (fun hHeld => ?_)
              clear hK K
              try simp only [Act.put, sa, s0, s1]
              refine tk 9 qe38_26_4_9 (some 22) (v := ?v19) rfl rfl (by kernel_rfl) hHeld (by rfl) (fun _ _ _ x => x) (fun w h => ?y19) ?_; (case y19 => (try dsimp only at h); go_simp; try (with_reducible rfl)); try simp only [Act.put, sa, s0, s1]
              refine wpAnyH_ready (rs := [10]) (by kernel_rfl) (by simp) ?_
              refine (AllReadyH.cons (o := qe38_26_4_10) rfl (fun K hK => ?_) AllReadyH.nil)
              · go_simp
                obtain ⟨wE10, hq10⟩ : ∃ q, q = wE8.setCell ⟨bm, 0, none⟩ (.slice a8 l9.length c8) := ⟨_, rfl⟩
                have HN : Hid (InAny w g bm (.slice a8 l9.length c8) l9 (QQ + 1) wE10) := by rw [hq10]; exact InAny.put HN8.out hgl hbm
                clear q1 qf ql
                rw [← hq10]
                clear hq10
                refine hK.out _ _ (trivial) (fun hHeld => ?_)
                clear hK K
                try simp only [Act.put, sa, s0, s1]
                refine wpAnyH_done (by kernel_rfl) ?_ _
                have k0 := HN.out.2.2.2.1.cell 0 _ rfl
                have k1 := HN.out.2.2.1.cell 0 _ rfl
                have k2 := HN.out.2.2.1.free 0
                have k3 := HN.out.2.2.1.lt
                have k4 := HN.out.2.2.2.1.lt
                go_wp2_with fail
                exact bodyPost_ret (v := .agg #[.slice a8 l9.length c8]) (by simp [results, Tryd.results26, go_sem, *]) rfl (HN.out.done hgl)
    · go_simp
      refine Calls.mono (l4PairAny_ok HDwS.out.1) ?_
      rintro e wE3 ⟨pr, ⟨rfl, hp1, hp2⟩, hc5, hg5⟩
      have HDwE3 := Hid.mk (HDwS.out.step hgl hbm hc5 hg5)
      clear hc5 hg5
      go_wp2_with fail
      refine hK.out _ _ (trivial) (fun hHeld => ?_)
      clear hK K
      try simp only [Act.put, sa, s0, s1]
      refine wpAnyH_ready (rs := [1, 5]) (by kernel_rfl) (by simp) ?_
      refine (AllReadyH.cons (o := qe38_26_4_1) rfl (fun K hK => ?_) (AllReadyH.cons (o := qe38_26_4_5) rfl (fun K hK => ?_) AllReadyH.nil))
      · skip
        have yq := HDwE3.out.2.2.2.1.cell 0 _ rfl
        go_simp
        obtain ⟨wE1, hq1⟩ : ∃ q, q = wE3 := ⟨_, rfl⟩
        have HDwE1 : Hid (InAny w g bm (.slice a l.length c) l QQ wE1) := by rw [hq1]; exact HDwE3
        have hop1 : Below wE3.heap.size wE3 wE1 := by rw [hq1]; exact Below.refl _ _
        rw [← hq1]
        clear hq1 yq
        refine hK.out _ _ (trivial) (fun hHeld => ?_)
        clear hK K
        try simp only [Act.put, sa, s0, s1]
        refine wpAnyH_ready (rs := [5]) (by kernel_rfl) (by simp) ?_
        refine (AllReadyH.cons (o := qe38_26_4_5) rfl (fun K hK => ?_) AllReadyH.nil)
        · go_simp
          refine Calls.mono (l1Below_ok 6 HDwE1.out.1) ?_
          rintro e wE5 ⟨tw, rfl, ht, hc6, hg6⟩
          have HDwE5 := Hid.mk (HDwE1.out.step hgl hbm hc6 hg6)
          have htw : (Lit.int .i64 tw).wf = true := (wf_six ht.1 (ht.2.2.1 (by omega)))
          clear hc6 hg6 ht
          go_wp2_with fail
          refine hK.out _ _ (trivial) (fun hHeld => ?_)
          clear hK K
          try simp only [Act.put, sa, s0, s1]
          refine tk 6 qe38_26_4_6 (some 19) (v := ?v20) rfl rfl (by kernel_rfl) hHeld (by rfl) (fun _ _ _ x => x) (fun w h => ?y20) ?_; (case y20 => (try dsimp only at h); go_simp; try (with_reducible rfl)); try simp only [Act.put, sa, s0, s1]
          refine wpAnyH_ready (rs := [7]) (by kernel_rfl) (by simp) ?_
          refine (AllReadyH.cons (o := qe38_26_4_7) rfl (fun K hK => ?_) AllReadyH.nil)
          · go_simp
            obtain ⟨wE7, hq7⟩ : ∃ q, q = wE5.alloc (.cells #[.string pr.fKey, .string pr.fVal, .bool pr.fGone, .int .i64 tw] 36) := ⟨_, rfl⟩
            have hop7 : Below wE5.heap.size wE5 wE7 := by rw [hq7]; exact (Below.refl _ _).alloc (Nat.le_refl _) _
            have HDwE7 := Hid.mk (HDwE5.out.below hop7)
            obtain ⟨g7, HG7⟩ : ∃ z, Hid (z = wE5.heap.size) := ⟨_, Hid.mk rfl⟩
            have HB7 : Hid (Bx wE7 g7 (ndC ⟨pr, tw⟩)) := by unfold Hid; rw [HG7.out, hq7]; exact Bx.new _ _ _
            have hgb7 : bm < g7 := by rw [HG7.out]; exact HDwE5.out.2.2.2.1.lt
            rw [← HG7.out]
            rw [← hq7]
            clear hq7
            refine hK.out _ _ (trivial) (fun hHeld => ?_)
            clear hK K
            try simp only [Act.put, sa, s0, s1]
            refine wpAnyH_ready (rs := [8]) (by kernel_rfl) (by simp) ?_
            refine (AllReadyH.cons (o := qe38_26_4_8) rfl (fun K hK => ?_) AllReadyH.nil)
            · skip
              have HX8 : Hid (Bx wE7 g7 (ndC ⟨pr, tw⟩)) := Bx.under HB7.out (show Below wE7.heap.size wE7 wE7 from Below.refl _ _)
              refine step_append_src wE7 rfl _ _ 24 24 rfl (w.heap.size + 1) 36 iN (.agg #[.string ⟨#[]⟩, .string ⟨#[]⟩, .bool false, .int .i64 0]) 4 48 Tryd.underlying24 HIN.out.1 HIN.out.2.1 HIN.out.2.2.1 HIN.out.2.2.2 rfl (.slice a l.length c) l.length (flatN l) rfl HDwE7.out.2.2.2.2.1.1 (.slice (some ⟨g7, 0, none⟩) 1 1) rfl 1 (ndC ⟨pr, tw⟩) (Src.ofSlice _ Tryd.underlying24 ⟨g7, 0, none⟩ 1 1 _ rfl (bx_news HX8.out) ndC_one) (by unfold maxLen; omega) (by omega) (by have h := HDwE7.out.2.2.2.1.lt; omega) ?_
              intro v8 wE8 ho8 hgr8 hat8
              obtain ⟨l9, HL9⟩ : ∃ l9 : List MNode, Hid (l9 = l ++ [(⟨pr, tw⟩ : MNode)]) := ⟨_, Hid.mk rfl⟩
              have ho9 : wE8.ownsRow (w.heap.size + 1) 36 4 v8 l9.length (flatN l9) := own_congr ho8 (by rw [HL9.out]; simp) (by rw [HL9.out, flatN_app]; simp [flatN])
              have HS8 : Hid (∀ y, y ∈ l9 → ShN y) := fun y hy => (List.mem_append.1 (HL9.out ▸ hy)).elim (HDwE7.out.2.2.2.2.1.2.1 y) (fun h => by rw [List.mem_singleton.1 h]; exact ⟨hp1, hp2, htw⟩)
              obtain ⟨a8, c8, rfl, _⟩ := ownN_leaf ho9 (fun y hy => (HS8.out y hy).ok)
              have HN8 := Hid.mk (InAny.append HDwE7.out hgl hbm hgr8 hat8 ho9 HS8.out (show l9.length ≤ QQ + 1 by rw [HL9.out]; simp; omega))
              obtain ⟨u8, hu8⟩ := HN8.out.2.2.1
              have q1 := hu8.cell 0 _ rfl
              have qf := hu8.free 0
              have ql := hu8.lt
              clear ho8 ho9 hgr8 hat8
              refine hK.out _ _ (trivial) (fun hHeld => ?_)
              clear hK K
              try simp only [Act.put, sa, s0, s1]
              refine tk 9 qe38_26_4_9 (some 22) (v := ?v21) rfl rfl (by kernel_rfl) hHeld (by rfl) (fun _ _ _ x => x) (fun w h => ?y21) ?_; (case y21 => (try dsimp only at h); go_simp; try (with_reducible rfl)); try simp only [Act.put, sa, s0, s1]
              refine wpAnyH_ready (rs := [10]) (by kernel_rfl) (by simp) ?_
              refine (AllReadyH.cons (o := qe38_26_4_10) rfl (fun K hK => ?_) AllReadyH.nil)
              · go_simp
                obtain ⟨wE10, hq10⟩ : ∃ q, q = wE8.setCell ⟨bm, 0, none⟩ (.slice a8 l9.length c8) := ⟨_, rfl⟩
                have HN : Hid (InAny w g bm (.slice a8 l9.length c8) l9 (QQ + 1) wE10) := by rw [hq10]; exact InAny.put HN8.out hgl hbm
                clear q1 qf ql
                rw [← hq10]
                clear hq10
                refine hK.out _ _ (trivial) (fun hHeld => ?_)
                clear hK K
                try simp only [Act.put, sa, s0, s1]
                refine wpAnyH_done (by kernel_rfl) ?_ _
                have k0 := HN.out.2.2.2.1.cell 0 _ rfl
                have k1 := HN.out.2.2.1.cell 0 _ rfl
                have k2 := HN.out.2.2.1.free 0
                have k3 := HN.out.2.2.1.lt
                have k4 := HN.out.2.2.2.1.lt
                go_wp2_with fail
                exact bodyPost_ret (v := .agg #[.slice a8 l9.length c8]) (by simp [results, Tryd.results26, go_sem, *]) rfl (HN.out.done hgl)
      · go_simp
        refine Calls.mono (l1Below_ok 6 HDwE3.out.1) ?_
        rintro e wE5 ⟨tw, rfl, ht, hc6, hg6⟩
        have HDwE5 := Hid.mk (HDwE3.out.step hgl hbm hc6 hg6)
        have htw : (Lit.int .i64 tw).wf = true := (wf_six ht.1 (ht.2.2.1 (by omega)))
        clear hc6 hg6 ht
        go_wp2_with fail
        refine hK.out _ _ (trivial) (fun hHeld => ?_)
        clear hK K
        try simp only [Act.put, sa, s0, s1]
        refine tk 6 qe38_26_4_6 (some 19) (v := ?v22) rfl rfl (by kernel_rfl) hHeld (by rfl) (fun _ _ _ x => x) (fun w h => ?y22) ?_; (case y22 => (try dsimp only at h); go_simp; try (with_reducible rfl)); try simp only [Act.put, sa, s0, s1]
        refine wpAnyH_ready (rs := [1, 7]) (by kernel_rfl) (by simp) ?_
        refine (AllReadyH.cons (o := qe38_26_4_1) rfl (fun K hK => ?_) (AllReadyH.cons (o := qe38_26_4_7) rfl (fun K hK => ?_) AllReadyH.nil))
        · skip
          have yq := HDwE5.out.2.2.2.1.cell 0 _ rfl
          go_simp
          obtain ⟨wE1, hq1⟩ : ∃ q, q = wE5 := ⟨_, rfl⟩
          have HDwE1 : Hid (InAny w g bm (.slice a l.length c) l QQ wE1) := by rw [hq1]; exact HDwE5
          have hop1 : Below wE5.heap.size wE5 wE1 := by rw [hq1]; exact Below.refl _ _
          rw [← hq1]
          clear hq1 yq
          refine hK.out _ _ (trivial) (fun hHeld => ?_)
          clear hK K
          try simp only [Act.put, sa, s0, s1]
          refine wpAnyH_ready (rs := [7]) (by kernel_rfl) (by simp) ?_
          refine (AllReadyH.cons (o := qe38_26_4_7) rfl (fun K hK => ?_) AllReadyH.nil)
          · go_simp
            obtain ⟨wE7, hq7⟩ : ∃ q, q = wE1.alloc (.cells #[.string pr.fKey, .string pr.fVal, .bool pr.fGone, .int .i64 tw] 36) := ⟨_, rfl⟩
            have hop7 : Below wE1.heap.size wE1 wE7 := by rw [hq7]; exact (Below.refl _ _).alloc (Nat.le_refl _) _
            have HDwE7 := Hid.mk (HDwE1.out.below hop7)
            obtain ⟨g7, HG7⟩ : ∃ z, Hid (z = wE1.heap.size) := ⟨_, Hid.mk rfl⟩
            have HB7 : Hid (Bx wE7 g7 (ndC ⟨pr, tw⟩)) := by unfold Hid; rw [HG7.out, hq7]; exact Bx.new _ _ _
            have hgb7 : bm < g7 := by rw [HG7.out]; exact HDwE1.out.2.2.2.1.lt
            rw [← HG7.out]
            rw [← hq7]
            clear hq7
            refine hK.out _ _ (trivial) (fun hHeld => ?_)
            clear hK K
            try simp only [Act.put, sa, s0, s1]
            refine wpAnyH_ready (rs := [8]) (by kernel_rfl) (by simp) ?_
            refine (AllReadyH.cons (o := qe38_26_4_8) rfl (fun K hK => ?_) AllReadyH.nil)
            · skip
              have HX8 : Hid (Bx wE7 g7 (ndC ⟨pr, tw⟩)) := Bx.under HB7.out (show Below wE7.heap.size wE7 wE7 from Below.refl _ _)
              refine step_append_src wE7 rfl _ _ 24 24 rfl (w.heap.size + 1) 36 iN (.agg #[.string ⟨#[]⟩, .string ⟨#[]⟩, .bool false, .int .i64 0]) 4 48 Tryd.underlying24 HIN.out.1 HIN.out.2.1 HIN.out.2.2.1 HIN.out.2.2.2 rfl (.slice a l.length c) l.length (flatN l) rfl HDwE7.out.2.2.2.2.1.1 (.slice (some ⟨g7, 0, none⟩) 1 1) rfl 1 (ndC ⟨pr, tw⟩) (Src.ofSlice _ Tryd.underlying24 ⟨g7, 0, none⟩ 1 1 _ rfl (bx_news HX8.out) ndC_one) (by unfold maxLen; omega) (by omega) (by have h := HDwE7.out.2.2.2.1.lt; omega) ?_
              intro v8 wE8 ho8 hgr8 hat8
              obtain ⟨l9, HL9⟩ : ∃ l9 : List MNode, Hid (l9 = l ++ [(⟨pr, tw⟩ : MNode)]) := ⟨_, Hid.mk rfl⟩
              have ho9 : wE8.ownsRow (w.heap.size + 1) 36 4 v8 l9.length (flatN l9) := own_congr ho8 (by rw [HL9.out]; simp) (by rw [HL9.out, flatN_app]; simp [flatN])
              have HS8 : Hid (∀ y, y ∈ l9 → ShN y) := fun y hy => (List.mem_append.1 (HL9.out ▸ hy)).elim (HDwE7.out.2.2.2.2.1.2.1 y) (fun h => by rw [List.mem_singleton.1 h]; exact ⟨hp1, hp2, htw⟩)
              obtain ⟨a8, c8, rfl, _⟩ := ownN_leaf ho9 (fun y hy => (HS8.out y hy).ok)
              have HN8 := Hid.mk (InAny.append HDwE7.out hgl hbm hgr8 hat8 ho9 HS8.out (show l9.length ≤ QQ + 1 by rw [HL9.out]; simp; omega))
              obtain ⟨u8, hu8⟩ := HN8.out.2.2.1
              have q1 := hu8.cell 0 _ rfl
              have qf := hu8.free 0
              have ql := hu8.lt
              clear ho8 ho9 hgr8 hat8
              refine hK.out _ _ (trivial) (fun hHeld => ?_)
              clear hK K
              try simp only [Act.put, sa, s0, s1]
              refine tk 9 qe38_26_4_9 (some 22) (v := ?v23) rfl rfl (by kernel_rfl) hHeld (by rfl) (fun _ _ _ x => x) (fun w h => ?y23) ?_; (case y23 => (try dsimp only at h); go_simp; try (with_reducible rfl)); try simp only [Act.put, sa, s0, s1]
              refine wpAnyH_ready (rs := [10]) (by kernel_rfl) (by simp) ?_
              refine (AllReadyH.cons (o := qe38_26_4_10) rfl (fun K hK => ?_) AllReadyH.nil)
              · go_simp
                obtain ⟨wE10, hq10⟩ : ∃ q, q = wE8.setCell ⟨bm, 0, none⟩ (.slice a8 l9.length c8) := ⟨_, rfl⟩
                have HN : Hid (InAny w g bm (.slice a8 l9.length c8) l9 (QQ + 1) wE10) := by rw [hq10]; exact InAny.put HN8.out hgl hbm
                clear q1 qf ql
                rw [← hq10]
                clear hq10
                refine hK.out _ _ (trivial) (fun hHeld => ?_)
                clear hK K
                try simp only [Act.put, sa, s0, s1]
                refine wpAnyH_done (by kernel_rfl) ?_ _
                have k0 := HN.out.2.2.2.1.cell 0 _ rfl
                have k1 := HN.out.2.2.1.cell 0 _ rfl
                have k2 := HN.out.2.2.1.free 0
                have k3 := HN.out.2.2.1.lt
                have k4 := HN.out.2.2.2.1.lt
                go_wp2_with fail
                exact bodyPost_ret (v := .agg #[.slice a8 l9.length c8]) (by simp [results, Tryd.results26, go_sem, *]) rfl (HN.out.done hgl)
        · go_simp
          obtain ⟨wE7, hq7⟩ : ∃ q, q = wE5.alloc (.cells #[.string pr.fKey, .string pr.fVal, .bool pr.fGone, .int .i64 tw] 36) := ⟨_, rfl⟩
          have hop7 : Below wE5.heap.size wE5 wE7 := by rw [hq7]; exact (Below.refl _ _).alloc (Nat.le_refl _) _
          have HDwE7 := Hid.mk (HDwE5.out.below hop7)
          obtain ⟨g7, HG7⟩ : ∃ z, Hid (z = wE5.heap.size) := ⟨_, Hid.mk rfl⟩
          have HB7 : Hid (Bx wE7 g7 (ndC ⟨pr, tw⟩)) := by unfold Hid; rw [HG7.out, hq7]; exact Bx.new _ _ _
          have hgb7 : bm < g7 := by rw [HG7.out]; exact HDwE5.out.2.2.2.1.lt
          rw [← HG7.out]
          rw [← hq7]
          clear hq7
          refine hK.out _ _ (trivial) (fun hHeld => ?_)
          clear hK K
          try simp only [Act.put, sa, s0, s1]
          refine wpAnyH_ready (rs := [1]) (by kernel_rfl) (by simp) ?_
          refine (AllReadyH.cons (o := qe38_26_4_1) rfl (fun K hK => ?_) AllReadyH.nil)
          · skip
            have yq := HDwE7.out.2.2.2.1.cell 0 _ rfl
            go_simp
            obtain ⟨wE1, hq1⟩ : ∃ q, q = wE7 := ⟨_, rfl⟩
            have HDwE1 : Hid (InAny w g bm (.slice a l.length c) l QQ wE1) := by rw [hq1]; exact HDwE7
            have hop1 : Below wE7.heap.size wE7 wE1 := by rw [hq1]; exact Below.refl _ _
            rw [← hq1]
            clear hq1 yq
            refine hK.out _ _ (trivial) (fun hHeld => ?_)
            clear hK K
            try simp only [Act.put, sa, s0, s1]
            refine wpAnyH_ready (rs := [8]) (by kernel_rfl) (by simp) ?_
            refine (AllReadyH.cons (o := qe38_26_4_8) rfl (fun K hK => ?_) AllReadyH.nil)
            · skip
              have HX8 : Hid (Bx wE1 g7 (ndC ⟨pr, tw⟩)) := Bx.under HB7.out (show Below wE7.heap.size wE7 wE1 from bthen (Below.refl _ _) hop1)
              refine step_append_src wE1 rfl _ _ 24 24 rfl (w.heap.size + 1) 36 iN (.agg #[.string ⟨#[]⟩, .string ⟨#[]⟩, .bool false, .int .i64 0]) 4 48 Tryd.underlying24 HIN.out.1 HIN.out.2.1 HIN.out.2.2.1 HIN.out.2.2.2 rfl (.slice a l.length c) l.length (flatN l) rfl HDwE1.out.2.2.2.2.1.1 (.slice (some ⟨g7, 0, none⟩) 1 1) rfl 1 (ndC ⟨pr, tw⟩) (Src.ofSlice _ Tryd.underlying24 ⟨g7, 0, none⟩ 1 1 _ rfl (bx_news HX8.out) ndC_one) (by unfold maxLen; omega) (by omega) (by have h := HDwE1.out.2.2.2.1.lt; omega) ?_
              intro v8 wE8 ho8 hgr8 hat8
              obtain ⟨l9, HL9⟩ : ∃ l9 : List MNode, Hid (l9 = l ++ [(⟨pr, tw⟩ : MNode)]) := ⟨_, Hid.mk rfl⟩
              have ho9 : wE8.ownsRow (w.heap.size + 1) 36 4 v8 l9.length (flatN l9) := own_congr ho8 (by rw [HL9.out]; simp) (by rw [HL9.out, flatN_app]; simp [flatN])
              have HS8 : Hid (∀ y, y ∈ l9 → ShN y) := fun y hy => (List.mem_append.1 (HL9.out ▸ hy)).elim (HDwE1.out.2.2.2.2.1.2.1 y) (fun h => by rw [List.mem_singleton.1 h]; exact ⟨hp1, hp2, htw⟩)
              obtain ⟨a8, c8, rfl, _⟩ := ownN_leaf ho9 (fun y hy => (HS8.out y hy).ok)
              have HN8 := Hid.mk (InAny.append HDwE1.out hgl hbm hgr8 hat8 ho9 HS8.out (show l9.length ≤ QQ + 1 by rw [HL9.out]; simp; omega))
              obtain ⟨u8, hu8⟩ := HN8.out.2.2.1
              have q1 := hu8.cell 0 _ rfl
              have qf := hu8.free 0
              have ql := hu8.lt
              clear ho8 ho9 hgr8 hat8
              refine hK.out _ _ (trivial) (fun hHeld => ?_)
              clear hK K
              try simp only [Act.put, sa, s0, s1]
              refine tk 9 qe38_26_4_9 (some 22) (v := ?v24) rfl rfl (by kernel_rfl) hHeld (by rfl) (fun _ _ _ x => x) (fun w h => ?y24) ?_; (case y24 => (try dsimp only at h); go_simp; try (with_reducible rfl)); try simp only [Act.put, sa, s0, s1]
              refine wpAnyH_ready (rs := [10]) (by kernel_rfl) (by simp) ?_
              refine (AllReadyH.cons (o := qe38_26_4_10) rfl (fun K hK => ?_) AllReadyH.nil)
              · go_simp
                obtain ⟨wE10, hq10⟩ : ∃ q, q = wE8.setCell ⟨bm, 0, none⟩ (.slice a8 l9.length c8) := ⟨_, rfl⟩
                have HN : Hid (InAny w g bm (.slice a8 l9.length c8) l9 (QQ + 1) wE10) := by rw [hq10]; exact InAny.put HN8.out hgl hbm
                clear q1 qf ql
                rw [← hq10]
                clear hq10
                refine hK.out _ _ (trivial) (fun hHeld => ?_)
                clear hK K
                try simp only [Act.put, sa, s0, s1]
                refine wpAnyH_done (by kernel_rfl) ?_ _
                have k0 := HN.out.2.2.2.1.cell 0 _ rfl
                have k1 := HN.out.2.2.1.cell 0 _ rfl
                have k2 := HN.out.2.2.1.free 0
                have k3 := HN.out.2.2.1.lt
                have k4 := HN.out.2.2.2.1.lt
                go_wp2_with fail
                exact bodyPost_ret (v := .agg #[.slice a8 l9.length c8]) (by simp [results, Tryd.results26, go_sem, *]) rfl (HN.out.done hgl)
  · have k0 := HD3.out.2.2.2.1.cell 0 _ rfl
    have k1 := HD3.out.2.2.1.cell 0 _ rfl
    have k2 := HD3.out.2.2.1.free 0
    have k3 := HD3.out.2.2.1.lt
    have k4 := HD3.out.2.2.2.1.lt
    go_wp2_with fail
    exact bodyPost_ret (v := .agg #[.slice a l.length c]) (by simp [results, Tryd.results26, go_sem, *]) rfl ((HD3.out.more (by omega : (QQ : Nat) ≤ QQ + 1)).done hgl)

end Go.Proofs.YtadadkookbkkoaaDoor
