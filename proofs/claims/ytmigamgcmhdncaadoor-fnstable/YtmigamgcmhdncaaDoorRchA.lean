/-
  What is reached from each place of a graph, and which are whole: the specification's way.
-/
import Derived.Test.YtmigamgcmhdncaaDoorRchS
namespace Go.Proofs.YtmigamgcmhdncaaDoor
open Go.RowKit
set_option linter.unusedVariables false
set_option linter.unusedSimpArgs false
set_option maxRecDepth 10000

theorem Tryd.infoOfBools : (Tryd.prog.info? 58).map (fun i => (i.zero, i.size, i.bytes)) = some (some (.slice none 0 0), 1, 24) := by kernel_rfl
theorem own_lit0' (w : World) (base e size : Nat) (h : base ≤ w.heap.size) : (w.alloc (.cells #[] e)).ownsRow base e size (.slice (some ⟨w.heap.size, 0, none⟩) 0 0) 0 [] :=
  ⟨by simp, .inr ⟨w.heap.size, 0, #[], rfl, h, (show (w.heap.push _)[w.heap.size]? = _ from Array.getElem?_push_size), by omega, by simp [maxLen], by simp, by simp⟩⟩
def rowC (n : Nat) (gs : List Nat) : List Value := gs.map (fun (g : Nat) => Value.slice (some ⟨g, 0, none⟩) n n)
/-- Rows of flags: one a place, of what is reached from it; and which are whole. -/
structure AllSt (l : List MItem) (B : Nat) (w2 : World) (n k : Nat) (gs : List Nat) (bss : List (List Bool)) (ws : List Bool) (vr vw : Value) (W : World) : Prop where
  glen : gs.length = k
  blen : bss.length = k
  wlen : ws.length = k
  rrow : W.ownsRow B 58 1 vr k (rowC n gs)
  wrow : W.ownsRow B 4 1 vw k (boolC ws)
  dis : ∀ b, vr.ownBlock = some b → vw.ownBlock ≠ some b
  each : ∀ j, (hj : j < gs.length) → (hb : j < bss.length) → Bw W gs[j] 4 (boolC bss[j]) ∧ vr.ownBlock ≠ some gs[j] ∧ vw.ownBlock ≠ some gs[j] ∧ B ≤ gs[j] ∧ bss[j].length = n ∧ ∀ x, bss[j].getD x false = true ↔ Reach l j x
  who : ∀ j, j < k → (ws.getD j false = true ↔ wholeAt l j)
  low : Below B w2 W
  base : B ≤ w2.heap.size

theorem AllSt.under {l : List MItem} {B : Nat} {w2 W W' : World} {n k : Nat} {gs : List Nat} {bss : List (List Bool)} {ws : List Bool} {vr vw : Value} (h : AllSt l B w2 n k gs bss ws vr vw W) (hb : Below W.heap.size W W') : AllSt l B w2 n k gs bss ws vr vw W' :=
  ⟨h.glen, h.blen, h.wlen, own_below h.rrow hb, own_below h.wrow hb, h.dis, fun j hj hb' => by
    obtain ⟨h1, h2⟩ := h.each j hj hb'
    exact ⟨h1.under hb, h2⟩, h.who, h.low.trans (hb.mono (Nat.le_trans h.base h.low.size)), h.base⟩

/-- Both rows longer by one. -/
theorem AllSt.push {l : List MItem} {B : Nat} {w2 W W1 W2 W3 : World} {n k : Nat} {gs : List Nat} {bss : List (List Bool)} {ws : List Bool} {vr vw vr' vw' : Value} (h : AllSt l B w2 n k gs bss ws vr vw W) {g : Nat} {bs : List Bool} {b : Bool}
    (hg : Bw W g 4 (boolC bs)) (hgv : vr.ownBlock ≠ some g) (hgw : vw.ownBlock ≠ some g) (hgB : B ≤ g) (hbl : bs.length = n) (hbs : ∀ x, bs.getD x false = true ↔ Reach l k x) (hb : b = true ↔ wholeAt l k)
    (hr : W1.ownsRow B 58 1 vr' (k + 1) (rowC n gs ++ [.slice (some ⟨g, 0, none⟩) n n])) (hg1 : W.grownBy W1 vr.ownBlock) (hat : vr'.ownBlock = vr.ownBlock ∨ vr'.ownBlock = some W.heap.size) (hb12 : Below W1.heap.size W1 W2)
    (hw : W3.ownsRow B 4 1 vw' (k + 1) (boolC ws ++ [.bool b])) (hg3 : W2.grownBy W3 vw.ownBlock) (hat3 : vw'.ownBlock = vw.ownBlock ∨ vw'.ownBlock = some W2.heap.size) : AllSt l B w2 n (k + 1) (gs ++ [g]) (bss ++ [bs]) (ws ++ [b]) vr' vw' W3 := by
  have hBW : B ≤ W.heap.size := Nat.le_trans h.base h.low.size
  have hW1 : W.heap.size ≤ W1.heap.size := hg1.size
  have hW2 : W1.heap.size ≤ W2.heap.size := hb12.size
  have hW3 : W2.heap.size ≤ W3.heap.size := hg3.size
  have keep : ∀ x, x < W.heap.size → vr.ownBlock ≠ some x → vw.ownBlock ≠ some x → W3.heap[x]? = W.heap[x]? := fun x hx h1 h2 => by
    rw [hg3.block x (by omega) (fun e => h2 e.symm), hb12.block x (by omega), hg1.block x hx (fun e => h1 e.symm)]
  have hwl : ∀ x, vw.ownBlock = some x → x < W.heap.size := fun x hx => (h.wrow.lt x hx).2
  have hrl : ∀ x, vr.ownBlock = some x → x < W.heap.size := fun x hx => (h.rrow.lt x hx).2
  have hdis : ∀ x, vr'.ownBlock = some x → vw.ownBlock ≠ some x := fun x hx hy => by
    rcases hat with e | e
    · exact h.dis x (e ▸ hx) hy
    · have := hwl x hy
      rw [hx] at e
      simp at e
      omega
  have hrb : ∀ x, vr'.ownBlock = some x → x < W1.heap.size := fun x hx => (hr.lt x hx).2
  refine ⟨by simp [h.glen], by simp [h.blen], by simp [h.wlen], ?_, ?_, ?_, ?_, ?_, ?_, h.base⟩
  · have e1 : rowC n (gs ++ [g]) = rowC n gs ++ [.slice (some ⟨g, 0, none⟩) n n] := by unfold rowC; simp
    rw [e1]
    exact own_of_block hr (fun x hx => by rw [hg3.block x (by have := hrb x hx; omega) (fun e => hdis x hx e.symm), hb12.block x (hrb x hx)])
  · have e1 : boolC (ws ++ [b]) = boolC ws ++ [.bool b] := by unfold boolC; simp
    rw [e1]
    exact hw
  · intro x hx hy
    rcases hat3 with e | e
    · exact hdis x hx (e ▸ hy)
    · have := hrb x hx
      rw [hy] at e
      simp at e
      omega
  · intro j hj hjb
    have hnew : ∀ x, x < W.heap.size → vr.ownBlock ≠ some x → vw.ownBlock ≠ some x → vr'.ownBlock ≠ some x ∧ vw'.ownBlock ≠ some x := fun x hx h1 h2 => by
      refine ⟨fun e => ?_, fun e => ?_⟩
      · rcases hat with f | f
        · exact h1 (f ▸ e)
        · rw [e] at f; simp at f; omega
      · rcases hat3 with f | f
        · exact h2 (f ▸ e)
        · rw [e] at f; simp at f; omega
    by_cases hjk : j < k
    · have hj1 : j < gs.length := by rw [h.glen]; exact hjk
      have hj2 : j < bss.length := by rw [h.blen]; exact hjk
      rw [List.getElem_append_left hj1, List.getElem_append_left hj2]
      obtain ⟨h1, h2, h3, h4, h5, h6⟩ := h.each j hj1 hj2
      have hn := hnew gs[j] h1.lt h2 h3
      exact ⟨(keep gs[j] h1.lt h2 h3).trans h1, hn.1, hn.2, h4, h5, h6⟩
    · have hje : j = k := by simp [h.glen] at hj; omega
      have e1 : (gs ++ [g])[j] = g := by rw [List.getElem_append_right (by rw [h.glen]; omega)]; simp
      have e2 : (bss ++ [bs])[j] = bs := by rw [List.getElem_append_right (by rw [h.blen]; omega)]; simp
      rw [e1, e2]
      have hn := hnew g hg.lt hgv hgw
      subst hje
      exact ⟨(keep g hg.lt hgv hgw).trans hg, hn.1, hn.2, hgB, hbl, hbs⟩
  · intro j hj
    rw [List.getD_eq_getElem?_getD]
    by_cases hjk : j < k
    · rw [List.getElem?_append_left (by rw [h.wlen]; exact hjk), ← List.getD_eq_getElem?_getD]
      exact h.who j hjk
    · have hje : j = k := by omega
      subst hje
      rw [List.getElem?_append_right (by rw [h.wlen]; omega), h.wlen, Nat.sub_self]
      simpa using hb
  · exact ((h.low.grown hg1 hBW (fun x hx => (h.rrow.lt x hx).1)).trans (hb12.mono (by omega))).grown hg3 (by omega) (fun x hx => (h.wrow.lt x hx).1)

set_option maxHeartbeats 4000000 in
theorem l8All_any (cs : List Value) (m : MGraph) (w : World) (hr : rGraph w.heap.size w cs m) (hg : graphP m = true) :
    Calls Tryd.prog 35 #[.agg cs.toArray] w fun e w' => ∃ (gs : List Nat) (bss : List (List Bool)) (ws : List Bool) (vr vw : Value), e = .returned (.tuple #[vr, vw]) ∧ AllSt m.fItems w.heap.size w m.fItems.length m.fItems.length gs bss ws vr vw w' := by
  obtain ⟨iB, hiB, hzB0, hzB1, hzB2⟩ := info_parts Tryd.infoOfBool
  obtain ⟨iR, hiR, hzR0, hzR1, hzR2⟩ := info_parts Tryd.infoOfBools
  have HRG := Hid.mk hr
  have HGO := Hid.mk hg
  have hn : m.fItems.length ≤ 100 := by
    have h' : (decide (m.fItems.length ≤ 100) && upOk itemP itemLt m.fItems) = true := hg
    rw [Bool.and_eq_true] at h'
    exact of_decide_eq_true h'.1
  obtain ⟨a, cap, rfl, hL, _⟩ := hr
  obtain ⟨n, hx⟩ : ∃ n, n = m.fItems.length := ⟨_, rfl⟩
  rw [← hx] at hn HRG ⊢
  have HX := Hid.mk hx
  clear hL hx hg
  go_enter Tryd.func35, Tryd.ntmps35
  go_wp2_with fail
  obtain ⟨w2, hw2⟩ : ∃ x, x = ((w.alloc (.cells #[.slice a n cap] 30)).alloc (.cells #[] 58)).alloc (.cells #[] 4) := ⟨_, rfl⟩
  have hb02 : Below w.heap.size w w2 := by rw [hw2]; exact (((Below.refl _ _).alloc (Nat.le_refl _) _).alloc (by simp) _).alloc (by simp; omega) _
  have hbx2 : Bx w2 w.heap.size [.slice a n cap] := by rw [hw2]; exact ((Bx.new _ _ _).alloc _).alloc _
  have hs2 : w.heap.size + 3 ≤ w2.heap.size := by rw [hw2]; simp
  have ho1 : w2.ownsRow (w.heap.size + 1) 58 1 (.slice (some ⟨w.heap.size + 1, 0, none⟩) 0 0) 0 [] := by
    have h := own_below (own_lit0' (w.alloc (.cells #[.slice a n cap] 30)) (w.heap.size + 1) 58 1 (by simp)) ((Below.refl _ _).alloc (Nat.le_refl _) (.cells #[] 4))
    rw [hw2]
    simpa using h
  have ho2 : w2.ownsRow (w.heap.size + 1) 4 1 (.slice (some ⟨w.heap.size + 1 + 1, 0, none⟩) 0 0) 0 [] := by
    have h := own_lit0' ((w.alloc (.cells #[.slice a n cap] 30)).alloc (.cells #[] 58)) (w.heap.size + 1) 4 1 (by simp)
    rw [hw2]
    simpa using h
  have HS0 : Hid (AllSt m.fItems (w.heap.size + 1) w2 n 0 [] [] [] (.slice (some ⟨w.heap.size + 1, 0, none⟩) 0 0) (.slice (some ⟨w.heap.size + 1 + 1, 0, none⟩) 0 0) w2) :=
    ⟨rfl, rfl, rfl, ho1, ho2, (fun b h1 h2 => by simp [Value.ownBlock] at h1 h2; omega), (fun j hj => by simp at hj), (fun j hj => by omega), Below.refl _ _, by omega⟩
  rw [← hw2]
  clear hw2 ho1 ho2
  go_loopw [4, 5, 6] (fun vr vw iv wr => ∃ (k : Nat) (gs : List Nat) (bss : List (List Bool)) (ws : List Bool), k ≤ n ∧ iv = .int .i64 k ∧ Hid (AllSt m.fItems (w.heap.size + 1) w2 n k gs bss ws vr vw wr)) (fun _ _ iv _ => n - (intOf iv).toNat)
  case atStart => exact ⟨0, [], [], [], Nat.zero_le _, rfl, HS0⟩
  case round =>
    obtain ⟨k, gs, bss, ws, hk, rfl, HS⟩ := hrel
    have hbk := HS.out.low
    have hbw : Below w.heap.size w wr := hb02.trans (hbk.mono (by omega))
    have hzk : w.heap.size + 3 ≤ wr.heap.size := Nat.le_trans hs2 hbk.size
    have hbx := hbx2.below hbk (by omega)
    have v0 := hbx.2 0 _ rfl
    by_cases hlt : k < n
    · go_wp2_with fail
      refine (l8Reach_any [.slice a n cap] m k wr (rGraph_good.mono (rGraph_good.below HRG.out hbw) hbw.size) HGO.out (by rw [← HX.out]; exact hlt)).mono ?_
      rintro e w3 ⟨g, bs, b, rfl, hgb, hgl, hbl, hbs, hb, hx3⟩
      rw [← HX.out] at hbl
      have HQ := Hid.mk (And.intro hbl (And.intro hbs hb))
      have HGB := Hid.mk hgb
      have HS3 := Hid.mk (HS.out.under hx3)
      rw [← HX.out]
      clear hbl hbs hb v0
      obtain ⟨w4, hw4⟩ : ∃ x, x = w3.alloc (.cells #[.slice (some ⟨g, 0, none⟩) n n] 58) := ⟨_, rfl⟩
      have hb34 : Below w3.heap.size w3 w4 := by rw [hw4]; exact (Below.refl _ _).alloc (Nat.le_refl _) _
      have hbx4 : Bx w4 w3.heap.size [.slice (some ⟨g, 0, none⟩) n n] := by rw [hw4]; exact Bx.new _ _ _
      have HS4 := Hid.mk (HS3.out.under hb34)
      have HGB4 := Hid.mk (HGB.out.under hb34)
      have hr4 := HS4.out.rrow
      have hz4 : w.heap.size + 1 ≤ w4.heap.size := by have h1 := hx3.size; have h2 := hb34.size; omega
      have hgr0 : ∀ x, Value.ownBlock _ = some x → x ≠ g := fun x hx he => by have h1 := (HS.out.rrow.lt x hx).2; omega
      have hgw0 : ∀ x, Value.ownBlock _ = some x → x ≠ g := fun x hx he => by have h1 := (HS.out.wrow.lt x hx).2; omega
      have HR0 := Hid.mk hgr0
      have HW0 := Hid.mk hgw0
      clear hgr0 hgw0
      go_wp2_with (first | (at_builtin; rw [← hw4]; refine wpList_append_src_y rfl _ _ 57 57 rfl (w.heap.size + 1) 58 iR (.slice none 0 0) 1 24 Tryd.underlying57 hiR hzR0 hzR1 hzR2 rfl _ _ _ rfl hr4 _ rfl 1 [.slice (some ⟨g, 0, none⟩) n n] (Src.ofSlice w4 Tryd.underlying57 ⟨w3.heap.size, 0, none⟩ 1 1 _ rfl (bx_news hbx4) (by intro u hu; simp at hu; subst hu; rfl)) (by unfold maxLen; omega) (by omega) hz4 ?_; intro v5 w5 ho5 hgr5 hat5; obtain ⟨w6, hw6⟩ : ∃ x, x = w5.alloc (.cells #[.bool b] 4) := ⟨_, rfl⟩; have hb56 : Below w5.heap.size w5 w6 := (by rw [hw6]; exact (Below.refl _ _).alloc (Nat.le_refl _) _); have hbx6 : Bx w6 w5.heap.size [.bool b] := (by rw [hw6]; exact Bx.new _ _ _); have hwr6 : w6.ownsRow (w.heap.size + 1) 4 1 _ k (boolC ws) := (own_below (own_of_block HS4.out.wrow (fun x hx => hgr5.block x (HS4.out.wrow.lt x hx).2 (fun e => HS4.out.dis x e.symm hx))) hb56); have hz6 : w.heap.size + 1 ≤ w6.heap.size := (by have h1 := hgr5.size; have h2 := hb56.size; omega)) | (at_builtin; rw [← hw6]; refine wpList_append_src_y rfl _ _ 58 58 rfl (w.heap.size + 1) 4 iB (.bool false) 1 1 Tryd.underlying58 hiB hzB0 hzB1 hzB2 rfl _ _ _ rfl hwr6 _ rfl 1 [.bool b] (Src.ofSlice w6 Tryd.underlying58 ⟨w5.heap.size, 0, none⟩ 1 1 _ rfl (bx_news hbx6) (by intro u hu; simp at hu; subst hu; rfl)) (by unfold maxLen; omega) (by omega) hz6 ?_; intro v7 w7 ho7 hgr7 hat7))
      have HN := Hid.mk (HS4.out.push HGB4.out (fun e => HR0.out g e rfl) (fun e => HW0.out g e rfl) (by omega) HQ.out.1 HQ.out.2.1 HQ.out.2.2 ho5 hgr5 hat5 hb56 ho7 hgr7 hat7)
      exact ⟨⟨k + 1, _, _, _, by omega, by go_num, HN⟩, by simp [intOf]; omega⟩
    · have hkn : n = k := by omega
      have HF : Hid (AllSt m.fItems w.heap.size w n n gs bss ws u4 u5 wr) := by
        subst hkn
        have h := HS.out
        exact ⟨h.glen, h.blen, h.wlen, own_base h.rrow (by omega), own_base h.wrow (by omega), h.dis, fun j hj hb => by
          obtain ⟨h1, h2, h3, h4, h5⟩ := h.each j hj hb
          exact ⟨h1, h2, h3, by omega, h5⟩, h.who, hbw, Nat.le_refl _⟩
      go_wp2_with fail
      refine bodyPost_ret (v := .tuple #[u4, u5]) (by simp [results, Tryd.results35, go_sem]) rfl ⟨gs, bss, ws, _, _, rfl, HF.out⟩

end Go.Proofs.YtmigamgcmhdncaaDoor
