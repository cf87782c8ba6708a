/-
  Whether a group's deps are all done, or of the group: the specification's question.
-/
import Derived.Test.YtmigamgcmhdncaaDoorRegK
import Derived.Test.YtmigamgcmhdncaaDoorOrdM
namespace Go.Proofs.YtmigamgcmhdncaaDoor
open Go.RowKit
set_option linter.unusedVariables false
set_option linter.unusedSimpArgs false
set_option maxRecDepth 10000
abbrev qf4d_47_9_0 : Oper := ⟨some 53, .load 30 (.tmp 4), 30, "l08_graph.go:148", #[], none⟩
abbrev qf4d_47_9_1 : Oper := ⟨some 54, .move (.tmp 10), 26, "l08_graph.go:148", #[], none⟩
abbrev qf4d_47_9_2 : Oper := ⟨some 55, .move (.tmp 11), 3, "l08_graph.go:148", #[], none⟩
abbrev qf4d_47_9_3 : Oper := ⟨some 56, .indexAddr 26 (.tmp 54) (.tmp 55), 0, "l08_graph.go:148", #[⟨1, .data⟩, ⟨2, .data⟩], none⟩
abbrev qf4d_47_9_4 : Oper := ⟨some 57, .load 40 (.tmp 56), 40, "l08_graph.go:148", #[⟨3, .data⟩], none⟩
abbrev qf4d_47_9_5 : Oper := ⟨some 58, .call { callee := .value (.func 44), args := #[.tmp 53, .tmp 57], argTypes := #[30, 40] }, 3, "l08_graph.go:148", #[⟨0, .data⟩, ⟨4, .data⟩], none⟩
abbrev qf4d_47_9_6 : Oper := ⟨some 12, .assign (.tmp 58), 3, "l08_graph.go:148", #[⟨5, .data⟩, ⟨5, .chain⟩, ⟨0, .phase⟩, ⟨1, .phase⟩, ⟨2, .phase⟩, ⟨3, .phase⟩, ⟨4, .phase⟩, ⟨5, .phase⟩], none⟩

/-- Rows of flags that are read, and one row. -/
def MatAt (n br : Nat) (gf : Nat → Nat) (R : Nat → Nat → Bool) (W : World) : Prop := (∀ j, j < n → W.cell? ⟨br, j, none⟩ = some (.slice (some ⟨gf j, 0, none⟩) n n)) ∧ ∀ j x, j < n → x < n → W.cell? ⟨gf j, x, none⟩ = some (.bool (R j x))
def RowAt (n bd : Nat) (D : Nat → Bool) (W : World) : Prop := ∀ j, j < n → W.cell? ⟨bd, j, none⟩ = some (.bool (D j))
theorem MatAt.under {n br : Nat} {gf : Nat → Nat} {R : Nat → Nat → Bool} {W W' : World} (h : MatAt n br gf R W) (hb : Below W.heap.size W W') : MatAt n br gf R W' :=
  ⟨fun j hj => (hb.cell (World.block_lt_of_cell? _ _ (h.1 j hj))).trans (h.1 j hj), fun j x hj hx => (hb.cell (World.block_lt_of_cell? _ _ (h.2 j x hj hx))).trans (h.2 j x hj hx)⟩
theorem RowAt.under {n bd : Nat} {D : Nat → Bool} {W W' : World} (h : RowAt n bd D W) (hb : Below W.heap.size W W') : RowAt n bd D W' := fun j hj => (hb.cell (World.block_lt_of_cell? _ _ (h j hj))).trans (h j hj)
def inK (R : Nat → Nat → Bool) (k i : Nat) : Bool := decide (i = k) || (R k i && R i k)
def depOk (l : List MItem) (R : Nat → Nat → Bool) (D : Nat → Bool) (k : Nat) (d : MDot) : Prop := ∀ t, (ht : t < l.length) → sameD l[t].fD d = true → (D t || inK R k t) = true
def ReadyPost (l : List MItem) (R : Nat → Nat → Bool) (D : Nat → Bool) (k : Nat) (w : World) (e : Ending) (w' : World) : Prop := ∃ b : Bool, e = .returned (.bool b) ∧ (b = true ↔ (∀ i, (hi : i < l.length) → inK R k i = true → ∀ d, d ∈ l[i].fDeps → depOk l R D k d)) ∧ Below w.heap.size w w'
def readyP (l : List MItem) (R : Nat → Nat → Bool) (D : Nat → Bool) (k : Nat) : Prop := ∀ i, (hi : i < l.length) → inK R k i = true → ∀ d, d ∈ l[i].fDeps → depOk l R D k d

set_option maxHeartbeats 8000000 in
theorem l8Ready_any (cs : List Value) (m : MGraph) (n k br cr bd cd : Nat) (gf : Nat → Nat) (R : Nat → Nat → Bool) (D : Nat → Bool) (w : World) (hr : rGraph w.heap.size w cs m) (hg : graphP m = true) (hx : n = m.fItems.length) (hkn : k < n) (hM : MatAt n br gf R w) (hD : RowAt n bd D w) (hW : ∀ i, i < m.fItems.length → inK R k i = true → ¬ lacks m.fItems i) :
    Calls Tryd.prog 47 #[.agg cs.toArray, .slice (some ⟨br, 0, none⟩) n cr, .slice (some ⟨bd, 0, none⟩) n cd, .int .i64 k] w fun e w' => ReadyPost m.fItems R D k w e w' := by
  have HRG := Hid.mk hr
  have hn := graph_len hg
  have HNM : Hid (m.fItems.length ≤ 1048576) := Hid.mk (by omega)
  have HM := Hid.mk hM
  have HDR := Hid.mk hD
  have HWK := Hid.mk hW
  obtain ⟨a, cap, rfl, hL, _⟩ := hr
  obtain ⟨l, hl⟩ : ∃ l, l = m.fItems := ⟨_, rfl⟩
  have HLM := Hid.mk hl
  have HGO : Hid (graphP ⟨l⟩ = true) := by unfold Hid; rw [hl]; exact hg
  rw [← hl] at hL hx hn HWK ⊢
  have HL := Hid.mk hL
  rw [← hl, ← hx] at HRG
  rw [← hx] at hn ⊢
  have HX := Hid.mk hx
  clear hl hg hL hM hD hW hx
  go_enter Tryd.func47, Tryd.ntmps47
  go_wp2_with fail
  obtain ⟨w1, hw1⟩ : ∃ x, x = w.alloc (.cells #[.slice a n cap] 30) := ⟨_, rfl⟩
  have hb01 : Below w.heap.size w w1 := by rw [hw1]; exact (Below.refl _ _).alloc (Nat.le_refl _) _
  have hbx1 : Bx w1 w.heap.size [.slice a n cap] := by rw [hw1]; exact Bx.new _ _ _
  rw [← hw1]
  clear hw1
  have hk1 : (0 : Int) ≤ (k : Int) := by omega
  have hk2 : (k : Int) < (n : Int) := by omega
  go_loopw [9] (fun iv wr => ∃ i : Nat, i ≤ n ∧ iv = .int .i64 i ∧ Hid (∀ j, (hj : j < l.length) → j < i → inK R k j = true → ∀ d, d ∈ l[j].fDeps → depOk l R D k d) ∧ Below w1.heap.size w1 wr) (fun iv _ => n - (intOf iv).toNat)
  case atStart => exact ⟨0, Nat.zero_le _, rfl, Hid.mk (fun j _ h => by omega), Below.refl _ _⟩
  case round =>
    obtain ⟨i, hi, rfl, HDO, hbk⟩ := hrel
    have hbw := bthen hb01 hbk
    by_cases hlt : i < n
    · have hil : i < l.length := by rw [← HX.out]; exact hlt
      have hbx := hbx1.under hbk
      have v0 := hbx.2 0 _ rfl
      have hMr := HM.out.under hbw
      have p1 := hMr.1 k hkn
      have p2 := hMr.2 k i hkn hlt
      have p3 := hMr.1 i hlt
      have p4 := hMr.2 i k hlt hkn
      clear hMr
      have hi1 : (0 : Int) ≤ (i : Int) := by omega
      have hi2 : (i : Int) < (n : Int) := by omega
      by_cases hik : i = k
      · have HIN : Hid (inK R k i = true) := by unfold Hid inK; rw [decide_eq_true hik]; rfl
        subst hik
        obtain ⟨b1, o1, rfl, hB, cs, hcl, hcell, a2, c2, rfl, g0, g1, g2, _⟩ := HL.out.2.2 i hil
        have HD2 := Hid.mk g2
        have kk := (hbw.cell (p := ⟨b1, o1 + i * 3 + 2, none⟩) hB).trans (hcell 2 _ rfl)
        obtain ⟨ds, hds⟩ : ∃ ds, ds = l[i].fDeps := ⟨_, rfl⟩
        rw [← hds] at kk HD2
        have hdl : ds.length ≤ 100 := by
          have h1 := graph_deps HGO.out i hil
          rw [← hds] at h1
          omega
        have HPR : Hid (∀ x, x ∈ ds → hasI l x = true) := fun x hx => by
          rcases h : hasI l x with _ | _
          · exact (HWK.out i hil HIN.out ⟨hil, x, by rw [← hds]; exact hx, h⟩).elim
          · rfl
        have HBD : Hid (∀ x, x ∈ ds → ¬ depOk l R D i x → (false = true ↔ readyP l R D i)) := fun x hx hno => ⟨fun h => absurd h (by decide), fun h => (hno (h i hil HIN.out x (by rw [← hds]; exact hx))).elim⟩
        have HEND : Hid ((∀ x, x ∈ ds → depOk l R D i x) → ∀ j, (hj : j < l.length) → j < i + 1 → inK R i j = true → ∀ d, d ∈ l[j].fDeps → depOk l R D i d) := fun hall j hj hji hin d hd => by
          by_cases e : j = i
          · subst e; exact hall d (by rw [hds]; exact hd)
          · exact HDO.out j hj (by omega) hin d hd
        clear hcell hcl g2 hds
        go_wp2_with fail
        clear kk v0 p1 p2 p3 p4
        generalize wr = wo at *
        go_loopw [11] (fun cv wr => ∃ c : Nat, c ≤ ds.length ∧ cv = .int .i64 c ∧ Hid (∀ x, x ∈ ds.take c → depOk l R D i x) ∧ Below w1.heap.size w1 wr) (fun cv _ => ds.length - (intOf cv).toNat)
        case atStart => exact ⟨0, Nat.zero_le _, rfl, Hid.mk (fun x hx => by simp at hx), hbk⟩
        case round =>
          obtain ⟨c, hc, rfl, HDc, hbr⟩ := hrel
          have hbwr := bthen hb01 hbr
          by_cases hlc : c < ds.length
          · have hbxr := hbx1.under hbr
            obtain ⟨b3, o3, rfl, hB3, cs3, hcl3, hcell3, rfl, f0, f1, _⟩ := (HD2.out.2.2.below rDot_good hbwr) c hlc
            have hB3' : b3 < wr.heap.size := Nat.lt_of_lt_of_le hB3 hbwr.size
            have k0 := hcell3 0 _ rfl
            have k1 := hcell3 1 _ rfl
            rw [Nat.add_zero] at k0
            have HHAS := HPR.out ds[c] (List.getElem_mem hlc)
            have HONE : Hid (∀ t, (ht : t < l.length) → sameD l[t].fD ds[c] = true → (D t || inK R i t) = true → depOk l R D i ds[c]) := fun t ht hs ho t' ht' hs' => by rw [graph_uniq HGO.out ht' ht hs' hs]; exact ho
            have HBAD : Hid (∀ t, (ht : t < l.length) → sameD l[t].fD ds[c] = true → (D t || inK R i t) = false → (false = true ↔ readyP l R D i)) := fun t ht hs ho => HBD.out ds[c] (List.getElem_mem hlc) (fun h => by have := h t ht hs; rw [ho] at this; cases this)
            have HTK : Hid (∀ x, x ∈ ds.take (c + 1) ↔ x ∈ ds.take c ∨ x = ds[c]) := fun x => mem_take_succ hlc
            generalize ds[c] = d at *
            clear hcell3 hcl3
            have x0 : ∀ W, Below wr.heap.size wr W → W.cell? ⟨w.heap.size, 0, none⟩ = some (.slice (some ⟨b1, o1, none⟩) n cap) := fun W h => (hbxr.under h).2 0 _ rfl
            have y0 : ∀ W, Below wr.heap.size wr W → W.cell? ⟨b3, o3 + c * 2, none⟩ = some (.int .i64 d.fR) := fun W h => (h.cell (p := ⟨b3, o3 + c * 2, none⟩) hB3').trans k0
            have y1 : ∀ W, Below wr.heap.size wr W → W.cell? ⟨b3, o3 + c * 2 + 1, none⟩ = some (.int .i64 d.fN) := fun W h => (h.cell (p := ⟨b3, o3 + c * 2 + 1, none⟩) hB3').trans k1
            have hCa := fun W (hb : Below wr.heap.size wr W) => l8At_any [.slice (some ⟨b1, o1, none⟩) n cap] m [.int .i64 d.fR, .int .i64 d.fN] d W (rGraph_good.mono (rGraph_good.below HRG.out (bthen hbwr hb)) (bthen hbwr hb).size) HNM.out ⟨rfl, f0, f1, trivial⟩
            have hc1 : (0 : Int) ≤ (c : Int) := by omega
            have hc2 : (c : Int) < (ds.length : Int) := by omega
            go_wp2_with fail
            refine wp_region_held_drew (S := fun W => Below wr.heap.size wr W) (by kernel_rfl) (Below.drew (Below.refl _ _)) (fun hHeld => ?_)
            refine tk 0 qf4d_47_9_0 (some 53) (v := ?v1) rfl rfl (by kernel_rfl) hHeld (by rfl) (fun _ _ _ x => x) (fun w h => ?y1) ?_; (case y1 => (try dsimp only at h); go_simp; try (with_reducible rfl)); try simp only [Act.put, sa, s0, s1]
            refine tk 1 qf4d_47_9_1 (some 54) (v := ?v2) rfl rfl (by kernel_rfl) hHeld (by rfl) (fun _ _ _ x => x) (fun w h => ?y2) ?_; (case y2 => (try dsimp only at h); go_simp; try (with_reducible rfl)); try simp only [Act.put, sa, s0, s1]
            refine tk 2 qf4d_47_9_2 (some 55) (v := ?v3) rfl rfl (by kernel_rfl) hHeld (by rfl) (fun _ _ _ x => x) (fun w h => ?y3) ?_; (case y3 => (try dsimp only at h); go_simp; try (with_reducible rfl)); try simp only [Act.put, sa, s0, s1]
            refine tk 3 qf4d_47_9_3 (some 56) (v := ?v4) rfl rfl (by kernel_rfl) hHeld (by rfl) (fun _ _ _ x => x) (fun w h => ?y4) ?_; (case y4 => (try dsimp only at h); go_simp; try (with_reducible rfl)); try simp only [Act.put, sa, s0, s1]
            refine tk 4 qf4d_47_9_4 (some 57) (v := ?v5) rfl rfl (by kernel_rfl) hHeld (by rfl) (fun _ _ _ x => x) (fun w h => ?y5) ?_; (case y5 => (try dsimp only at h); go_simp; try (with_reducible rfl)); try simp only [Act.put, sa, s0, s1]
            refine wpAnyH_ready (rs := [5]) (by kernel_rfl) (by simp) ?_
            refine AllReadyH.cons (o := qf4d_47_9_5) rfl (fun K hK => ?_) AllReadyH.nil
            go_simp
            refine Calls.mono (hCa _ hHeld) ?_
            rintro e wA ⟨z, rfl, hAt, hx1⟩
            go_wp2_with fail
            refine hK.out _ _ (bthen hHeld hx1) (fun hHeld => ?_)
            clear hK K
            try simp only [Act.put, sa, s0, s1]
            refine tk 6 qf4d_47_9_6 (some 12) (v := ?v6) rfl rfl (by kernel_rfl) hHeld (by rfl) (fun _ _ _ x => x) (fun w h => ?y6) ?_; (case y6 => (try dsimp only at h); go_simp; try (with_reducible rfl)); try simp only [Act.put, sa, s0, s1]
            refine wpAnyH_done (by kernel_rfl) ?_ _
            rw [← HLM.out] at hAt
            have hbA : Below w1.heap.size w1 wA := bthen hbr hHeld
            have hMA := HM.out.under (bthen hb01 hbA)
            have hDA := HDR.out.under (bthen hb01 hbA)
            clear x0 y0 y1 hCa hHeld hx1 k0 k1
            rcases hAt with ⟨t, rfl, ht, hs⟩ | ⟨rfl, hno⟩
            rotate_left
            · rw [hasI_no hno] at HHAS; cases HHAS
            have htn : t < n := by have := HX.out; omega
            have ht1 : (0 : Int) ≤ (t : Int) := by omega
            have ht2 : (t : Int) < (n : Int) := by omega
            have d0 := hDA t htn
            have m1 := hMA.1 i hkn
            have m2 := hMA.2 i t hkn htn
            have m3 := hMA.1 t htn
            have m4 := hMA.2 t i htn hkn
            clear hMA hDA
            have HIK : Hid (inK R i t = (decide (t = i) || (R i t && R t i))) := rfl
            replace HONE := Hid.mk (HONE.out t ht hs)
            replace HBAD := Hid.mk (HBAD.out t ht hs)
            have HNXT : Hid (depOk l R D i d → ∀ x, x ∈ ds.take (c + 1) → depOk l R D i x) := fun h x hx => by
              rcases (HTK.out x).1 hx with g | g
              · exact HDc.out x g
              · subst g; exact h
            rcases hDt : D t with _ | _
            · rw [hDt] at d0 HONE HBAD
              by_cases htk : t = i
              · have HDn := Hid.mk (HNXT.out (HONE.out (by rw [HIK.out, decide_eq_true htk]; rfl)))
                subst htk
                go_wp2_with fail
                go_roundw
                case rel => exact ⟨c + 1, by omega, by go_num, HDn, hbA⟩
                case measure => simp [intOf]; omega
              · have htk2 : ¬ (t : Int) = (i : Int) := by omega
                rcases hq1 : R i t with _ | _
                · rw [hq1] at m2
                  have HFA := Hid.mk (HBAD.out (by rw [HIK.out, decide_eq_false htk, hq1]; rfl))
                  go_wp2_with fail
                  go_ret
                  exact ⟨false, rfl, HFA.out, bthen hb01 hbA⟩
                · rw [hq1] at m2
                  rcases hq2 : R t i with _ | _
                  · rw [hq2] at m4
                    have HFA := Hid.mk (HBAD.out (by rw [HIK.out, decide_eq_false htk, hq1, hq2]; rfl))
                    go_wp2_with fail
                    go_ret
                    exact ⟨false, rfl, HFA.out, bthen hb01 hbA⟩
                  · rw [hq2] at m4
                    have HDn := Hid.mk (HNXT.out (HONE.out (by rw [HIK.out, hq1, hq2]; simp)))
                    go_wp2_with fail
                    go_roundw
                    case rel => exact ⟨c + 1, by omega, by go_num, HDn, hbA⟩
                    case measure => simp [intOf]; omega
            · rw [hDt] at d0 HONE
              have HDn := Hid.mk (HNXT.out (HONE.out rfl))
              go_wp2_with fail
              go_roundw
              case rel => exact ⟨c + 1, by omega, by go_num, HDn, hbA⟩
              case measure => simp [intOf]; omega
          · have HDn : Hid (∀ j, (hj : j < l.length) → j < i + 1 → inK R i j = true → ∀ d, d ∈ l[j].fDeps → depOk l R D i d) := HEND.out (fun x hx => HDc.out x (by rw [List.take_of_length_le (by omega)]; exact hx))
            go_wp2_with fail
            go_roundw
            case rel => exact ⟨i + 1, by omega, by go_num, HDn, hbr⟩
            case measure => simp [intOf]; omega
      · have hik2 : ¬ (i : Int) = (k : Int) := by omega
        rcases hq1 : R k i with _ | _
        · rw [hq1] at p2
          have HIK : Hid (inK R k i = false) := by unfold Hid inK; rw [decide_eq_false hik, hq1]; rfl
          have HDn : Hid (∀ j, (hj : j < l.length) → j < i + 1 → inK R k j = true → ∀ d, d ∈ l[j].fDeps → depOk l R D k d) := fun j hj hji hin d hd => by
            by_cases e : j = i
            · subst e; rw [HIK.out] at hin; cases hin
            · exact HDO.out j hj (by omega) hin d hd
          go_wp2_with fail
          go_roundw
          case rel => exact ⟨i + 1, by omega, by go_num, HDn, hbk⟩
          case measure => simp [intOf]; omega
        · rw [hq1] at p2
          rcases hq2 : R i k with _ | _
          · rw [hq2] at p4
            have HIK : Hid (inK R k i = false) := by unfold Hid inK; rw [decide_eq_false hik, hq1, hq2]; rfl
            have HDn : Hid (∀ j, (hj : j < l.length) → j < i + 1 → inK R k j = true → ∀ d, d ∈ l[j].fDeps → depOk l R D k d) := fun j hj hji hin d hd => by
              by_cases e : j = i
              · subst e; rw [HIK.out] at hin; cases hin
              · exact HDO.out j hj (by omega) hin d hd
            go_wp2_with fail
            go_roundw
            case rel => exact ⟨i + 1, by omega, by go_num, HDn, hbk⟩
            case measure => simp [intOf]; omega
          · rw [hq2] at p4
            have HIN : Hid (inK R k i = true) := by unfold Hid inK; rw [hq1, hq2]; simp
            obtain ⟨b1, o1, rfl, hB, cs, hcl, hcell, a2, c2, rfl, g0, g1, g2, _⟩ := HL.out.2.2 i hil
            have HD2 := Hid.mk g2
            have kk := (hbw.cell (p := ⟨b1, o1 + i * 3 + 2, none⟩) hB).trans (hcell 2 _ rfl)
            obtain ⟨ds, hds⟩ : ∃ ds, ds = l[i].fDeps := ⟨_, rfl⟩
            rw [← hds] at kk HD2
            have hdl : ds.length ≤ 100 := by
              have h1 := graph_deps HGO.out i hil
              rw [← hds] at h1
              omega
            have HPR : Hid (∀ x, x ∈ ds → hasI l x = true) := fun x hx => by
              rcases h : hasI l x with _ | _
              · exact (HWK.out i hil HIN.out ⟨hil, x, by rw [← hds]; exact hx, h⟩).elim
              · rfl
            have HBD : Hid (∀ x, x ∈ ds → ¬ depOk l R D k x → (false = true ↔ readyP l R D k)) := fun x hx hno => ⟨fun h => absurd h (by decide), fun h => (hno (h i hil HIN.out x (by rw [← hds]; exact hx))).elim⟩
            have HEND : Hid ((∀ x, x ∈ ds → depOk l R D k x) → ∀ j, (hj : j < l.length) → j < i + 1 → inK R k j = true → ∀ d, d ∈ l[j].fDeps → depOk l R D k d) := fun hall j hj hji hin d hd => by
              by_cases e : j = i
              · subst e; exact hall d (by rw [hds]; exact hd)
              · exact HDO.out j hj (by omega) hin d hd
            clear hcell hcl g2 hds
            go_wp2_with fail
            clear kk v0 p1 p2 p3 p4
            generalize wr = wo at *
            go_loopw [11] (fun cv wr => ∃ c : Nat, c ≤ ds.length ∧ cv = .int .i64 c ∧ Hid (∀ x, x ∈ ds.take c → depOk l R D k x) ∧ Below w1.heap.size w1 wr) (fun cv _ => ds.length - (intOf cv).toNat)
            case atStart => exact ⟨0, Nat.zero_le _, rfl, Hid.mk (fun x hx => by simp at hx), hbk⟩
            case round =>
              obtain ⟨c, hc, rfl, HDc, hbr⟩ := hrel
              have hbwr := bthen hb01 hbr
              by_cases hlc : c < ds.length
              · have hbxr := hbx1.under hbr
                obtain ⟨b3, o3, rfl, hB3, cs3, hcl3, hcell3, rfl, f0, f1, _⟩ := (HD2.out.2.2.below rDot_good hbwr) c hlc
                have hB3' : b3 < wr.heap.size := Nat.lt_of_lt_of_le hB3 hbwr.size
                have k0 := hcell3 0 _ rfl
                have k1 := hcell3 1 _ rfl
                rw [Nat.add_zero] at k0
                have HHAS := HPR.out ds[c] (List.getElem_mem hlc)
                have HONE : Hid (∀ t, (ht : t < l.length) → sameD l[t].fD ds[c] = true → (D t || inK R k t) = true → depOk l R D k ds[c]) := fun t ht hs ho t' ht' hs' => by rw [graph_uniq HGO.out ht' ht hs' hs]; exact ho
                have HBAD : Hid (∀ t, (ht : t < l.length) → sameD l[t].fD ds[c] = true → (D t || inK R k t) = false → (false = true ↔ readyP l R D k)) := fun t ht hs ho => HBD.out ds[c] (List.getElem_mem hlc) (fun h => by have := h t ht hs; rw [ho] at this; cases this)
                have HTK : Hid (∀ x, x ∈ ds.take (c + 1) ↔ x ∈ ds.take c ∨ x = ds[c]) := fun x => mem_take_succ hlc
                generalize ds[c] = d at *
                clear hcell3 hcl3
                have x0 : ∀ W, Below wr.heap.size wr W → W.cell? ⟨w.heap.size, 0, none⟩ = some (.slice (some ⟨b1, o1, none⟩) n cap) := fun W h => (hbxr.under h).2 0 _ rfl
                have y0 : ∀ W, Below wr.heap.size wr W → W.cell? ⟨b3, o3 + c * 2, none⟩ = some (.int .i64 d.fR) := fun W h => (h.cell (p := ⟨b3, o3 + c * 2, none⟩) hB3').trans k0
                have y1 : ∀ W, Below wr.heap.size wr W → W.cell? ⟨b3, o3 + c * 2 + 1, none⟩ = some (.int .i64 d.fN) := fun W h => (h.cell (p := ⟨b3, o3 + c * 2 + 1, none⟩) hB3').trans k1
                have hCa := fun W (hb : Below wr.heap.size wr W) => l8At_any [.slice (some ⟨b1, o1, none⟩) n cap] m [.int .i64 d.fR, .int .i64 d.fN] d W (rGraph_good.mono (rGraph_good.below HRG.out (bthen hbwr hb)) (bthen hbwr hb).size) HNM.out ⟨rfl, f0, f1, trivial⟩
                have hc1 : (0 : Int) ≤ (c : Int) := by omega
                have hc2 : (c : Int) < (ds.length : Int) := by omega
                go_wp2_with fail
                refine wp_region_held_drew (S := fun W => Below wr.heap.size wr W) (by kernel_rfl) (Below.drew (Below.refl _ _)) (fun hHeld => ?_)
                refine tk 0 qf4d_47_9_0 (some 53) (v := ?v7) rfl rfl (by kernel_rfl) hHeld (by rfl) (fun _ _ _ x => x) (fun w h => ?y7) ?_; (case y7 => (try dsimp only at h); go_simp; try (with_reducible rfl)); try simp only [Act.put, sa, s0, s1]
                refine tk 1 qf4d_47_9_1 (some 54) (v := ?v8) rfl rfl (by kernel_rfl) hHeld (by rfl) (fun _ _ _ x => x) (fun w h => ?y8) ?_; (case y8 => (try dsimp only at h); go_simp; try (with_reducible rfl)); try simp only [Act.put, sa, s0, s1]
                refine tk 2 qf4d_47_9_2 (some 55) (v := ?v9) rfl rfl (by kernel_rfl) hHeld (by rfl) (fun _ _ _ x => x) (fun w h => ?y9) ?_; (case y9 => (try dsimp only at h); go_simp; try (with_reducible rfl)); try simp only [Act.put, sa, s0, s1]
                refine tk 3 qf4d_47_9_3 (some 56) (v := ?v10) rfl rfl (by kernel_rfl) hHeld (by rfl) (fun _ _ _ x => x) (fun w h => ?y10) ?_; (case y10 => (try dsimp only at h); go_simp; try (with_reducible rfl)); try simp only [Act.put, sa, s0, s1]
                refine tk 4 qf4d_47_9_4 (some 57) (v := ?v11) rfl rfl (by kernel_rfl) hHeld (by rfl) (fun _ _ _ x => x) (fun w h => ?y11) ?_; (case y11 => (try dsimp only at h); go_simp; try (with_reducible rfl)); try simp only [Act.put, sa, s0, s1]
                refine wpAnyH_ready (rs := [5]) (by kernel_rfl) (by simp) ?_
                refine AllReadyH.cons (o := qf4d_47_9_5) rfl (fun K hK => ?_) AllReadyH.nil
                go_simp
                refine Calls.mono (hCa _ hHeld) ?_
                rintro e wA ⟨z, rfl, hAt, hx1⟩
                go_wp2_with fail
                refine hK.out _ _ (bthen hHeld hx1) (fun hHeld => ?_)
                clear hK K
                try simp only [Act.put, sa, s0, s1]
                refine tk 6 qf4d_47_9_6 (some 12) (v := ?v12) rfl rfl (by kernel_rfl) hHeld (by rfl) (fun _ _ _ x => x) (fun w h => ?y12) ?_; (case y12 => (try dsimp only at h); go_simp; try (with_reducible rfl)); try simp only [Act.put, sa, s0, s1]
                refine wpAnyH_done (by kernel_rfl) ?_ _
                rw [← HLM.out] at hAt
                have hbA : Below w1.heap.size w1 wA := bthen hbr hHeld
                have hMA := HM.out.under (bthen hb01 hbA)
                have hDA := HDR.out.under (bthen hb01 hbA)
                clear x0 y0 y1 hCa hHeld hx1 k0 k1
                rcases hAt with ⟨t, rfl, ht, hs⟩ | ⟨rfl, hno⟩
                rotate_left
                · rw [hasI_no hno] at HHAS; cases HHAS
                have htn : t < n := by have := HX.out; omega
                have ht1 : (0 : Int) ≤ (t : Int) := by omega
                have ht2 : (t : Int) < (n : Int) := by omega
                have d0 := hDA t htn
                have m1 := hMA.1 k hkn
                have m2 := hMA.2 k t hkn htn
                have m3 := hMA.1 t htn
                have m4 := hMA.2 t k htn hkn
                clear hMA hDA
                have HIK : Hid (inK R k t = (decide (t = k) || (R k t && R t k))) := rfl
                replace HONE := Hid.mk (HONE.out t ht hs)
                replace HBAD := Hid.mk (HBAD.out t ht hs)
                have HNXT : Hid (depOk l R D k d → ∀ x, x ∈ ds.take (c + 1) → depOk l R D k x) := fun h x hx => by
                  rcases (HTK.out x).1 hx with g | g
                  · exact HDc.out x g
                  · subst g; exact h
                rcases hDt : D t with _ | _
                · rw [hDt] at d0 HONE HBAD
                  by_cases htk : t = k
                  · have HDn := Hid.mk (HNXT.out (HONE.out (by rw [HIK.out, decide_eq_true htk]; rfl)))
                    subst htk
                    go_wp2_with fail
                    go_roundw
                    case rel => exact ⟨c + 1, by omega, by go_num, HDn, hbA⟩
                    case measure => simp [intOf]; omega
                  · have htk2 : ¬ (t : Int) = (k : Int) := by omega
                    rcases hq1 : R k t with _ | _
                    · rw [hq1] at m2
                      have HFA := Hid.mk (HBAD.out (by rw [HIK.out, decide_eq_false htk, hq1]; rfl))
                      go_wp2_with fail
                      go_ret
                      exact ⟨false, rfl, HFA.out, bthen hb01 hbA⟩
                    · rw [hq1] at m2
                      rcases hq2 : R t k with _ | _
                      · rw [hq2] at m4
                        have HFA := Hid.mk (HBAD.out (by rw [HIK.out, decide_eq_false htk, hq1, hq2]; rfl))
                        go_wp2_with fail
                        go_ret
                        exact ⟨false, rfl, HFA.out, bthen hb01 hbA⟩
                      · rw [hq2] at m4
                        have HDn := Hid.mk (HNXT.out (HONE.out (by rw [HIK.out, hq1, hq2]; simp)))
                        go_wp2_with fail
                        go_roundw
                        case rel => exact ⟨c + 1, by omega, by go_num, HDn, hbA⟩
                        case measure => simp [intOf]; omega
                · rw [hDt] at d0 HONE
                  have HDn := Hid.mk (HNXT.out (HONE.out rfl))
                  go_wp2_with fail
                  go_roundw
                  case rel => exact ⟨c + 1, by omega, by go_num, HDn, hbA⟩
                  case measure => simp [intOf]; omega
              · have HDn : Hid (∀ j, (hj : j < l.length) → j < i + 1 → inK R k j = true → ∀ d, d ∈ l[j].fDeps → depOk l R D k d) := HEND.out (fun x hx => HDc.out x (by rw [List.take_of_length_le (by omega)]; exact hx))
                go_wp2_with fail
                go_roundw
                case rel => exact ⟨i + 1, by omega, by go_num, HDn, hbr⟩
                case measure => simp [intOf]; omega
    · have HTR : Hid (readyP l R D k) := fun i hi hin d hd => HDO.out i hi (by have := HX.out; omega) hin d hd
      go_wp2_with fail
      go_ret
      exact ⟨true, rfl, ⟨fun _ => HTR.out, fun _ => rfl⟩, hbw⟩

end Go.Proofs.YtmigamgcmhdncaaDoor
