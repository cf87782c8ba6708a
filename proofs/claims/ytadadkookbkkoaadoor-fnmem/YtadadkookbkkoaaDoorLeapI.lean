/-
  The way to a key by leaps: the program's, over its towers.
-/
import Derived.Test.YtadadkookbkkoaaDoorTows
import Derived.Test.YtadadkookbkkoaaDoorKeyO
namespace Go.Proofs.YtadadkookbkkoaaDoor
open Go.RowKit Go.Maps
set_option linter.unusedVariables false
set_option linter.unusedSimpArgs false
set_option maxRecDepth 10000

def blkOf : Value → Nat
  | .pointer (some a) => a.block
  | _ => 0
theorem leapF_step {h : Nat} {key : ByteArray} {l : List MNode} {j j2 : Nat} {o2 : List Int} (he : leap1 (h + 1 : Nat) key (l.drop j) j ((j : Int) - 1) = (o2, (j2 : Int) - 1)) : leapF (h + 1) key l ((j : Int) - 1) = o2 ++ leapF h key l ((j2 : Int) - 1) := by
  rw [leapF, show ((j : Int) - 1 + 1).toNat = j by omega, he]

set_option maxHeartbeats 8000000 in
theorem implLeaps_any (cs : List Value) (m : MMem) (key : ByteArray) (w : World) (hr : rMem w.heap.size w cs m) (hw : wMem m ≤ 1048576) (hky : key.size ≤ 9223372036854775807) (hT : Tabs w) :
    Calls Tryd.prog 15 #[.agg cs.toArray, .string key] w fun e w' => ∃ v, e = .returned v ∧ w'.ownsRow w.heap.size 3 1 v (leapsP m.fNodes key).length ((leapsP m.fNodes key).map (Value.int .i64)) ∧ Below w.heap.size w w' := by
  obtain ⟨i0, hi, hz0, hz1, hz2⟩ := info_parts Tryd.infoInt
  have HI : Hid (_ ∧ _ ∧ _ ∧ _) := ⟨hi, hz0, hz1, hz2⟩
  have HT := Hid.mk hT
  obtain ⟨a0, c0, rfl, hL, _⟩ := hr
  have HL := Hid.mk hL
  obtain ⟨l, hl⟩ : ∃ l, l = m.fNodes := ⟨_, rfl⟩
  have hw2 : m.fNodes.length ≤ 1048576 := by have h : m.fNodes.length + sumW wNode m.fNodes ≤ 1048576 := hw; omega
  rw [← hl] at HL hw2 ⊢
  clear hL hw hl hi hz0 hz1 hz2 hT
  obtain ⟨n, hx⟩ : ∃ n, l.length = n := ⟨_, rfl⟩
  have HX := Hid.mk hx
  rw [hx] at hw2 ⊢
  clear hx
  go_enter Tryd.func15, Tryd.ntmps15
  obtain ⟨wq, hwq⟩ : ∃ x, x = w.alloc (.cells #[.slice a0 n c0] 26) := ⟨_, rfl⟩
  have hbq : Below w.heap.size w wq := by rw [hwq]; exact (Below.refl _ _).alloc (Nat.le_refl _) _
  have hbx : Bx wq w.heap.size [.slice a0 n c0] := by rw [hwq]; exact Bx.new _ _ _
  have y0 := hbx.2 0 _ rfl
  have hz := hbx.1
  go_wp2_with (rw [← hwq])
  refine (raise_any a0 n c0 l wq HX.out hw2 ((HL.out.below rNode_good hbq).mono rNode_good hbq.size)).mono ?_
  rintro e w2 ⟨B, rfl, hBm, hTw, hx2⟩
  have hb2 := bthen hbq hx2
  have HBM := Hid.mk hBm
  have HR : Hid (∀ j h W, j ≤ n → h < 4 → Below w2.heap.size w2 W → W.cell? ⟨B j, 5 + h, none⟩ = some (pv B (nx l n j h))) := fun j h W hj h4 hb => ((hTw j hj).under hb).cell _ _ (towV_right (by rw [HX.out]; exact hj) h4)
  have HK : Hid (∀ i W, (hi : i < l.length) → Below w2.heap.size w2 W → W.cell? ⟨B (i + 1), 0, none⟩ = some (.string l[i].fP.fKey) ∧ W.cell? ⟨B (i + 1), 4, none⟩ = some (.int .i64 i)) := fun i W hi hb => by
    have h := (hTw (i + 1) (by rw [← HX.out]; omega)).under hb
    refine ⟨h.cell 0 _ ?_, h.cell 4 _ ?_⟩
    · unfold towV; rw [itm_at hi]; rfl
    · unfold towV; rw [itm_at hi]; rfl
  have HS : Hid (∀ i, (hi : i < l.length) → l[i].fP.fKey.size ≤ 9223372036854775807) := fun i hi => by
    obtain ⟨_, _, _, _, _, _, _, _, g, _⟩ := HL.out.2.2 i hi
    exact g
  clear hTw hBm hwq y0
  go_wp2_with fail
  go_loopw [5, 6, 7] (fun ov av hv wr => ∃ (h j : Nat) (out : List Int), h ≤ 4 ∧ hv = .int .i64 ((h : Int) - 1) ∧ av = .pointer (some ⟨B j, 0, none⟩) ∧ j ≤ n ∧ h ≤ hgt l j ∧ Hid (leapsP l key = out ++ leapF h key l ((j : Int) - 1)) ∧ out.length + h * n ≤ 4 * n ∧ wr.ownsRow w2.heap.size 3 1 ov out.length (out.map (Value.int .i64)) ∧ Below w2.heap.size w2 wr) (fun _ _ hv _ => (intOf hv + 1).toNat)
  case atStart => exact ⟨4, 0, [], Nat.le_refl _, rfl, rfl, Nat.zero_le _, Nat.le_refl _, rfl, by simp, ⟨rfl, .inl ⟨rfl, rfl⟩⟩, Below.refl _ _⟩
  case round =>
    obtain ⟨h, j, out, hh4, rfl, rfl, hjn, hhg, HO, hol, hown, hbk⟩ := hrel
    cases h with
    | zero =>
      have HE : Hid (leapsP l key = out) := by show _ = _; rw [HO.out, leapF, List.append_nil]
      have HOW := Hid.mk (own_base hown hb2.size)
      clear hown
      have e0 : ((0 : Nat) : Int) - 1 = -1 := rfl
      rw [e0]
      go_wp2_with fail
      go_ret
      exact ⟨_, rfl, by rw [HE.out]; exact HOW.out, bthen hb2 hbk⟩
    | succ h =>
      have h4 : h < 4 := by omega
      have e0 : ((h + 1 : Nat) : Int) - 1 = (h : Int) := by omega
      rw [e0]
      clear e0
      have y1 := HR.out j h _ hjn h4 hbk
      have hh4' : (h : Int) < 4 := by omega
      rw [Nat.add_mul, Nat.one_mul] at hol
      generalize wr = wo at *
      go_wp2_with fail
      go_loopw [5, 6, 8] (fun ov av nv wr => ∃ (j2 : Nat) (o2 : List Int), j ≤ j2 ∧ j2 ≤ n ∧ av = .pointer (some ⟨B j2, 0, none⟩) ∧ nv = pv B (nx l n j2 h) ∧ h + 1 ≤ hgt l j2 ∧ Hid (leap1 (h + 1 : Nat) key (l.drop j) j ((j : Int) - 1) = (o2 ++ (leap1 (h + 1 : Nat) key (l.drop j2) j2 ((j2 : Int) - 1)).1, (leap1 (h + 1 : Nat) key (l.drop j2) j2 ((j2 : Int) - 1)).2)) ∧ o2.length + j ≤ j2 ∧ wr.ownsRow w2.heap.size 3 1 ov (out ++ o2).length ((out ++ o2).map (Value.int .i64)) ∧ Below w2.heap.size w2 wr) (fun _ av _ _ => B n - blkOf av)
      case atStart => exact ⟨j, [], Nat.le_refl _, hjn, rfl, rfl, hhg, by simp [Hid], by simp, by simpa using hown, hbk⟩
      case round =>
        obtain ⟨j2, o2, hj1, hj2, rfl, rfl, hhg2, HF, hol2, hown2, hbk2⟩ := hrel
        clear hown y1
        cases hnx : nx l n j2 h with
        | none =>
          have HSt := nx_none l h4 (by omega) n hj2 hnx
          have HF2 : Hid (leapsP l key = (out ++ o2) ++ leapF h key l ((j2 : Int) - 1)) := by
            have h1 := HF.out
            rw [leap1_stop h4 _ (fun i' a b => HSt i' a (by rw [← HX.out]; exact b)), List.append_nil] at h1
            show _ = _
            rw [HO.out, leapF_step h1, List.append_assoc]
          have hpn : pv B none = .pointer none := rfl
          rw [hpn]
          clear HF HSt hnx
          have HOW := Hid.mk hown2
          clear hown2
          go_wp2_with fail
          go_roundw
          case rel => exact ⟨h, j2, out ++ o2, by omega, by go_num, rfl, hj2, by omega, HF2, by rw [List.length_append]; omega, HOW.out, hbk2⟩
          case measure => simp [intOf]
        | some i =>
          obtain ⟨hs1, hs2, hs3, hs4⟩ := nx_some l h4 (by omega) n hj2 hnx
          obtain ⟨i, rfl⟩ : ∃ i', i = i' + 1 := ⟨i - 1, by omega⟩
          have hil : i < l.length := by rw [HX.out]; omega
          have hps : pv B (some (i + 1)) = .pointer (some ⟨B (i + 1), 0, none⟩) := rfl
          rw [hps]
          have HNX := Hid.mk (leap1_next (key := key) h4 ((j2 : Int) - 1) hs1 (by rw [HX.out]; exact hs2) hs3 hs4 (by omega : i + 1 - 1 < l.length))
          simp only [Nat.add_sub_cancel] at HNX
          have y3 := (HK.out i _ hil hbk2).1
          have hCk := fun W (hb : Below w2.heap.size w2 W) => keyOrder_any l[i].fP.fKey key W (HT.out.below (bthen hb2 hb)) (HS.out i hil) hky
          have HP : Hid (∀ W, Below w2.heap.size w2 W → W.cell? ⟨B (i + 1), 4, none⟩ = some (.int .i64 i)) := fun W hb => (HK.out i W hil hb).2
          have HR2 : Hid (∀ W, Below w2.heap.size w2 W → W.cell? ⟨B (i + 1), 5 + h, none⟩ = some (pv B (nx l n (i + 1) h))) := fun W hb => HR.out (i + 1) h W hs2 h4 hb
          have hmm : B j2 < B (i + 1) := HBM.out j2 (i + 1) hs1 hs2
          have hmn : B (i + 1) ≤ B n := by
            by_cases he : i + 1 = n
            · rw [he]; exact Nat.le_refl _
            · exact Nat.le_of_lt (HBM.out (i + 1) n (by omega) (Nat.le_refl _))
          generalize l[i].fP.fKey = kx at *
          by_cases hK : kLt kx key = true
          · simp only [ordK_lt hK] at hCk
            have HF2 : Hid (leap1 (h + 1 : Nat) key (l.drop j) j ((j : Int) - 1) = ((o2 ++ [(i : Int)]) ++ (leap1 (h + 1 : Nat) key (l.drop (i + 1)) (i + 1) (((i + 1 : Nat) : Int) - 1)).1, (leap1 (h + 1 : Nat) key (l.drop (i + 1)) (i + 1) (((i + 1 : Nat) : Int) - 1)).2)) := by
              show _ = _
              rw [HF.out, HNX.out, if_pos hK, show ((i + 1 : Nat) : Int) - 1 = (i : Int) by omega]
              simp
            clear HF HNX hK hnx
            go_wp2_with fail
            refine (hCk _ hbk2).mono ?_
            rintro e w5 ⟨rfl, hx5⟩
            have hb5 := bthen hbk2 hx5
            have hown5 := own_below hown2 hx5
            have y4 := HP.out _ hb5
            obtain ⟨w6, hw6⟩ : ∃ q, q = w5.alloc (.cells #[Value.int .i64 i] 3) := ⟨_, rfl⟩
            have hx6 : Below w5.heap.size w5 w6 := by rw [hw6]; exact (Below.refl _ _).alloc (Nat.le_refl _) _
            have hbx6 : Bx w6 w5.heap.size [Value.int .i64 i] := by rw [hw6]; exact Bx.new _ _ _
            have hown6 := own_below hown5 hx6
            have hb6 := bthen hb5 hx6
            obtain ⟨zo, HZO⟩ : ∃ z, Hid (z = out ++ o2) := ⟨_, Hid.mk rfl⟩
            have hzl : zo.length ≤ 8388608 := by rw [HZO.out, List.length_append]; omega
            rw [← HZO.out] at hown6
            clear hown2 hown5 hCk y3
            go_wp2_with (at_builtin; rw [← hw6]; refine wpList_append_own_at _ rfl _ _ 41 rfl w2.heap.size 3 i0 (.int .i64 0) 1 8 Tryd.underlying41 HI.out.1 HI.out.2.1 HI.out.2.2.1 HI.out.2.2.2 rfl (by decide) _ _ _ rfl hown6 ⟨w5.heap.size, 0, none⟩ 1 1 [.int .i64 i] rfl rfl (bx_news hbx6) (by intro u hu; simp at hu; subst hu; rfl) (by unfold maxLen; omega) (by omega) hb6.size ?_; intro v7 w7 hown7 hgrow7 hnil7 hloc7; have hb7 := hb6.grown hgrow7 hb6.size (fun k h => (hown6.lt k h).1); have y7 := HR2.out _ hb7; have HO7 : Hid (w7.ownsRow w2.heap.size 3 1 v7 (out ++ (o2 ++ [(i : Int)])).length ((out ++ (o2 ++ [(i : Int)])).map (Value.int .i64))) := own_congr hown7 (by rw [HZO.out]; simp; omega) (by rw [HZO.out]; simp); clear hown6 hown7 hgrow7 hnil7 hloc7 hw6 hbx6 y4)
            go_roundw
            case rel => exact ⟨i + 1, o2 ++ [(i : Int)], by omega, hs2, rfl, rfl, by omega, HF2, by simp; omega, HO7.out, hb7⟩
            case measure => simp only [blkOf]; omega
          · have hKf := Bool.eq_false_iff.2 hK
            have hord : ¬ ordK kx key < 0 := by unfold ordK; rw [hKf]; simp; split <;> omega
            have hord2 : decide (ordK kx key < 0) = false := decide_eq_false hord
            have HF2 : Hid (leapsP l key = (out ++ o2) ++ leapF h key l ((j2 : Int) - 1)) := by
              have h1 := HF.out
              rw [HNX.out, if_neg hK, List.append_nil] at h1
              show _ = _
              rw [HO.out, leapF_step h1, List.append_assoc]
            generalize ordK kx key = od at *
            clear HF HNX hK hKf hnx
            go_wp2_with fail
            refine (hCk _ hbk2).mono ?_
            rintro e w5 ⟨rfl, hx5⟩
            have hb5 := bthen hbk2 hx5
            have HOW := Hid.mk (own_below hown2 hx5)
            clear hown2 hCk
            go_wp2_with fail
            go_roundw
            case rel => exact ⟨h, j2, out ++ o2, by omega, by go_num, rfl, hj2, by omega, HF2, by rw [List.length_append]; omega, HOW.out, hb5⟩
            case measure => simp [intOf]

theorem leap1_len {h : Int} {key : ByteArray} : ∀ (l : List MNode) (k : Nat) (p : Int), (leap1 h key l k p).1.length ≤ l.length
  | [], _, _ => by simp [leap1]
  | n :: r, k, p => by
    have h1 := leap1_len (h := h) (key := key) r (k + 1) p
    have h2 := leap1_len (h := h) (key := key) r (k + 1) k
    unfold leap1
    split
    · simp only [List.length_cons]; omega
    · split
      · simp only [List.length_cons]; omega
      · simp
theorem leapF_len (key : ByteArray) (l : List MNode) : ∀ (h : Nat) (p : Int), (leapF h key l p).length ≤ h * l.length
  | 0, _ => by simp [leapF]
  | h + 1, p => by
    rw [leapF, List.length_append]
    have h1 := leap1_len (h := ((h + 1 : Nat) : Int)) (key := key) (l.drop (p + 1).toNat) (p + 1).toNat p
    have h2 := leapF_len key l h (leap1 ((h + 1 : Nat) : Int) key (l.drop (p + 1).toNat) (p + 1).toNat p).2
    have h3 : (l.drop (p + 1).toNat).length ≤ l.length := by rw [List.length_drop]; omega
    rw [Nat.add_mul, Nat.one_mul]
    omega
end Go.Proofs.YtadadkookbkkoaaDoor
