/-
  The way to a key by leaps: plainly, and the specification's.
-/
import Derived.Test.YtbejnnijaglkmaaDoorMemM
import Derived.Test.YtbejnnijaglkmaaDoorPDatT
import Derived.Test.YtbejnnijaglkmaaDoorIntL
import Derived.Test.YtbejnnijaglkmaaDoorRowG
namespace Go.Proofs.YtbejnnijaglkmaaDoor
open Go.RowKit Go.Maps
set_option linter.unusedVariables false
set_option linter.unusedSimpArgs false
set_option maxRecDepth 10000

/-- At one height: the places that are met from place k on, and the last of them. -/
def leap1 (h : Int) (key : ByteArray) : List MNode → Nat → Int → List Int × Int
  | [], _, p => ([], p)
  | n :: r, k, p => if n.fTower < h then leap1 h key r (k + 1) p else if kLt n.fP.fKey key then ((k : Int) :: (leap1 h key r (k + 1) k).1, (leap1 h key r (k + 1) k).2) else ([], p)
/-- From a height down. -/
def leapF : Nat → ByteArray → List MNode → Int → List Int
  | 0, _, _, _ => []
  | h + 1, key, l, p => (leap1 (h + 1 : Nat) key (l.drop (p + 1).toNat) (p + 1).toNat p).1 ++ leapF h key l (leap1 (h + 1 : Nat) key (l.drop (p + 1).toNat) (p + 1).toNat p).2
def leapsP (l : List MNode) (key : ByteArray) : List Int := leapF 4 key l (-1)

theorem Tryd.infoInt : (Tryd.prog.info? 3).map (fun i => (i.zero, i.size, i.bytes)) = some (some (.int .i64 0), 1, 8) := by kernel_rfl

set_option maxHeartbeats 4000000 in
theorem specLeaps_any (cs : List Value) (m : MMem) (key : ByteArray) (w : World) (hr : rMem w.heap.size w cs m) (hw : wMem m ≤ 1048576) :
    Calls Tryd.prog 13 #[.agg cs.toArray, .string key] w fun e w' => ∃ v, e = .returned v ∧ w'.ownsRow w.heap.size 3 1 v (leapsP m.fNodes key).length ((leapsP m.fNodes key).map (Value.int .i64)) ∧ Below w.heap.size w w' := by
  obtain ⟨i0, hi, hz0, hz1, hz2⟩ := info_parts Tryd.infoInt
  obtain ⟨a0, c0, rfl, hL, _⟩ := hr
  have HL := Hid.mk hL
  obtain ⟨l, hl⟩ : ∃ l, l = m.fNodes := ⟨_, rfl⟩
  have hw2 : m.fNodes.length ≤ 1048576 := by have h : m.fNodes.length + sumW wNode m.fNodes ≤ 1048576 := hw; omega
  rw [← hl] at HL hw2 ⊢
  clear hL hw hl
  obtain ⟨n, hx⟩ : ∃ n, l.length = n := ⟨_, rfl⟩
  have HX := Hid.mk hx
  rw [hx] at hw2 ⊢
  clear hx
  go_enter Tryd.func13, Tryd.ntmps13
  go_wp2_with fail
  obtain ⟨wq, hwq⟩ : ∃ x, x = w.alloc (.cells #[.slice a0 n c0] 41) := ⟨_, rfl⟩
  have hbq : Below w.heap.size w wq := by rw [hwq]; exact (Below.refl _ _).alloc (Nat.le_refl _) _
  have hbx : Bx wq w.heap.size [.slice a0 n c0] := by rw [hwq]; exact Bx.new _ _ _
  have hlq : w.heap.size < wq.heap.size := hbx.1
  have HBX : Hid (∀ W, Below wq.heap.size wq W → W.cell? ⟨w.heap.size, 0, none⟩ = some (.slice a0 n c0)) := fun W hW => (hW.cell (p := ⟨w.heap.size, 0, none⟩) hlq).trans (hbx.2 0 _ rfl)
  rw [← hwq]
  obtain ⟨wo, hwo⟩ : ∃ x, x = wq.alloc (.cells #[] 3) := ⟨_, rfl⟩
  have hbo : Below wq.heap.size wq wo := by rw [hwo]; exact (Below.refl _ _).alloc (Nat.le_refl _) _
  have hoo : wo.ownsRow wq.heap.size 3 1 (.slice (some ⟨w.heap.size + 1, 0, none⟩) 0 0) 0 [] := by
    rw [show w.heap.size + 1 = wq.heap.size from by rw [hwq]; simp, hwo]
    exact ⟨by simp, .inr ⟨wq.heap.size, 0, #[], rfl, Nat.le_refl _, (show (wq.heap.push _)[wq.heap.size]? = _ from Array.getElem?_push_size), by omega, by simp [maxLen], by simp, by simp⟩⟩
  rw [← hwo]
  clear hwo hwq hbx
  go_loopw [5, 6, 7] (fun ov pv hv wr => ∃ (h : Nat) (p : Int) (out : List Int), h ≤ 4 ∧ hv = .int .i64 h ∧ pv = .int .i64 p ∧ -1 ≤ p ∧ p < n ∧ Hid (leapsP l key = out ++ leapF h key l p) ∧ out.length + h * n ≤ 4 * n ∧ wr.ownsRow wq.heap.size 3 1 ov out.length (out.map (Value.int .i64)) ∧ Below wq.heap.size wq wr) (fun _ _ hv _ => (intOf hv).toNat)
  case atStart => exact ⟨4, -1, [], by omega, rfl, rfl, by omega, by omega, rfl, by simp, hoo, hbo⟩
  case round =>
    obtain ⟨h, p, out, hh4, rfl, rfl, hp1, hp2, HO, hol, hown, hbk⟩ := hrel
    clear hoo hbo
    cases h with
    | zero =>
      have HE : Hid (leapsP l key = out) := by show _ = _; rw [HO.out, leapF, List.append_nil]
      have HOW := Hid.mk (own_base hown hbq.size)
      clear hown
      go_wp2_with fail
      go_ret
      exact ⟨_, rfl, by rw [HE.out]; exact HOW.out, hbq.trans (hbk.mono hbq.size)⟩
    | succ h =>
      obtain ⟨k0, hk0⟩ : ∃ k : Nat, (k : Int) = p + 1 := ⟨(p + 1).toNat, by omega⟩
      have HK0 : Hid ((p + 1).toNat = k0) := by show _ = _; omega
      have hh1 : ((h : Int) + 1 : Int) ≤ 4 := by omega
      rw [Nat.add_mul, Nat.one_mul] at hol
      go_wp2_with fail
      go_loopw [5, 6, 8] (fun ov pv kv wr => ∃ (k : Nat) (p2 : Int) (o2 : List Int), k ≤ n ∧ kv = .int .i64 k ∧ pv = .int .i64 p2 ∧ -1 ≤ p2 ∧ p2 < k ∧ Hid (leap1 (h + 1 : Nat) key (l.drop (p + 1).toNat) (p + 1).toNat p = (o2 ++ (leap1 (h + 1 : Nat) key (l.drop k) k p2).1, (leap1 (h + 1 : Nat) key (l.drop k) k p2).2)) ∧ o2.length ≤ k ∧ wr.ownsRow wq.heap.size 3 1 ov (out ++ o2).length ((out ++ o2).map (Value.int .i64)) ∧ Below wq.heap.size wq wr) (fun _ _ kv _ => n - (intOf kv).toNat)
      case atStart => exact ⟨k0, p, [], by omega, by rw [hk0], rfl, hp1, by omega, by show _ = _; rw [HK0.out]; simp, by simp, by simpa using hown, hbk⟩
      case round =>
        obtain ⟨k, p2, o2, hk, rfl, rfl, hq1, hq2, HF, hol2, hown2, hbk2⟩ := hrel
        clear hown hbk
        have y0 := HBX.out _ hbk2
        by_cases hlt : k < n
        · have hkl : k < l.length := by rw [HX.out]; exact hlt
          have HD := Hid.mk (List.drop_eq_getElem_cons hkl)
          obtain ⟨b1, o1, rfl, hbB, cs, _, hcell, hrT⟩ := (HL.out.2.2.below rNode_good (hbq.trans (hbk2.mono hbq.size))) k hkl
          obtain ⟨nd, hnd⟩ : ∃ x, x = l[k] := ⟨_, rfl⟩
          rw [← hnd] at hrT HD
          obtain ⟨rfl, _, _, _, hwf, _⟩ := hrT
          have c0 := hcell 0 _ rfl
          have c3 := hcell 3 _ rfl
          rw [Nat.add_zero] at c0
          clear hcell hnd
          by_cases hT : nd.fTower < (h : Int) + 1
          · have HF2 : Hid (leap1 (h + 1 : Nat) key (l.drop (p + 1).toNat) (p + 1).toNat p = (o2 ++ (leap1 (h + 1 : Nat) key (l.drop (k + 1)) (k + 1) p2).1, (leap1 (h + 1 : Nat) key (l.drop (k + 1)) (k + 1) p2).2)) := by
              show _ = _
              rw [HF.out, HD.out, leap1, if_pos (by simpa using hT)]
            go_wp2_with fail
            go_roundw
            case rel => exact ⟨k + 1, p2, o2, by omega, by go_num, rfl, hq1, by omega, HF2, by omega, hown2, hbk2⟩
            case measure => simp [intOf]; omega
          · by_cases hA : kLt nd.fP.fKey key = true
            · have e1 : Op.bytesLess nd.fP.fKey.toList key.toList = true := hA
              have HF2 : Hid (leap1 (h + 1 : Nat) key (l.drop (p + 1).toNat) (p + 1).toNat p = ((o2 ++ [(k : Int)]) ++ (leap1 (h + 1 : Nat) key (l.drop (k + 1)) (k + 1) k).1, (leap1 (h + 1 : Nat) key (l.drop (k + 1)) (k + 1) k).2)) := by
                show _ = _
                rw [HF.out, HD.out, leap1, if_neg (by simpa using hT), if_pos hA]
                simp
              obtain ⟨ws, hws⟩ : ∃ ws, ws = wr.alloc (.cells #[.int .i64 k] 3) := ⟨_, rfl⟩
              have hbs : Below wr.heap.size wr ws := by rw [hws]; exact (Below.refl _ _).alloc (Nat.le_refl _) _
              have hbxs : Bx ws wr.heap.size [.int .i64 k] := by rw [hws]; exact Bx.new _ _ _
              have hown3 := own_below hown2 hbs
              have hB3 := hbk2.trans (hbs.mono hbk2.size)
              obtain ⟨zo, HZO⟩ : ∃ z, Hid (z = out ++ o2) := ⟨_, rfl⟩
              have hzl : zo.length ≤ 8388608 := by rw [HZO.out, List.length_append]; omega
              rw [← HZO.out] at hown3
              go_wp2_with (at_builtin; rw [← hws]; refine wpList_append_own_at _ rfl _ _ 37 rfl wq.heap.size 3 i0 (.int .i64 0) 1 8 Tryd.underlying37 hi hz0 hz1 hz2 rfl (by decide) _ _ _ rfl hown3 ⟨wr.heap.size, 0, none⟩ 1 1 [.int .i64 k] rfl rfl (bx_news hbxs) (by intro u hu; simp at hu; subst hu; rfl) (by unfold maxLen; omega) (by omega) hB3.size ?_; intro v4 w4 hown4 hgrow4 hnil4 hloc4)
              have hB4 := hB3.grown hgrow4 hB3.size (fun k h => (hown3.lt k h).1)
              have HO4 : Hid (w4.ownsRow wq.heap.size 3 1 v4 (out ++ (o2 ++ [(k : Int)])).length ((out ++ (o2 ++ [(k : Int)])).map (Value.int .i64))) := own_congr hown4 (by rw [HZO.out]; simp; omega) (by rw [HZO.out]; simp)
              clear hown2 hown3 hown4 hgrow4 hnil4 hloc4 hbxs hws
              refine ⟨⟨v4, .int .i64 k, .int .i64 ((k : Int) + 1), ⟨k + 1, by omega, by go_num, k, rfl, by omega, by omega, o2 ++ [(k : Int)], ?_, by simp; omega, ?_, hB4⟩, rfl, rfl, rfl⟩, by simp [intOf]; omega⟩
              · have h := HF2.out
                exact h
              · exact own_congr HO4.out (by simp) (by simp)
            · have hA2 : kLt nd.fP.fKey key = false := Bool.eq_false_iff.2 hA
              have e1 : Op.bytesLess nd.fP.fKey.toList key.toList = false := hA2
              have HFIN : Hid (leap1 (h + 1 : Nat) key (l.drop (p + 1).toNat) (p + 1).toNat p = (o2, p2)) := by
                show _ = _
                rw [HF.out, HD.out, leap1, if_neg (by simpa using hT), if_neg (by rw [hA2]; simp)]
                simp
              have HOUT : Hid (leapsP l key = (out ++ o2) ++ leapF h key l p2) := by show _ = _; rw [HO.out, leapF, HFIN.out]; simp
              go_wp2_with fail
              go_roundw
              case rel => exact ⟨h, p2, out ++ o2, by omega, by first | go_num | (congr 1; omega), rfl, by omega, by omega, HOUT, by simp only [List.length_append]; omega, hown2, hbk2⟩
              case measure => simp [intOf] <;> omega
        · have hkn : k = n := by omega
          have HFIN : Hid (leap1 (h + 1 : Nat) key (l.drop (p + 1).toNat) (p + 1).toNat p = (o2, p2)) := by
            show _ = _
            rw [HF.out, List.drop_of_length_le (by rw [HX.out]; omega), leap1]
            simp
          have HOUT : Hid (leapsP l key = (out ++ o2) ++ leapF h key l p2) := by show _ = _; rw [HO.out, leapF, HFIN.out]; simp
          go_wp2_with fail
          go_roundw
          case rel => exact ⟨h, p2, out ++ o2, by omega, by first | go_num | (congr 1; omega), rfl, by omega, by omega, HOUT, by simp only [List.length_append]; omega, hown2, hbk2⟩
          case measure => simp [intOf] <;> omega

end Go.Proofs.YtbejnnijaglkmaaDoor
