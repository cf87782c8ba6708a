/-
  Part 13 of the texts that the proof leans on.
-/
import Derived.Test.YtmbobjhplkpfoaaFnn11
import Derived.Test.YtmbobjhplkpfoaaFnn0
import Derived.Test.YtmbobjhplkpfoaaFnn4
import Derived.Test.YtmbobjhplkpfoaaFnn1
import Derived.Test.YtmbobjhplkpfoaaFnn3
import Derived.Test.YtmbobjhplkpfoaaFnn10
import Derived.Maps.RangeWalk
import Derived.Sort.KeysCollected
set_option linter.unusedVariables false
set_option linter.unusedSimpArgs false
set_option maxRecDepth 10000

namespace Go.Proofs.Ytmbobjhplkpfoaa
open Go.RowKit Go.Maps

theorem lawStr : Keyed Try.prog 9 := string_keyed Try.underlying9
theorem keyStr {s : ByteArray} (h : s.size ≤ 9223372036854775807) : keyOf Try.prog 9 (.string s) = some (kS s) := WideMaps.keyOf_string_mk Try.underlying9 (by simpa [maxLen] using h)
set_option maxHeartbeats 1000000 in
theorem nameMap_any (a : Option Addr) (n cap : Nat) (l : List MEntry) (w : World) (hx : l.length = n) (hl : LeafL 2 rEntry w.heap.size w a cap l) (hn : n ≤ 1048576) :
    Calls Try.prog 29 #[.slice a n cap] w fun e w' => ∃ D : DataW Unit, e = .returned (.map (some w.heap.size)) ∧ w'.ownsMap Try.prog 9 (plainElem Try.prog 3) w.heap.size n D ∧ NMap D l n ∧ Below w.heap.size w w' := by
  have HX := Hid.mk hx
  have HRS := Hid.mk hl.2.2
  clear hx hl
  have hmm := @run_makeMap Try.prog
  go_enter Try.func29, Try.ntmps29
  go_wp2_with fail
  go_loopw [9] (fun i wr => ∃ (k : Nat) (D : DataW Unit), k ≤ n ∧ i = .int .i64 k ∧ wr.ownsMap Try.prog 9 (plainElem Try.prog 3) w.heap.size k D ∧ NMap D l k ∧ Below w.heap.size w wr) (fun i _ => n - (intOf i).toNat)
  case atStart => exact ⟨0, .map [], Nat.zero_le _, rfl, World.ownsMap_made _ _ _ _, NMap.start _, (Below.refl _ _).alloc (Nat.le_refl _) _⟩
  case round =>
    obtain ⟨k, D, hk, rfl, hown, hU, hbk⟩ := hrel
    have HU := Hid.mk hU
    clear hU hmm
    by_cases hlt : k < n
    · have hkl : k < l.length := by rw [HX.out]; exact hlt
      obtain ⟨b1, o1, rfl, hB, cs, hcl, hcell, rfl, hsz, hwf, _⟩ := (HRS.out.below rEntry_good hbk) k hkl
      have k0 := hcell 0 _ rfl
      have k1 := hcell 1 _ rfl
      rw [Nat.add_zero] at k0
      clear hcell hcl
      have hkey := keyStr hsz
      have HU' := Hid.mk (HU.out.put hkl)
      generalize l[k].fName = nm at *
      generalize l[k].fId = id at *
      have hmz := ownsMap_lt hown
      have hown0 := ownsMap_below hown ((Below.refl _ _).alloc (Nat.le_refl _) (.cells #[.string nm, .int .i64 id] 61))
      go_wp2_with (at_mapUpdate; refine wpList_mapUpdate_own _ rfl _ _ _ 51 rfl 9 3 lawStr Try.underlying51 _ w.heap.size k _ rfl hown0 (by unfold maxLen; omega) _ _ _ rfl rfl hkey _ [] (plainElem_int Try.underlying3 hwf) ?_; intro w3 hown3 hgrow3)
      have hT : Turn [w.heap.size] wr w3 := Turn.after ((Below.refl _ _).alloc (Nat.le_refl _) _) (Turn.ofGrown hgrow3 (fun k hk => by cases hk; simp))
      go_roundw
      case rel => exact ⟨k + 1, _, by omega, by go_num, hown3, HU'.out, Turn.under hbk hT (fun k hk => by simp at hk; omega)⟩
      case measure => simp [intOf]; omega
    · have hkn : k = n := by omega
      subst hkn
      go_wp2_with fail
      go_ret
      exact ⟨D, rfl, hown, HU.out, hbk⟩

set_option maxHeartbeats 1000000 in
theorem formOk1_any (cs : List Value) (m : MDisk) (a : Option Addr) (c : Nat) (s : ByteArray) (w : World) (hr : rDisk w.heap.size w cs m) (hw : wDisk m ≤ 1048576) (hs : s.size ≤ 9223372036854775807) (ha : ∃ b, a = some ⟨b, 0, none⟩ ∧ b < w.heap.size ∧ w.cell? ⟨b, 0, none⟩ = some (.string s)) :
    Calls Try.prog 27 #[.agg cs.toArray, .slice a 1 c] w fun e w' => e = .returned (.bool (diskOk m && nameOk s)) ∧ Below w.heap.size w w' := by
  have hq := hr
  obtain ⟨a0, c0, a1, c1, a2, c2, rfl, _⟩ := hq
  obtain ⟨b, rfl, hbl, hcs⟩ := ha
  have HW := Hid.mk hw
  have HR := Hid.mk hr
  clear hr hw
  have hCd := fun W (hb : Below w.heap.size w W) => implDiskOk_c _ m W (rDisk_good.mono (rDisk_good.below HR.out hb) hb.size) HW.out
  have hbA := (Below.refl w.heap.size w).alloc (Nat.le_refl _) (.cells #[.slice a0 m.fInodes.length c0, .slice a1 m.fNames.length c1, .slice a2 m.fSafe.length c2, .int .i64 m.fNext] 27)
  go_enter Try.func27, Try.ntmps27
  go_wp2_with fail
  refine wp_loop_rounds 2 ?_
  rw [rounds_succ]
  go_wp2_with fail
  refine (implNameOk_any s _ hs).mono ?_
  rintro e w1 ⟨rfl, hx1⟩
  have hb1 := bthen hbA hx1
  have hbx := (Bx.new w [.slice a0 m.fInodes.length c0, .slice a1 m.fNames.length c1, .slice a2 m.fSafe.length c2, .int .i64 m.fNext] 27).under hx1
  have y0 := hbx.2 0 _ rfl
  have y1 := hbx.2 1 _ rfl
  have y2 := hbx.2 2 _ rfl
  have y3 := hbx.2 3 _ rfl
  by_cases hN : nameOk s = true
  · rw [hN]
    go_wp2_with fail
    rw [rounds_succ]
    go_wp2_with fail
    refine Calls.mono (hCd _ hb1) ?_
    rintro e w2 ⟨rfl, hx2⟩
    go_wp2_with fail
    go_ret
    exact ⟨by rw [hN, Bool.and_true]; rfl, bthen hb1 hx2⟩
  · have hN2 : nameOk s = false := Bool.eq_false_iff.2 hN
    rw [hN2]
    go_wp2_with fail
    go_ret
    exact ⟨by rw [hN2, Bool.and_false]; rfl, hb1⟩

set_option maxHeartbeats 1000000 in
theorem findFile_any (cs : List Value) (m : MDisk) (s : ByteArray) (w : World) (hr : rDisk w.heap.size w cs m) (hw : wDisk m ≤ 1048576) (hs : s.size ≤ 9223372036854775807) :
    Calls Try.prog 36 #[.agg cs.toArray, .string s] w fun e w' => ∃ p : Nat, e = .returned (.tuple #[.int .i64 p, .int .i64 (callP m s)]) ∧ (callP m s = 0 → ∃ h : p < m.fInodes.length, m.fInodes[p].fId = idOf m.fNames s) ∧ Below w.heap.size w w' := by
  have hq := hr
  obtain ⟨a0, c0, a1, c1, a2, c2, rfl, hI, hNm, hSf, hnx, _⟩ := hq
  have hw2 : m.fInodes.length + sumW wInode m.fInodes + (m.fNames.length + sumW wEntry m.fNames) + (m.fSafe.length + sumW wEntry m.fSafe) ≤ 1048576 := hw
  have HW := Hid.mk hw
  have HR := Hid.mk hr
  have HI := Hid.mk hI
  have HNL := Hid.mk hNm
  clear hr hI hNm hSf hw
  have hbA := (Below.refl w.heap.size w).alloc (Nat.le_refl _) (.cells #[.slice a0 m.fInodes.length c0, .slice a1 m.fNames.length c1, .slice a2 m.fSafe.length c2, .int .i64 m.fNext] 27)
  have hbB := hbA.alloc (by simp) (.cells #[.string s] 9)
  go_enter Try.func36, Try.ntmps36
  go_wp2_with fail
  refine (formOk1_any _ m _ 1 s _ (rDisk_good.mono (rDisk_good.below HR.out hbB) hbB.size) HW.out hs ⟨w.heap.size + 1, rfl, by simp, by simp⟩).mono ?_
  rintro e w1 ⟨rfl, hx1⟩
  have hb1 := bthen hbB hx1
  have hbx := ((Bx.new w [.slice a0 m.fInodes.length c0, .slice a1 m.fNames.length c1, .slice a2 m.fSafe.length c2, .int .i64 m.fNext] 27).alloc (.cells #[.string s] 9)).under hx1
  have y0 := hbx.2 0 _ rfl
  have y1 := hbx.2 1 _ rfl
  by_cases hF : (diskOk m && nameOk s) = true
  · rw [hF]
    have hF2 := hF
    rw [Bool.and_eq_true] at hF2
    obtain ⟨q1, q2, _⟩ := diskOk_parts hF2.1
    have HSO := Hid.mk (okI_sorted q1)
    have HNO := Hid.mk (fun i j hi hj he => names_once (okE_names q2).2 (i := i) (j := j) hi hj he)
    have HOK := Hid.mk hF2.1
    clear q1 q2 hF2
    go_wp2_with fail
    refine (nameMap_any a1 _ c1 m.fNames w1 rfl (LeafL.mono rEntry_good (HNL.out.below rEntry_good hb1) hb1.size) (by omega)).mono ?_
    rintro e w2 ⟨D, rfl, hown, hNM, hx2⟩
    have HNM := Hid.mk hNM
    clear hNM
    have hb2 := bthen hb1 hx2
    have hbx2 := hbx.under hx2
    have z0 := hbx2.2 0 _ rfl
    by_cases hH : hasName m.fNames s = true
    · have HV : Hid (callP m s = 0) := by show callP m s = 0; unfold callP; rw [hF, if_pos rfl, if_pos hH]
      obtain ⟨hk, hid, hhas⟩ := file_there HOK.out hH
      obtain ⟨_, hnm⟩ := hasName_at hH
      have hhs : Maps.has D (kS s) = true := (HNM.out.2 s).1.2 ⟨_, hk, hk, hnm⟩
      have HC : Hid (D.atKey (kS s) (.lit (.int .i64 0)) = .lit (.int .i64 (idOf m.fNames s))) := by
        obtain ⟨j, hj, _, he, ha⟩ := (HNM.out.2 s).2 hhs
        have : j = nameAt m.fNames s := HNO.out j _ hj hk (he.trans hnm.symm)
        subst this
        show D.atKey _ _ = _
        rw [ha, hid]
      have HHas := Hid.mk hhas
      clear hF hH hk hid hhas hnm
      go_wp2_with (at_lookup; refine wpList_lookup_own_ok_int _ rfl _ _ 51 rfl 9 3 .i64 lawStr Try.underlying51 Try.underlying3 (zeroInt _) w1.heap.size m.fNames.length D rfl hown _ _ rfl (keyStr hs) ?_; intro c hat hwc)
      have hce : c = idOf m.fNames s := by
        rw [HC.out] at hat
        simp only [DataW.lit.injEq, Lit.int.injEq, true_and] at hat
        exact hat.symm
      subst hce
      refine (inodePlace_any a0 c0 m.fInodes (idOf m.fNames s) w2 (LeafL.mono rInode_good (HI.out.below rInode_good hb2) hb2.size) (by omega) HSO.out).mono ?_
      rintro e w3 ⟨p, rfl, hp, hx3⟩
      have HP := Hid.mk (hp HHas.out)
      rw [HHas.out]
      clear hp
      go_wp2_with fail
      refine bodyPost_ret (v := .tuple #[.int .i64 p, .int .i64 0]) (by simp [results, Try.results36, go_sem, *]) rfl ⟨p, by rw [HV.out], fun _ => HP.out, bthen hb2 hx3⟩
    · have HV : Hid (callP m s = 2) := by show callP m s = 2; unfold callP; rw [hF, if_pos rfl, if_neg hH]
      have hhs : Maps.has D (kS s) = false := by
        rw [Bool.eq_false_iff]
        intro h
        obtain ⟨j, hj, _, he⟩ := (HNM.out.2 s).1.1 h
        exact hH (hasName_yes hj he)
      go_wp2_with (at_lookup; refine wpList_lookup_own_ok_int _ rfl _ _ 51 rfl 9 3 .i64 lawStr Try.underlying51 Try.underlying3 (zeroInt _) w1.heap.size m.fNames.length D rfl hown _ _ rfl (keyStr hs) ?_; intro c hat hwc)
      refine bodyPost_ret (v := .tuple #[.int .i64 0, .int .i64 2]) (by simp [results, Try.results36, go_sem, *]) rfl ⟨0, by rw [HV.out]; rfl, (fun h => by rw [HV.out] at h; cases h), hb2⟩
  · have hF2 : (diskOk m && nameOk s) = false := Bool.eq_false_iff.2 hF
    have HV : Hid (callP m s = 1) := by show callP m s = 1; unfold callP; rw [hF2]; rfl
    rw [hF2]
    go_wp2_with fail
    refine bodyPost_ret (v := .tuple #[.int .i64 0, .int .i64 1]) (by simp [results, Try.results36, go_sem, *]) rfl ⟨0, by rw [HV.out]; rfl, (fun h => by rw [HV.out] at h; cases h), hb1⟩

theorem dataOf_at {m : MDisk} {s : ByteArray} {p : Nat} (hso : m.fInodes.Pairwise fun x y => x.fId < y.fId) (h : p < m.fInodes.length) (he : m.fInodes[p].fId = idOf m.fNames s) : dataOf m s = m.fInodes[p].fData := by
  unfold dataOf
  have : placeOf m.fInodes (idOf m.fNames s) = p := by
    unfold placeOf
    rw [List.findIdx_eq h]
    refine ⟨decide_eq_true he, fun j hj => ?_⟩
    have := sorted_at hso h hj
    simp
    omega
  rw [this, List.getElem?_eq_getElem h]
  rfl

end Go.Proofs.Ytmbobjhplkpfoaa

namespace Go.Proofs.Ytmbobjhplkpfoaa
open Go.RowKit

/-- One element: what it leads to, and what the list is once one of its cells is written, in a world in which what it led to may have turned. -/
theorem ownS.split {α : Type} {size : Nat} {e : TypeId} {O : ORep α} {R : Rep α} (hO : O.Good R size) {w : World} {g cap : Nat} {l : List α} {F : List Nat} (h : ownS size e O w (.slice (some ⟨g, 0, none⟩) l.length cap) l F) (hN : F.Nodup) {k : Nat} (hk : k < l.length) :
    ∃ cs Fk, O w cs l[k] Fk ∧ Fk.Nodup ∧ (∀ b, b ∈ Fk → b ∈ F ∧ b ≠ g) ∧ g ∈ F ∧ (∀ i u, cs[i]? = some u → w.cell? ⟨g, k * size + i, none⟩ = some u) ∧ (∀ i, w.frozen? ⟨g, i, none⟩ = false) ∧
      ∀ (W : World) (i : Nat) (u : Value) (m' : α) (G Fn : List Nat), i < size → Turn Fk w W → O W (cs.set i u) m' G → G.Nodup → (∀ b, b ∈ G → b ∈ Fk ∨ b ∈ Fn) → (∀ b, b ∈ Fn → b ∉ F) →
        ∃ F', ownS size e O (W.setCell ⟨g, k * size + i, none⟩ u) (.slice (some ⟨g, 0, none⟩) l.length cap) (l.set k m') F' ∧ F'.Nodup ∧ ∀ b, b ∈ F' → b ∈ F ∨ b ∈ Fn := by
  rcases h with ⟨h0, _, _⟩ | ⟨g', cap', cur, Fs, h1, h2, h3, h4, h5, h6, h7, rfl⟩
  · cases h0
  · simp only [Value.slice.injEq, Option.some.injEq, Addr.mk.injEq, and_true, true_and] at h1
    obtain ⟨rfl, rfl⟩ := h1
    rw [List.nodup_cons] at hN
    have hkF : k < Fs.length := by omega
    have hgk : Fs.getD k [] = Fs[k] := by rw [List.getD_eq_getElem?_getD, List.getElem?_eq_getElem hkF]; rfl
    have hfn := flatten_nodup_iff.1 hN.2
    have hnk : (Fs.getD k []).Nodup := by rw [hgk]; exact hfn.1 _ (List.getElem_mem hkF)
    refine ⟨_, _, h7 k hk, hnk, fun b hb => ⟨List.mem_cons_of_mem _ (mem_flatten_getD hkF hb), fun e => hN.1 (by rw [← e]; exact mem_flatten_getD hkF hb)⟩, by simp, fun i u hu => ?_, fun i => frozen_of_row w g i cur e h2, ?_⟩
    · rw [cell_of_row w g _ cur e (0, 0) h2]
      rw [List.getElem?_take] at hu
      split at hu
      · rw [List.getElem?_drop] at hu
        simpa using hu
      · cases hu
    intro W i u m' G Fn hi hT g1 g2 g3 hFn
    have hFn' : ∀ b, b ∈ Fn → b ∉ Fs.flatten := fun b hb hb2 => hFn b hb (List.mem_cons_of_mem _ hb2)
    obtain ⟨n1, n2⟩ := set_nodup hkF hN.2 g2 g3 hFn'
    have hgF : g ∉ (Fs.set k G).flatten := by
      intro hg
      rcases n2 g hg with hg | hg
      · exact hN.1 hg
      · exact hFn g hg (by simp)
    have hgW : W.heap[g]? = some (.cells cur e (0, 0)) := (hT.block g (Array.getElem?_eq_some_iff.1 h2).1 (fun hm => hN.1 (mem_flatten_getD hkF hm))).trans h2
    have hs := heap_setCell_same W g (k * size + i) cur e u hgW
    refine ⟨g :: (Fs.set k G).flatten, .inr ⟨g, cap, cur.setIfInBounds (k * size + i) u, Fs.set k G, by simp, hs, by simpa using h3, h4, by simpa using h5, by simp [h6], ?_, rfl⟩, List.nodup_cons.2 ⟨hgF, n1⟩, ?_⟩
    · intro j hj
      have hj' : j < l.length := by simpa using hj
      have hfr : ∀ b, b ∈ (Fs.set k G).getD j [] → (W.setCell ⟨g, k * size + i, none⟩ u).heap[b]? = W.heap[b]? := by
        intro b hb
        have hbf : b ∈ (Fs.set k G).flatten := mem_flatten_getD (by simp; omega) hb
        exact heap_setCell_other W ⟨g, k * size + i, none⟩ b u (fun hh => hgF (by have : b = g := hh; rw [← this]; exact hbf))
      have hlen : cur.toList.length = cap * size := by simpa using h5
      by_cases hjk : j = k
      · subst hjk
        have e1 : ((cur.setIfInBounds (j * size + i) u).toList.drop (j * size)).take size = ((cur.toList.drop (j * size)).take size).set i u := by
          rw [Array.toList_setIfInBounds]
          apply List.ext_getElem?
          intro x
          rw [List.getElem?_take, List.getElem?_drop, List.getElem?_set, List.getElem?_set, List.getElem?_take, List.getElem?_drop]
          by_cases hx : x < size
          · rw [if_pos hx, if_pos hx]
            by_cases hxi : i = x
            · subst hxi
              have hmul : (j + 1) * size ≤ cap * size := Nat.mul_le_mul_right _ (by omega)
              rw [Nat.succ_mul] at hmul
              rw [if_pos rfl, if_pos rfl, if_pos (by omega), if_pos (by simp; omega)]
            · rw [if_neg (by omega), if_neg hxi]
          · rw [if_neg hx, if_neg (by omega), if_neg hx]
        have e2 : (Fs.set j G).getD j [] = G := by rw [List.getD_eq_getElem?_getD, List.getElem?_set_self (by omega)]; rfl
        rw [List.getElem_set_self, e1]
        rw [e2] at hfr ⊢
        exact hO.frame g1 hfr
      · have e1 : ((cur.setIfInBounds (k * size + i) u).toList.drop (j * size)).take size = (cur.toList.drop (j * size)).take size := by
          rw [Array.toList_setIfInBounds]
          apply List.ext_getElem?
          intro x
          rw [List.getElem?_take, List.getElem?_drop, List.getElem?_set, List.getElem?_take, List.getElem?_drop]
          by_cases hx : x < size
          · rw [if_pos hx, if_pos hx]
            have : k * size + i ≠ j * size + x := by
              intro hh
              rcases Nat.lt_or_gt_of_ne hjk with hlt | hlt
              · have hmul : (j + 1) * size ≤ k * size := Nat.mul_le_mul_right _ hlt
                rw [Nat.succ_mul] at hmul; omega
              · have hmul : (k + 1) * size ≤ j * size := Nat.mul_le_mul_right _ hlt
                rw [Nat.succ_mul] at hmul; omega
            rw [if_neg this]
          · rw [if_neg hx, if_neg hx]
        have e2 : (Fs.set k G).getD j [] = Fs.getD j [] := by rw [List.getD_eq_getElem?_getD, List.getD_eq_getElem?_getD, List.getElem?_set_ne (Ne.symm hjk)]
        rw [List.getElem_set_ne (Ne.symm hjk), e1]
        rw [e2] at hfr ⊢
        have hjF : j < Fs.length := by omega
        have hgj : Fs.getD j [] = Fs[j] := by rw [List.getD_eq_getElem?_getD, List.getElem?_eq_getElem hjF]; rfl
        have hW : O W ((cur.toList.drop (j * size)).take size) l[j] (Fs.getD j []) := hO.frame (h7 j hj') (fun b hb => hT.block b (hO.lt (h7 j hj') b hb) (fun hm => by
          rw [hgj] at hb
          rw [hgk] at hm
          have hp := List.pairwise_iff_getElem.1 hfn.2
          rcases Nat.lt_or_gt_of_ne hjk with hlt | hlt
          · exact hp j k hjF hkF hlt b hb hm
          · exact hp k j hkF hjF hlt b hm hb))
        exact hO.frame hW hfr
    · intro b hb
      rcases List.mem_cons.1 hb with rfl | hb
      · exact .inl (by simp)
      · rcases n2 b hb with h | h
        · exact .inl (List.mem_cons_of_mem _ h)
        · exact .inr h


end Go.Proofs.Ytmbobjhplkpfoaa

namespace Go.Proofs.Ytmbobjhplkpfoaa
open Go.RowKit Go.Maps Go.Shelf Go.Lib Go.Sort

/-- How an entry's two cells lie. -/
def encE (e : MEntry) : List Value := [.string e.fName, .int .i64 e.fId]

def cmpN (a b : ByteArray) : Int := if strLt a b then -1 else if strLt b a then 1 else 0
def cmpE (a b : MEntry) : Int := cmpN a.fName b.fName

theorem ltOfE (a b : MEntry) : ltOf cmpE a b = strLt a.fName b.fName := by
  unfold ltOf cmpE cmpN
  by_cases h : strLt a.fName b.fName = true
  · simp [h]
  · simp only [h]
    by_cases h2 : strLt b.fName a.fName = true
    · simp [h2]
    · simp [h2]

@[reducible] def inhE : Inhabited MEntry := ⟨⟨ByteArray.empty, 0⟩⟩

theorem swoE : SWO (ltOf cmpE) where
  irrefl x := by rw [ltOfE]; exact strLt_irrefl _
  trans x y z h1 h2 := by rw [ltOfE] at *; exact strLt_trans h1 h2
  ntrans x y z h1 h2 := by
    rw [ltOfE] at *
    by_cases hxy : x.fName = y.fName
    · rw [hxy]; exact h2
    · have h3 := strLt_tri h1 hxy
      by_cases hyz : y.fName = z.fName
      · rw [← hyz]; exact h1
      · exact strLt_asymm (strLt_trans (strLt_tri h2 hyz) h3)

set_option maxHeartbeats 1000000 in
theorem compareStr_any (a b : ByteArray) (w : World) :
    Calls Try.prog 69 #[.string a, .string b] w fun e w' => e = .returned (.int .i64 (cmpN a b)) ∧ w' = w := by
  by_cases h1 : strLt a b = true
  · have hv : cmpN a b = -1 := by unfold cmpN; rw [if_pos h1]
    rw [hv]
    obtain ⟨p1, p2, p3⟩ := strLt_facts h1
    clear hv h1
    go_enter Try.func69, Try.ntmps69
    go_wp2
    go_ret
    exact ⟨rfl, rfl⟩
  · have h1' : strLt a b = false := Bool.eq_false_iff.2 h1
    by_cases h2 : strLt b a = true
    · have hv : cmpN a b = 1 := by unfold cmpN; rw [if_neg h1, if_pos h2]
      rw [hv]
      obtain ⟨p1, p2, p3⟩ := strLt_facts h2
      clear hv h1 h2 h1'
      go_enter Try.func69, Try.ntmps69
      go_wp2
      go_ret
      exact ⟨rfl, rfl⟩
    · have h2' : strLt b a = false := Bool.eq_false_iff.2 h2
      have hv : cmpN a b = 0 := by unfold cmpN; rw [if_neg h1, if_neg h2]
      rw [hv]
      have p1 : Op.bytesLess a.toList b.toList = false := h1'
      have p2 : Op.bytesLess b.toList a.toList = false := h2'
      have hab : a.toList = b.toList := by
        by_cases h : a.toList = b.toList
        · exact h
        · have := bl_total p1 h; rw [p2] at this; cases this
      have p3 : (a.toList == b.toList) = true := by rw [hab]; simp
      have p4 : (b.toList == a.toList) = true := by rw [hab]; simp
      clear hab hv h1 h2 h1' h2'
      go_enter Try.func69, Try.ntmps69
      go_wp2
      go_ret
      exact ⟨rfl, rfl⟩

set_option maxHeartbeats 1000000 in
theorem closureE (x y : MEntry) (w : World) : Calls Try.prog 68 #[.agg (encE x).toArray, .agg (encE y).toArray] w fun e w' => e = .returned (.int .i64 (cmpE x y)) ∧ ∃ q os', w' = grow (w.drewN q) os' := by
  have hcon := fun W' => compareStr_any x.fName y.fName W'
  have hv : cmpE x y = cmpN x.fName y.fName := rfl
  rw [hv]
  clear hv
  generalize cmpN x.fName y.fName = r at hcon ⊢
  unfold encE
  go_enter Try.func68, Try.ntmps68
  go_wp2_with (go_at_call 69; refine (hcon _).mono ?_; rintro e w' ⟨rfl, rfl⟩)
  go_ret
  exact ⟨rfl, 0, _, by rw [alloc_eq_grow, alloc_eq_grow, grow_grow]; rfl⟩

theorem isAggE (w : World) : (isAgg 61).run Try.prog w = .ok true w := by kernel_rfl
theorem sizeOfE (w : World) : (Go.sizeOf 61).run Try.prog w = .ok 2 w := by kernel_rfl

section
variable [Inhabited MEntry]

theorem cmpLaysE (blk off size : Nat) (w : World) : CmpLays Try.prog 68 #[] encE 2 cmpE blk off size w :=
  fun _ _ _ _ x y => closureE x y _


/-- The library's sort, at a row of entries. -/
theorem sortE_any (blk cap : Nat) (d : Array MEntry) (w : World) (hH : HoldsK encE 2 w blk 0 d) (hblk : blk < w.heap.size) (hsz : d.size < 4611686018427387904) :
    Calls Try.prog 67 #[.slice (some ⟨blk, 0, none⟩) d.size cap, .func (.func 68) #[] #[]] w fun e w' => e = .returned (.tuple #[]) ∧ ∃ d' n os, PermIn 0 d.size d d' ∧ SortedIn (ltOf cmpE) 0 d.size d' ∧ w' = sortWorldK encE 2 w blk 0 n d' os := by
  have eg : ∀ args w, (callFunc 68 args).run Try.prog w = .ok (.enter 68 args) w := enters_of Try.func68 (by kernel_rfl) rfl
  exact AnyQ.slices_SortFunc sortEnt 2 isAggE sizeOfE encE (fun _ => rfl) (fun x v hv => by simp [encE] at hv; rcases hv with rfl | rfl <;> rfl) cmpE swoE 68 #[] blk 0 cap d w eg (cmpLaysE blk 0 d.size w) hH hblk hsz

end

end Go.Proofs.Ytmbobjhplkpfoaa
