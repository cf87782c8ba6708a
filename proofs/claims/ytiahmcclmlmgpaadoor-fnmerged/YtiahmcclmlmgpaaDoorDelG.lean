/-
  The library's DeleteFunc at pairs that are gone.
-/
import Derived.Test.YtiahmcclmlmgpaaDoorDelF
import Derived.Test.YtiahmcclmlmgpaaDoorMergeS
namespace Go.Proofs.YtiahmcclmlmgpaaDoor
open Go.RowKit Go.Maps
set_option linter.unusedVariables false
set_option linter.unusedSimpArgs false
set_option maxRecDepth 10000

theorem there_all {l : List MPair} (h : ∀ j, (h : j < l.length) → l[j].fGone = false) : thereP l = l := by
  unfold thereP
  rw [List.filter_eq_self]
  intro p hp
  obtain ⟨j, hj, rfl⟩ := List.getElem_of_mem hp
  simp [h j hj]
theorem there_upto {l : List MPair} {k : Nat} (hk : k ≤ l.length) (h : ∀ j, (h : j < l.length) → j < k → l[j].fGone = false) : thereP (l.take k) = l.take k := by
  refine there_all (fun j hj => ?_)
  simp only [List.length_take] at hj
  rw [List.getElem_take]
  exact h j (by omega) (by omega)

theorem setCells_rowK {e : TypeId} (b : Nat) : ∀ (L : List Value) (o : Nat) (w : World) (cur : Array Value), w.heap[b]? = some (.cells cur e (0, 0)) →
    ∃ cur', (w.setCells b o L).heap[b]? = some (.cells cur' e (0, 0)) ∧ cur'.size = cur.size ∧ (∀ k, k < o → cur'[k]? = cur[k]?)
  | [], o, w, cur, h => ⟨cur, h, rfl, fun _ _ => rfl⟩
  | v :: r, o, w, cur, h => by
    obtain ⟨cur', h1, h2, h3⟩ := setCells_rowK b r (o + 1) (w.setCell ⟨b, o, none⟩ v) _ (heap_setCell_same w b o cur e v h)
    refine ⟨cur', h1, by simpa using h2, fun k hk => ?_⟩
    rw [h3 k (by omega), Array.getElem?_setIfInBounds_ne (by omega)]
theorem setCells_turn (b : Nat) : ∀ (L : List Value) (o : Nat) (w : World), Turn [b] w (w.setCells b o L)
  | [], _, _ => Turn.refl _ _
  | v :: r, o, w => (Turn.setCell (Turn.refl _ _) (by simp) v).trans (setCells_turn b r (o + 1) _)

theorem pair_F {e g cap : Nat} {w : World} {l : List MPair} {cur : Array Value} {Fs : List (List Nat)} (h : OwnRow 3 e oPair w g cap l cur Fs) : Fs.flatten = [] := by
  rw [List.flatten_eq_nil_iff]
  intro F hF
  obtain ⟨j, hj, rfl⟩ := List.getElem_of_mem hF
  obtain ⟨_, _, _, _, h5⟩ := h.each j (by rw [← h.flen]; exact hj)
  rw [List.getD_eq_getElem?_getD, List.getElem?_eq_getElem hj] at h5
  exact h5
/-- The first of a row that was cleared behind them. -/
theorem own_front {e g cap i : Nat} {w w' : World} {m : List MPair} {cur cur' : Array Value} {Fs : List (List Nat)} (h : OwnRow 3 e oPair w g cap m cur Fs) (hi : i ≤ m.length)
    (h1 : w'.heap[g]? = some (.cells cur' e (0, 0))) (h2 : cur'.size = cur.size) (h3 : ∀ k, k < i * 3 → cur'[k]? = cur[k]?) : ownS 3 e oPair w' (.slice (some ⟨g, 0, none⟩) i cap) (m.take i) [g] := by
  have hl : (m.take i).length = i := by simp; omega
  refine .inr ⟨g, cap, cur', List.replicate i [], by rw [hl], h1, by have := h.le; omega, h.max, h2.trans h.fit, by simp [hl], fun j hj => ?_, by simp⟩
  rw [hl] at hj
  have hs : (cur'.toList.drop (j * 3)).take 3 = (cur.toList.drop (j * 3)).take 3 := by
    apply List.ext_getElem?
    intro t
    rw [List.getElem?_take, List.getElem?_take, List.getElem?_drop, List.getElem?_drop]
    by_cases ht : t < 3
    · rw [if_pos ht, if_pos ht, Array.getElem?_toList, Array.getElem?_toList, h3 _ (by omega)]
    · rw [if_neg ht, if_neg ht]
  rw [hs]
  obtain ⟨e1, e2, e3, _, _⟩ := h.each j (by omega)
  rw [List.getElem_take]
  refine ⟨e1, e2, e3, trivial, ?_⟩
  rw [List.getD_eq_getElem?_getD]
  simp [hj]

theorem run_clear3 {P : Program} {n : Nat} (w : World) (t e ty : TypeId) (z : Value) (ht : P.underlying t = some (.slice e)) (hv : ∀ w, (zeroValue e).run P w = .ok z w) (hz1 : ∀ v ∈ (Builtin.zeroCells z.cells n).toList, v.oneCell' = true) (b o c : Nat) (hn : 0 < n)
    (hc : ∀ j, j < (Builtin.zeroCells z.cells n).toList.length → (w.cell? ⟨b, o + j, none⟩).isSome = true) (hf : ∀ j, j < (Builtin.zeroCells z.cells n).toList.length → w.frozen? ⟨b, o + j, none⟩ = false) :
    (Builtin.clear_ #[t] ty #[.slice (some ⟨b, o, none⟩) n c]).run P w = .ok (.tuple #[]) (w.setCells b o (Builtin.zeroCells z.cells n).toList) := by
  have hst := run_storeCells_cells (P := P) b o (Builtin.zeroCells z.cells n).toList 0 w (by simpa using hc) (by simpa using hf) hz1
  simp only [Nat.add_zero] at hst
  obtain ⟨m, rfl⟩ : ∃ m, n = m + 1 := ⟨n - 1, by omega⟩
  simp [Builtin.clear_, run_underlying ht, hv, hst]

set_option maxHeartbeats 4000000 in
theorem deleteFunc_any (v : Value) (l : List MPair) (F : List Nat) (w : World) (hn : l.length ≤ 16777216) (ho : ownS 3 31 oPair w v l F) (hN : F.Nodup) :
    Calls Tryd.prog 39 #[v, goneV] w fun e w' => ∃ v', e = .returned v' ∧ ownS 3 31 oPair w' v' (thereP l) F ∧ Turn F w w' := by
  obtain ⟨a0, c0, rfl, hL⟩ := ownS.read oPair_good ho
  have HIX := Hid.mk (indexFunc_any a0 _ c0 l w rfl hn hL)
  go_enter Tryd.func39, Tryd.ntmps39
  go_wp2_with fail
  refine Calls.mono HIX.out ?_
  rintro e w1 ⟨hx1, ⟨rfl, hall⟩ | ⟨i, rfl, hil, hgi, hno⟩⟩
  · have HA : Hid (thereP l = l) := there_all hall
    have how1 := ownS.frame oPair_good ho (fun b hb => hx1.block b (ownS.lt oPair_good ho b hb))
    go_wp2_with fail
    go_ret
    exact ⟨_, rfl, by rw [HA.out]; exact how1, Turn.ofBelow hx1⟩
  · rcases ho.open hN with ⟨_, rfl, _⟩ | ⟨g, cap, cur, Fs, hv, hrow, rfl⟩
    · simp at hil
    simp only [Value.slice.injEq] at hv
    obtain ⟨rfl, _, rfl⟩ := hv
    have HFE := Hid.mk (pair_F hrow)
    rw [pair_F hrow] at ho hN
    obtain ⟨n, hx⟩ : ∃ n, l.length = n := ⟨_, rfl⟩
    have HX := Hid.mk hx
    have HS0 : Hid (thereP (l.take (i + 1)) = l.take i) := by show _ = _; rw [there_no hil hgi, there_upto (by omega) hno]
    have how1 := ownS.frame oPair_good ho (fun b hb => hx1.block b (ownS.lt oPair_good ho b hb))
    have hin : i < n := by omega
    rw [hx] at hn ⊢
    have hcn : n ≤ c0 := by have := hrow.le; omega
    have hcm : c0 ≤ 9223372036854775807 := by have := hrow.max; unfold maxLen at this; exact this
    have hne : ((i : Int) == -1) = false := beq_eq_false_iff_ne.2 (by omega)
    clear hx hL HIX hno hgi hrow ho
    go_wp2_with fail
    go_loopw [5, 6] (fun iv jv wr => ∃ (i j : Nat) (m : List MPair), i < j ∧ j ≤ n ∧ iv = .int .i64 i ∧ jv = .int .i64 j ∧ m.length = n ∧ ownS 3 31 oPair wr (.slice (some ⟨g, 0, none⟩) n c0) m [g] ∧ m.take i = thereP (l.take j) ∧ m.drop j = l.drop j ∧ Turn [g] w wr) (fun _ jv _ => n - (intOf jv).toNat)
    case atStart => exact ⟨i, i + 1, l, by omega, by omega, rfl, by go_num, HX.out, by have h := how1; rw [HX.out] at h; exact h, HS0.out.symm, rfl, Turn.ofBelow hx1⟩
    case round =>
      obtain ⟨i2, j, m, hij, hjn, rfl, rfl, hml, hok, htk, hdr, htn⟩ := hrel
      have HML := Hid.mk hml
      have HTK := Hid.mk htk
      have HDR := Hid.mk hdr
      clear hml htk hdr how1 HS0 hx1
      by_cases hlt : j < n
      · have hjl : j < l.length := by rw [HX.out]; exact hlt
        have hjm : j < m.length := by rw [HML.out]; exact hlt
        have him : i2 < m.length := by rw [HML.out]; omega
        have hmj : m[j] = l[j] := by
          have h := congrArg (fun z => z[0]?) HDR.out
          simp only [List.getElem?_drop, Nat.add_zero] at h
          rw [List.getElem?_eq_getElem hjm, List.getElem?_eq_getElem hjl] at h
          exact Option.some.inj h
        obtain ⟨p, hp⟩ : ∃ p, p = l[j] := ⟨_, rfl⟩
        have HN := Hid.mk (fun h => there_no hjl h)
        have HY := Hid.mk (fun h => there_yes hjl h)
        rcases hok.open (by simp) with ⟨hv, _⟩ | ⟨g2, cap2, cur2, Fs2, hv, hrow, hFF⟩
        · cases hv
        simp only [Value.slice.injEq, Option.some.injEq, Addr.mk.injEq, and_true] at hv
        obtain ⟨rfl, hnm, rfl⟩ := hv
        clear hnm
        have hej := Edit.start hrow j (Fs2.getD j [])
        obtain ⟨hsg, hs1, hs2, _, _⟩ := hrow.each j hjm
        rw [hsg, hmj, ← hp] at hej
        rw [hmj, ← hp] at hs1 hs2
        rw [← hp] at HN HY
        have k0 := hej.cellAt (i := 0) (by omega) rfl
        have k1 := hej.cellAt (i := 1) (by omega) rfl
        have k2 := hej.cellAt (i := 2) (by omega) rfl
        rw [Nat.add_zero] at k0
        have hgl := hrow.lt
        have HPL := Hid.mk hp
        clear hej hsg hmj hp hrow hFF
        obtain ⟨wp, hwp⟩ : ∃ wp, wp = wr.alloc (.cells #[.string p.fKey, .string p.fVal, .bool p.fGone] 31) := ⟨_, rfl⟩
        have hbp : Below wr.heap.size wr wp := by rw [hwp]; exact (Below.refl _ _).alloc (Nat.le_refl _) _
        have hbv : Bx wp wr.heap.size [.string p.fKey, .string p.fVal, .bool p.fGone] := by rw [hwp]; exact Bx.new _ _ _
        have z0 := hbv.2 0 _ rfl
        have z1 := hbv.2 1 _ rfl
        have z2 := hbv.2 2 _ rfl
        go_wp2_with fail
        rw [← hwp]
        clear hwp k0 k1 k2
        refine (gone_any p wp).mono ?_
        rintro e w2 ⟨rfl, hx2⟩
        have hb2 := bthen hbp hx2
        have hbv2 := hbv.under hx2
        obtain ⟨gb, hgb⟩ : ∃ x, x = wr.heap.size := ⟨_, rfl⟩
        rw [← hgb] at hbv2 ⊢
        have y0 := hbv2.2 0 _ rfl
        have y1 := hbv2.2 1 _ rfl
        have y2 := hbv2.2 2 _ rfl
        have hbl := hbv2.1
        have hok2 := ownS.frame oPair_good hok (fun b hb => hb2.block b (ownS.lt oPair_good hok b hb))
        have ht2 := htn.trans (Turn.ofBelow hb2)
        clear hbv hok htn z0 z1 z2 hgb
        rcases hgn : p.fGone with _ | _
        · rcases hok2.open (by simp) with ⟨hv, _⟩ | ⟨g2, cap2, cur2, Fs2, hv, hrow, hFF⟩
          · cases hv
          simp only [Value.slice.injEq, Option.some.injEq, Addr.mk.injEq, and_true] at hv
          obtain ⟨rfl, hnm, rfl⟩ := hv
          clear hnm
          have hE0 := Edit.start hrow i2 (Fs2.getD i2 [])
          obtain ⟨hsg, _, _, _, hfn⟩ := hrow.each i2 him
          rw [hsg] at hE0
          have q0 := hE0.cellAt (i := 0) (by omega) rfl
          have q1 := hE0.cellAt (i := 1) (by omega) rfl
          have q2 := hE0.cellAt (i := 2) (by omega) rfl
          have r0 := hE0.free (i2 * 3 + 0)
          have r1 := hE0.free (i2 * 3 + 1)
          have r2 := hE0.free (i2 * 3 + 2)
          rw [Nat.add_zero] at q0 r0
          have hE3 := ((hE0.set (i := 0) (by omega) (.string p.fKey)).set (i := 1) (by omega) (.string p.fVal)).set (i := 2) (by omega) (.bool p.fGone)
          rw [Nat.add_zero] at hE3
          have hed := OwnRow.edit oPair_good (m' := p) hrow him hE3 ⟨rfl, hs1, hs2, trivial, hfn⟩
          obtain ⟨⟨cur3, hrow3⟩, ht3⟩ := hed
          rw [pair_F hrow] at ht3
          have hok3 := hrow3.shut
          rw [pair_F hrow, List.length_set, HML.out] at hok3
          have ht4 := ht2.trans ht3
          rw [hgn] at hok3 ht4
          rw [hgn] at y2
          have HO3 := Hid.mk hok3
          have HT4 := Hid.mk ht4
          clear hok3 ht4 hrow hrow3 ht3 hE0 hE3 hsg hok2
          go_wp2_with fail
          go_roundw
          case rel =>
            refine ⟨i2 + 1, j + 1, m.set i2 p, by omega, by omega, by go_num, by go_num, by rw [List.length_set]; exact HML.out, HO3.out, ?_, ?_, HT4.out⟩
            · rw [HY.out hgn, ← HTK.out, List.take_succ_eq_append_getElem (by rw [List.length_set]; exact him), List.take_set_of_le (Nat.le_refl _), List.getElem_set_self]
            · rw [List.drop_set_of_lt (by omega)]
              have h := congrArg (List.drop 1) HDR.out
              rw [List.drop_drop, List.drop_drop] at h
              exact h
          case measure => simp [intOf]; omega
        · have HO2 := Hid.mk hok2
          have HT2 := Hid.mk ht2
          clear hok2 ht2
          go_wp2_with fail
          go_roundw
          case rel =>
            refine ⟨i2, j + 1, m, by omega, by omega, rfl, by go_num, HML.out, HO2.out, by rw [HN.out hgn]; exact HTK.out, ?_, HT2.out⟩
            have h := congrArg (List.drop 1) HDR.out
            rw [List.drop_drop, List.drop_drop] at h
            exact h
          case measure => simp [intOf]; omega
      · have hjn2 : j = n := by omega
        subst hjn2
        rcases hok.open (by simp) with ⟨hv, _⟩ | ⟨g2, cap2, cur2, Fs2, hv, hrow, hFF⟩
        · cases hv
        simp only [Value.slice.injEq, Option.some.injEq, Addr.mk.injEq, and_true] at hv
        obtain ⟨rfl, hnm, rfl⟩ := hv
        clear hnm
        have HTL : Hid (thereP l = m.take i2) := by
          show _ = _
          rw [HTK.out, List.take_of_length_le (by rw [HX.out]; exact Nat.le_refl _)]
        have hfit := hrow.fit
        obtain ⟨L, hLL⟩ : ∃ L, L = (Builtin.zeroCells (Value.agg #[.string ⟨#[]⟩, .string ⟨#[]⟩, .bool false]).cells (j - i2)).toList := ⟨_, rfl⟩
        have hL1 : L.length = 3 * (j - i2) := by rw [hLL]; simp [Builtin.zeroCells, Value.cells]; omega
        have hL2 : ∀ v ∈ L, v.oneCell' = true := by
          intro v hv
          rw [hLL] at hv
          unfold Builtin.zeroCells at hv
          rw [Array.toList_map, List.mem_map] at hv
          obtain ⟨t, _, rfl⟩ := hv
          show Value.oneCell' ((#[Value.string ⟨#[]⟩, .string ⟨#[]⟩, .bool false] : Array Value)[t % 3]!) = true
          have h3 : t % 3 = 0 ∨ t % 3 = 1 ∨ t % 3 = 2 := by omega
          rcases h3 with h | h | h <;> rw [h] <;> rfl
        have hcl : ∀ ty, (Builtin.clear_ #[27] ty #[.slice (some ⟨g, i2 * 3, none⟩) (j - i2) (c0 - i2)]).run Tryd.prog wr = .ok (.tuple #[]) (wr.setCells g (i2 * 3) L) := fun ty => by
          rw [hLL]
          exact run_clear3 wr _ _ ty _ Tryd.underlying27 zeroPair (by rw [← hLL]; exact hL2) g (i2 * 3) _ (by omega) (fun t ht => by rw [← hLL, hL1] at ht; rw [cell_of_row wr g _ cur2 _ (0, 0) hrow.heap, Array.getElem?_eq_getElem (by rw [hfit]; omega)]; rfl) (fun t ht => frozen_of_row wr g _ cur2 _ hrow.heap)
        obtain ⟨cur3, e1, e2, e3⟩ := setCells_rowK g L (i2 * 3) wr cur2 hrow.heap
        have hof := own_front hrow (i := i2) (by rw [HML.out]; omega) e1 e2 e3
        have htf := htn.trans (setCells_turn g L (i2 * 3) wr)
        have hci : ¬ c0 = i2 := by omega
        obtain ⟨wf, hwf⟩ : ∃ x, x = wr.setCells g (i2 * 3) L := ⟨_, rfl⟩
        rw [← hwf] at hcl hof htf
        clear hwf e1 e2 e3 hrow hok htn hLL hL1 hL2 hFF
        go_wp2_with fail
        go_ret
        exact ⟨_, rfl, by rw [HTL.out, HFE.out]; exact hof, by rw [HFE.out]; exact htf⟩

end Go.Proofs.YtiahmcclmlmgpaaDoor
