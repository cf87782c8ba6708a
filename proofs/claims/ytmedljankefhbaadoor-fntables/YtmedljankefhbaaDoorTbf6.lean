/-
  Part 7 of the texts that the proof leans on.
-/
import Derived.Test.YtmedljankefhbaaDoorTbf5
import Derived.Test.YtmedljankefhbaaDoorTbf2
import Derived.Test.YtmedljankefhbaaDoorTbf0
import Derived.Test.YtmedljankefhbaaDoorTbf3
import Derived.Test.YtmedljankefhbaaDoorTbf1
set_option linter.unusedVariables false
set_option linter.unusedSimpArgs false
set_option maxRecDepth 10000

namespace Go.Proofs.YtmedljankefhbaaDoor
open Go.RowKit Go.Maps

/-- The error that says 'no table', and an error that wraps it. -/
def errV (pe : Addr) : Value := .iface 141 (.pointer (some pe))
def partV (s : ByteArray) (pe : Addr) : Value := .iface 113 (.agg #[.string s, errV pe])
def ErrAt (w : World) (pe : Addr) : Prop := w.cell? ⟨0, 0, none⟩ = some (errV pe)
theorem ErrAt.below {w w' : World} {pe : Addr} (h : ErrAt w pe) (hb : Below w.heap.size w w') : ErrAt w' pe := (hb.cell (p := ⟨0, 0, none⟩) (World.block_lt_of_cell? _ _ h)).trans h
theorem ErrAt.turn {w w' : World} {pe : Addr} {F : List Nat} (h : ErrAt w pe) (ht : Turn F w w') (hF : ∀ b, b ∈ F → 0 < b) : ErrAt w' pe := (ht.cell (p := ⟨0, 0, none⟩) (World.block_lt_of_cell? _ _ h) (fun hm => Nat.lt_irrefl _ (hF _ hm))).trans h

set_option maxHeartbeats 400000 in
theorem noTable_any (s : ByteArray) (pe : Addr) (w : World) (hE : ErrAt w pe) :
    Calls Tryd.prog 40 #[.string s] w fun e w' => e = .returned (partV s pe) ∧ w' = w := by
  have h0 : w.cell? ⟨0, 0, none⟩ = some (errV pe) := hE
  unfold errV at h0
  go_enter Tryd.func40, Tryd.ntmps40
  go_wp2_with fail
  go_ret
  exact ⟨rfl, rfl⟩

theorem RdrAt.under {lo : Nat} {w w' : World} {b : Nat} {zs : List Int} {bad : Bool} (h : RdrAt lo w b zs bad) (hb : Below w.heap.size w w') : RdrAt lo w' b zs bad := by
  obtain ⟨a, c, h1, h2, h3, h4, h5⟩ := h
  exact ⟨a, c, h1.under hb, h2, h3, h4.below (hb.mono (Nat.le_of_lt h1.lt)), h5⟩
theorem RdrAt.lt {lo : Nat} {w : World} {b : Nat} {zs : List Int} {bad : Bool} (h : RdrAt lo w b zs bad) : b < w.heap.size := by
  obtain ⟨a, c, h1, _⟩ := h
  exact h1.lt
theorem restL_ok {ok : Bool} {zs : List Int} {q : Int} (h : BytesOk zs) : BytesOk (restL ok zs q) := by
  unfold restL
  split
  · exact fun z hz => h z (List.mem_of_mem_drop hz)
  · intro z hz; cases hz
theorem restL_len {ok : Bool} {zs : List Int} {q : Int} : (restL ok zs q).length ≤ zs.length := by
  unfold restL
  split
  · rw [List.length_drop]; omega
  · simp
theorem badB_no {ok bad : Bool} (h : badB ok bad = false) : ok = true ∧ bad = false := by
  unfold badB at h
  cases ok <;> simp_all

theorem Turn.less {F G : List Nat} {w w' : World} (h : Turn F w w') (hG : ∀ k, k ∈ F → k < w.heap.size → k ∈ G) : Turn G w w' := ⟨h.os, h.tape, h.output, h.size, fun b hb hn => h.block b hb (fun hm => hn (hG b hm hb))⟩
theorem turn_two {w w5 w7 : World} {b : Nat} (h : Turn [b] w w5) (k : Turn [w.heap.size] w5 w7) : Turn [b] w w7 := by
  have h2 := Turn.trans (F := [b, w.heap.size]) (h.mono (by intro k hk; simp at hk; simp [hk])) (k.mono (by intro k hk; simp at hk; simp [hk]))
  refine h2.less (fun k hk hkl => ?_)
  simp at hk
  rcases hk with rfl | rfl
  · simp
  · omega
theorem RdrAt.apart {lo : Nat} {w w' : World} {b g : Nat} {zs : List Int} {bad : Bool} (h : RdrAt lo w b zs bad) (ht : Turn [g] w w') (hg : b < g) : RdrAt lo w' b zs bad := by
  obtain ⟨a, c, h1, h2, h3, h4, h5⟩ := h
  have hl := h1.lt
  refine ⟨a, c, h1.turn ht (by simp; omega), h2, h3, fun j hj => ?_, h5⟩
  obtain ⟨b1, o1, e, hB, hc⟩ := h4 j hj
  exact ⟨b1, o1, e, hB, (ht.cell (p := ⟨b1, o1 + j, none⟩) (by show b1 < _; omega) (by simp; omega)).trans hc⟩
def PaPost (lo b : Nat) (zs : List Int) (ahead : ByteArray) (pe : Addr) (w : World) (e : Ending) (w' : World) : Prop :=
  Turn [b] w w' ∧ ((∃ p r, pairR zs ahead = some (p, r) ∧ e = .returned (.tuple #[.agg #[.string p.fKey, .string p.fVal, .bool p.fGone], .nilIface]) ∧ RdrAt lo w' b r false) ∨
    (pairR zs ahead = none ∧ ∃ s z bad, e = .returned (.tuple #[.agg #[.string ⟨#[]⟩, .string ⟨#[]⟩, .bool false], partV s pe]) ∧ RdrAt lo w' b z bad))

set_option maxHeartbeats 8000000 in
theorem pair_any (lo b : Nat) (zs : List Int) (ahead : ByteArray) (pe : Addr) (w : World) (h : RdrAt lo w b zs false) (hb : BytesOk zs) (hlen : zs.length ≤ 1048576) (ha : ahead.size ≤ 1048576) (hE : ErrAt w pe) (hgb : 0 < b) :
    Calls Tryd.prog 56 #[.pointer (some ⟨b, 0, none⟩), .string ahead] w (PaPost lo b zs ahead pe w) := by
  have hlb := h.lt
  obtain ⟨w1, hw1⟩ : ∃ x, x = w.alloc (.cells #[.string ⟨#[]⟩, .string ⟨#[]⟩, .bool false] 32) := ⟨_, rfl⟩
  have hb1 : Below w.heap.size w w1 := by rw [hw1]; exact (Below.refl _ _).alloc (Nat.le_refl _) _
  have hbx1 : Bw w1 w.heap.size 32 [.string ⟨#[]⟩, .string ⟨#[]⟩, .bool false] := by rw [hw1]; exact Bw.new' _ _ _ rfl
  have h1 := h.under hb1
  have HW1 := Hid.mk hw1
  clear hw1 h
  obtain ⟨G, hG⟩ : ∃ G, getNum zs 0 = G := ⟨_, rfl⟩
  obtain ⟨gn, gq, gok⟩ := G
  obtain ⟨T, hT⟩ : ∃ T, getText (restL gok zs gq) 0 = T := ⟨_, rfl⟩
  obtain ⟨tt, tq, tok⟩ := T
  obtain ⟨V, hV⟩ : ∃ V, getText (restL (flagOk (restL tok (restL gok zs gq) tq)) (restL tok (restL gok zs gq) tq) 1) 0 = V := ⟨_, rfl⟩
  obtain ⟨vt, vq, vok⟩ := V
  have e1 : pR1 zs = restL gok zs gq := by unfold pR1; rw [hG]
  have e2 : pR2 zs = restL tok (restL gok zs gq) tq := by unfold pR2; rw [e1, hT]
  have e3 : pR3 zs = restL (flagOk (restL tok (restL gok zs gq) tq)) (restL tok (restL gok zs gq) tq) 1 := by unfold pR3; rw [e2]
  have e4 : pR4 zs = restL vok (pR3 zs) vq := by unfold pR4; rw [e3, hV]
  rw [← e1] at hT
  rw [← e3] at hV
  have HPR : Hid (pairR zs ahead = if gok = true ∧ tok = true ∧ flagOk (pR2 zs) = true ∧ vok = true ∧ gn ≤ ahead.size then some (⟨ahead.extract 0 gn.toNat ++ strOfNums tt, strOfNums vt, flagOn (pR2 zs)⟩, pR4 zs) else none) := by
    show _ = _
    unfold pairR
    rw [hG, hT, hV]
  have hb2 : BytesOk (pR1 zs) := restL_ok hb
  have hb3 : BytesOk (pR2 zs) := restL_ok hb2
  have hb4 : BytesOk (pR3 zs) := restL_ok hb3
  have l2 : (pR1 zs).length ≤ 1048576 := Nat.le_trans restL_len hlen
  have l3 : (pR2 zs).length ≤ 1048576 := Nat.le_trans restL_len l2
  have l4 : (pR3 zs).length ≤ 1048576 := Nat.le_trans restL_len l3
  have c1 := fun W h => rdrNum_any (lo := lo) b zs false gn gq gok W hG h hb (by omega)
  rw [← e1] at c1
  have c2 := fun W bad h => rdrText_any (lo := lo) b (pR1 zs) bad tt tq tok W hT h hb2 (by omega)
  have c3 := fun W bad h => rdrFlag_any (lo := lo) b (pR2 zs) bad W h hb3
  have c4 := fun W bad h => rdrText_any (lo := lo) b (pR3 zs) bad vt vq vok W hV h hb4 (by omega)
  rw [show restL tok (pR1 zs) tq = pR2 zs from by rw [e1]; exact e2.symm] at c2
  rw [show restL (flagOk (pR2 zs)) (pR2 zs) 1 = pR3 zs from rfl] at c3
  rw [← e4] at c4
  have HGB : Hid (gok = true → 0 ≤ gn) := fun hk => by have := getNum_bounds (b := zs) (p := 0) (by rw [hG]; exact hk); rw [hG] at this; exact this.1
  have HTL1 : Hid (tt.length ≤ 1048576) := by have := HTL (pR1 zs) 0; rw [hT] at this; exact Nat.le_trans this l2
  clear e1 e2 e3 e4 hG hT hV
  go_enter Tryd.func56, Tryd.ntmps56
  go_wp2_with fail
  rw [← HW1.out]
  refine Calls.mono (c1 w1 h1) ?_
  rintro e w2 ⟨rfl, h2, t2⟩
  clear c1
  go_wp2_with fail
  refine Calls.mono (c2 w2 _ h2) ?_
  rintro e w3 ⟨rfl, h3, t3⟩
  clear c2
  go_wp2_with fail
  refine Calls.mono (c3 w3 _ h3) ?_
  rintro e w4 ⟨rfl, h4, t4⟩
  clear c3
  go_wp2_with fail
  refine Calls.mono (c4 w4 _ h4) ?_
  rintro e w5 ⟨rfl, h5, t5⟩
  clear c4
  have t15 : Turn [b] w1 w5 := ((t2.trans t3).trans t4).trans t5
  have hbx5 : Bw w5 w.heap.size 32 [.string ⟨#[]⟩, .string ⟨#[]⟩, .bool false] := hbx1.turn t15 (by simp; omega)
  have hE5 := (hE.below hb1).turn t15 (fun k hk => by simp at hk; omega)
  have tw5 : Turn [b] w w5 := (Turn.ofBelow hb1).trans t15
  have hlw : w.heap.size < w5.heap.size := hbx5.lt
  have y0 := hbx5.cell 0 _ rfl
  have y1 := hbx5.cell 1 _ rfl
  have y2 := hbx5.cell 2 _ rfl
  have f0 := hbx5.free 0
  have f1 := hbx5.free 1
  have f2 := hbx5.free 2
  have HR5 := Hid.mk h5
  obtain ⟨a5, c5, hbw5, _, _, _, _⟩ := h5
  have z1 := hbw5.cell 1 _ rfl
  have HE5 := Hid.mk hE5
  clear hbx1 h1 h2 h3 h4 t2 t3 t4 t5 t15 hE hb1
  generalize hbd : badB vok (badB (flagOk (pR2 zs)) (badB tok (badB gok false))) = bad at *
  cases bad with
  | true =>
    have HN : Hid (pairR zs ahead = none) := by
      show _ = _
      rw [HPR.out, if_neg]
      rintro ⟨g1, g2, g3, g4, _⟩
      rw [g1, g2, g3, g4] at hbd
      cases hbd
    clear hbd HPR
    go_wp2_with fail
    refine Calls.mono (noTable_any _ pe w5 HE5.out) ?_
    rintro e w5 ⟨rfl, rfl⟩
    obtain ⟨w7, hw7⟩ : ∃ x, x = ((w5.setCell ⟨w.heap.size, 0, none⟩ (.string ⟨#[]⟩)).setCell ⟨w.heap.size, 1, none⟩ (.string ⟨#[]⟩)).setCell ⟨w.heap.size, 2, none⟩ (.bool false) := ⟨_, rfl⟩
    have hT7 : Turn [w.heap.size] w5 w7 := by rw [hw7]; exact (((Turn.refl _ _).setCell (by simp) _).setCell (by simp) _).setCell (by simp) _
    have hb7 : Bw w7 w.heap.size 32 [.string ⟨#[]⟩, .string ⟨#[]⟩, .bool false] := by rw [hw7]; exact ((hbx5.put 0 _).put 1 _).put 2 _
    have HR7 := Hid.mk (HR5.out.apart hT7 hlb)
    have HT7 : Hid (Turn [b] w w7) := turn_two tw5 hT7
    have HW7 := Hid.mk hw7
    clear hw7
    unfold partV errV
    go_wp2_with fail
    rw [← HW7.out]
    have q0 := hb7.cell 0 _ rfl
    have q1 := hb7.cell 1 _ rfl
    have q2 := hb7.cell 2 _ rfl
    refine bodyPost_ret (v := .tuple #[.agg #[.string ⟨#[]⟩, .string ⟨#[]⟩, .bool false], partV ⟨#[98, 108, 111, 99, 107]⟩ pe]) (by simp [results, Tryd.results56, go_sem, partV, errV, *]) rfl ?_
    exact ⟨HT7.out, .inr ⟨HN.out, _, _, _, rfl, HR7.out⟩⟩
  | false =>
    obtain ⟨g4, hbd⟩ := badB_no hbd
    obtain ⟨g3, hbd⟩ := badB_no hbd
    obtain ⟨g2, hbd⟩ := badB_no hbd
    obtain ⟨g1, _⟩ := badB_no hbd
    have hgn := HGB.out g1
    by_cases hle : gn ≤ ahead.size
    · obtain ⟨gnn, hgnn⟩ : ∃ x : Nat, (x : Int) = gn := ⟨gn.toNat, by have := HGB.out g1; omega⟩
      subst hgnn
      have HY : Hid (pairR zs ahead = some (⟨ahead.extract 0 gnn ++ strOfNums tt, strOfNums vt, flagOn (pR2 zs)⟩, pR4 zs)) := by
        show _ = _
        rw [HPR.out, if_pos ⟨g1, g2, g3, g4, hle⟩, Int.toNat_natCast]
      have hse2 : ¬ 9223372036854775807 < gnn + (strOfNums tt).size := by rw [strOfNums_size]; have := HTL1.out; omega
      obtain ⟨w7, hw7⟩ : ∃ x, x = ((w5.setCell ⟨w.heap.size, 0, none⟩ (.string (ahead.extract 0 gnn ++ strOfNums tt))).setCell ⟨w.heap.size, 1, none⟩ (.string (strOfNums vt))).setCell ⟨w.heap.size, 2, none⟩ (.bool (flagOn (pR2 zs))) := ⟨_, rfl⟩
      have hT7 : Turn [w.heap.size] w5 w7 := by rw [hw7]; exact (((Turn.refl _ _).setCell (by simp) _).setCell (by simp) _).setCell (by simp) _
      have hb7 : Bw w7 w.heap.size 32 [.string (ahead.extract 0 gnn ++ strOfNums tt), .string (strOfNums vt), .bool (flagOn (pR2 zs))] := by rw [hw7]; exact ((hbx5.put 0 _).put 1 _).put 2 _
      have HR7 := Hid.mk (HR5.out.apart hT7 hlb)
      have HT7 : Hid (Turn [b] w w7) := turn_two tw5 hT7
      have HW7 := Hid.mk hw7
      clear hw7 HPR
      go_wp2_with fail
      rw [← HW7.out]
      have q0 := hb7.cell 0 _ rfl
      have q1 := hb7.cell 1 _ rfl
      have q2 := hb7.cell 2 _ rfl
      refine bodyPost_ret (v := .tuple #[.agg #[.string (ahead.extract 0 gnn ++ strOfNums tt), .string (strOfNums vt), .bool (flagOn (pR2 zs))], .nilIface]) (by simp [results, Tryd.results56, go_sem, *]) rfl ?_
      exact ⟨HT7.out, .inl ⟨_, _, HY.out, rfl, HR7.out⟩⟩
    · have HN : Hid (pairR zs ahead = none) := by
        show _ = _
        rw [HPR.out, if_neg]
        rintro ⟨_, _, _, _, h⟩
        exact hle h
      clear hbd HPR
      go_wp2_with fail
      refine Calls.mono (noTable_any _ pe w5 HE5.out) ?_
      rintro e w5 ⟨rfl, rfl⟩
      obtain ⟨w7, hw7⟩ : ∃ x, x = ((w5.setCell ⟨w.heap.size, 0, none⟩ (.string ⟨#[]⟩)).setCell ⟨w.heap.size, 1, none⟩ (.string ⟨#[]⟩)).setCell ⟨w.heap.size, 2, none⟩ (.bool false) := ⟨_, rfl⟩
      have hT7 : Turn [w.heap.size] w5 w7 := by rw [hw7]; exact (((Turn.refl _ _).setCell (by simp) _).setCell (by simp) _).setCell (by simp) _
      have hb7 : Bw w7 w.heap.size 32 [.string ⟨#[]⟩, .string ⟨#[]⟩, .bool false] := by rw [hw7]; exact ((hbx5.put 0 _).put 1 _).put 2 _
      have HR7 := Hid.mk (HR5.out.apart hT7 hlb)
      have HT7 : Hid (Turn [b] w w7) := turn_two tw5 hT7
      have HW7 := Hid.mk hw7
      clear hw7
      unfold partV errV
      go_wp2_with fail
      rw [← HW7.out]
      have q0 := hb7.cell 0 _ rfl
      have q1 := hb7.cell 1 _ rfl
      have q2 := hb7.cell 2 _ rfl
      refine bodyPost_ret (v := .tuple #[.agg #[.string ⟨#[]⟩, .string ⟨#[]⟩, .bool false], partV ⟨#[98, 108, 111, 99, 107]⟩ pe]) (by simp [results, Tryd.results56, go_sem, partV, errV, *]) rfl ?_
      exact ⟨HT7.out, .inr ⟨HN.out, _, _, _, rfl, HR7.out⟩⟩

end Go.Proofs.YtmedljankefhbaaDoor

namespace Go.Proofs.YtmedljankefhbaaDoor
open Go.RowKit
abbrev qb34_36_4_0 : Oper := ⟨some 10, .move (.tmp 0), 22, "l05_table.go:165", #[], none⟩
abbrev qb34_36_4_1 : Oper := ⟨some 11, .move (.tmp 1), 9, "l05_table.go:165", #[], none⟩
abbrev qb34_36_4_3 : Oper := ⟨some 13, .move (.tmp 7), 5, "l05_table.go:165", #[], none⟩
abbrev qb34_36_4_6 : Oper := ⟨some 16, .fieldAddr 32 (.tmp 5) 1, 0, "l05_table.go:165", #[], none⟩
abbrev qb34_36_4_7 : Oper := ⟨some 17, .load 9 (.tmp 16), 9, "l05_table.go:165", #[⟨6, .data⟩], none⟩
abbrev qb34_36_4_4 : Oper := ⟨some 14, .buildSlice 22 1 #[(0, .tmp 13)], 22, "l05_table.go:165", #[⟨3, .data⟩], none⟩
abbrev qb34_36_4_2 : Oper := ⟨some 12, .call { callee := .value (.func 37), args := #[.tmp 10, .tmp 11], argTypes := #[22, 9] }, 22, "l05_table.go:165", #[⟨0, .data⟩, ⟨1, .data⟩], none⟩
abbrev qb34_36_4_5 : Oper := ⟨some 15, .call { callee := .builtin .append, args := #[.tmp 12, .tmp 14], argTypes := #[22, 22] }, 22, "l05_table.go:165", #[⟨2, .data⟩, ⟨4, .data⟩, ⟨2, .chain⟩], none⟩
abbrev qb34_36_4_8 : Oper := ⟨some 18, .call { callee := .value (.func 37), args := #[.tmp 15, .tmp 17], argTypes := #[22, 9] }, 22, "l05_table.go:165", #[⟨5, .data⟩, ⟨7, .data⟩, ⟨5, .chain⟩], none⟩
abbrev qb34_36_4_9 : Oper := ⟨some 6, .assign (.tmp 18), 22, "l05_table.go:165", #[⟨8, .data⟩, ⟨8, .chain⟩, ⟨0, .phase⟩, ⟨1, .phase⟩, ⟨2, .phase⟩, ⟨3, .phase⟩, ⟨4, .phase⟩, ⟨5, .phase⟩, ⟨6, .phase⟩, ⟨7, .phase⟩, ⟨8, .phase⟩], none⟩

set_option maxHeartbeats 4000000 in
theorem putPair_any (a : Option Addr) (n cap : Nat) (zs : List Int) (s : ByteArray) (p : MPair) (w : World) (hx : zs.length = n) (hlen : n ≤ 100000000) (hr : Rd .u8 w.heap.size w a zs) (hs : s.size ≤ 1048576) (hsv : p.fVal.size ≤ 1048576) :
    Calls Tryd.prog 36 #[.slice a n cap, .string s, .agg #[.string p.fKey, .string p.fVal, .bool p.fGone]] w fun e w' => ∃ v, e = .returned v ∧
      w'.ownsRow w.heap.size 5 1 v (putText (putText zs s ++ [goneI p]) p.fVal).length ((putText (putText zs s ++ [goneI p]) p.fVal).map (Value.int .u8)) ∧ Below w.heap.size w w' := by
  obtain ⟨i0, hi, hz0, hz1, hz2⟩ := info_parts Tryd.info5
  have HI := Hid.mk (show _ ∧ _ ∧ _ ∧ _ from ⟨hi, hz0, hz1, hz2⟩)
  have HG : Hid (goneI p = if p.fGone then 1 else 0) := rfl
  obtain ⟨wq, hwq⟩ : ∃ x, x = w.alloc (.cells #[.string p.fKey, .string p.fVal, .bool p.fGone] 32) := ⟨_, rfl⟩
  have hbq : Below w.heap.size w wq := by rw [hwq]; exact (Below.refl _ _).alloc (Nat.le_refl _) _
  have hbx : Bx wq w.heap.size [.string p.fKey, .string p.fVal, .bool p.fGone] := by rw [hwq]; exact Bx.new _ _ _
  have HWQ := Hid.mk hwq
  clear hwq
  have hlq : w.heap.size < wq.heap.size := hbx.1
  have k1 := hbx.2 1 _ rfl
  have k2 := hbx.2 2 _ rfl
  have HC1 : Hid (∀ W, Below wq.heap.size wq W → W.cell? ⟨w.heap.size, 1, none⟩ = some (.string p.fVal)) := fun W hW => (hW.cell (p := ⟨w.heap.size, 1, none⟩) hlq).trans k1
  have HX := Hid.mk hx
  have HR := Hid.mk ((hr.below hbq).mono hbq.size)
  obtain ⟨z2, HZ2⟩ : ∃ z, Hid (z = putText zs s) := ⟨_, rfl⟩
  have hl2 : z2.length ≤ 102000000 := by rw [HZ2.out]; have := putText_len zs s; omega
  obtain ⟨z4, HZ4⟩ : ∃ z, Hid (z = z2 ++ [goneI p]) := ⟨_, rfl⟩
  have hl4 : z4.length ≤ 102000001 := by rw [HZ4.out, List.length_append]; simp; omega
  clear hx hi hz0 hz1 hz2 hr hbx
  go_enter Tryd.func36, Tryd.ntmps36
  rcases hgo : p.fGone with _ | _
  · rw [hgo] at HWQ
    go_wp2_with fail
    rw [← HWQ.out]
    have HG2 : Hid (goneI p = 0) := by unfold Hid; rw [HG.out, hgo]; rfl
    rw [hgo] at k2
    go_wp2_with fail
    refine wp_region_held_drew (S := fun W => W.cell? ⟨w.heap.size, 1, none⟩ = some (.string p.fVal) ∧ Below wq.heap.size wq W) (by kernel_rfl) (⟨k1, Below.drew (Below.refl _ _)⟩) (fun hHeld => ?_)
    obtain ⟨wS, hwS⟩ : ∃ wS, wS = wq.drew := ⟨_, rfl⟩
    rw [← hwS] at hHeld ⊢
    clear hwS
    refine tk 0 qb34_36_4_0 (some 10) (v := ?v1) rfl rfl (by kernel_rfl) hHeld (by rfl) (fun _ _ _ x => x) (fun w h => ?y1) ?_; (case y1 => (try dsimp only at h); go_simp; try (with_reducible rfl)); try simp only [Act.put, sa, s0, s1]
    refine tk 1 qb34_36_4_1 (some 11) (v := ?v2) rfl rfl (by kernel_rfl) hHeld (by rfl) (fun _ _ _ x => x) (fun w h => ?y2) ?_; (case y2 => (try dsimp only at h); go_simp; try (with_reducible rfl)); try simp only [Act.put, sa, s0, s1]
    refine tk 3 qb34_36_4_3 (some 13) (v := ?v3) rfl rfl (by kernel_rfl) hHeld (by rfl) (fun _ _ _ x => x) (fun w h => ?y3) ?_; (case y3 => (try dsimp only at h); go_simp; try (with_reducible rfl)); try simp only [Act.put, sa, s0, s1]
    refine tk 6 qb34_36_4_6 (some 16) (v := ?v4) rfl rfl (by kernel_rfl) hHeld (by rfl) (fun _ _ _ x => x) (fun w h => ?y4) ?_; (case y4 => (try dsimp only at h); go_simp; try (with_reducible rfl)); try simp only [Act.put, sa, s0, s1]
    refine tk 7 qb34_36_4_7 (some 17) (v := ?v5) rfl rfl (by kernel_rfl) hHeld (by rfl) (fun _ _ _ x => x) (fun w h => ?y5) ?_; (case y5 => (try dsimp only at h); go_simp; try (with_reducible rfl)); try simp only [Act.put, sa, s0, s1]
    refine wpAnyH_ready (rs := [2, 4]) (by kernel_rfl) (by simp) ?_
    refine (AllReadyH.cons (o := qb34_36_4_2) rfl (fun K hK => ?_) (AllReadyH.cons (o := qb34_36_4_4) rfl (fun K hK => ?_) AllReadyH.nil))
    · go_simp
      refine Calls.mono (implPutText_R a n cap zs s wS HX.out (by omega) ((HR.out.below hHeld.2).mono hHeld.2.size) (by omega)) ?_
      rintro e wE2 ⟨v2, rfl, ho2, hop2⟩
      rw [← HZ2.out] at ho2
      have HB2 := hHeld.2.trans (hop2.mono hHeld.2.size)
      have ho2' := own_base ho2 hHeld.2.size
      obtain ⟨r2, q2, rfl, _, _⟩ := own_rd rfl ho2'
      have HO2 := Hid.mk ho2'
      clear ho2 ho2'
      go_wp2_with fail
      refine hK.out _ _ (⟨HC1.out _ HB2, HB2⟩) (fun hHeld => ?_)
      clear hK K
      try simp only [Act.put, sa, s0, s1]
      refine wpAnyH_ready (rs := [4]) (by kernel_rfl) (by simp) ?_
      refine (AllReadyH.cons (o := qb34_36_4_4) rfl (fun K hK => ?_) AllReadyH.nil)
      · go_simp
        obtain ⟨wE4, hq4⟩ : ∃ x, x = wE2.alloc (.cells #[.int .u8 0] 5) := ⟨_, rfl⟩
        have hop4 : Below wE2.heap.size wE2 wE4 := by rw [hq4]; exact (Below.refl _ _).alloc (Nat.le_refl _) _
        have HB4 := hHeld.2.trans (hop4.mono hHeld.2.size)
        obtain ⟨g4, HG4⟩ : ∃ g, Hid (g = wE2.heap.size) := ⟨_, rfl⟩
        have HR4 : Hid (Rd .u8 wE4.heap.size wE4 (some ⟨g4, 0, none⟩) [0]) := by unfold Hid; rw [HG4.out, hq4]; simpa using rd_one .u8 wE2 0 5
        rw [← HG4.out]
        rw [← hq4]
        clear hq4
        refine hK.out _ _ (⟨HC1.out _ HB4, HB4⟩) (fun hHeld => ?_)
        clear hK K
        try simp only [Act.put, sa, s0, s1]
        refine wpAnyH_ready (rs := [5]) (by kernel_rfl) (by simp) ?_
        refine (AllReadyH.cons (o := qb34_36_4_5) rfl (fun K hK => ?_) AllReadyH.nil)
        · skip
          have HO5 := Hid.mk (own_below HO2.out (show Below wE2.heap.size wE2 wE4 from bthen (Below.refl _ _) hop4))
          refine step_append_src wE4 rfl _ _ 22 22 rfl wq.heap.size 5 i0 (.int .u8 0) 1 1 Tryd.underlying22 HI.out.1 HI.out.2.1 HI.out.2.2.1 HI.out.2.2.2 rfl (.slice r2 z2.length q2) z2.length (z2.map (Value.int .u8)) rfl HO5.out (.slice (some ⟨g4, 0, none⟩) 1 1) rfl 1 ([0].map (Value.int .u8)) (Src.rd Tryd.underlying22 rfl (HR4.out.below (show Below wE4.heap.size wE4 wE4 from Below.refl _ _))) (by unfold maxLen; omega) (by omega) hHeld.2.size ?_
          intro v5 wE5 ho5 hgr5 hat5
          have HB5 : Below wq.heap.size wq wE5 := hHeld.2.grown hgr5 hHeld.2.size (fun k h => (HO5.out.lt k h).1)
          have ho6 : wE5.ownsRow wq.heap.size 5 1 v5 z4.length (z4.map (Value.int .u8)) := own_congr ho5 (by rw [HZ4.out, HG2.out]; simp) (by rw [HZ4.out, HG2.out]; simp)
          obtain ⟨r5, q5, rfl, _, hr5⟩ := own_rd rfl ho6
          clear ho5 hgr5 hat5 ho6
          refine hK.out _ _ (⟨HC1.out _ HB5, HB5⟩) (fun hHeld => ?_)
          clear hK K
          try simp only [Act.put, sa, s0, s1]
          refine wpAnyH_ready (rs := [8]) (by kernel_rfl) (by simp) ?_
          refine (AllReadyH.cons (o := qb34_36_4_8) rfl (fun K hK => ?_) AllReadyH.nil)
          · go_simp
            refine Calls.mono (implPutText_R r5 _ q5 z4 p.fVal wE5 rfl (by omega) hr5 (by omega)) ?_
            rintro e wE8 ⟨v8, rfl, ho8, hop8⟩
            have HB8 := hHeld.2.trans (hop8.mono hHeld.2.size)
            have HO8 := Hid.mk (own_base ho8 (Nat.le_trans hbq.size hHeld.2.size))
            clear ho8
            go_wp2_with fail
            refine hK.out _ _ (⟨HC1.out _ HB8, HB8⟩) (fun hHeld => ?_)
            clear hK K
            try simp only [Act.put, sa, s0, s1]
            refine tk 9 qb34_36_4_9 (some 6) (v := ?v6) rfl rfl (by kernel_rfl) hHeld (by rfl) (fun _ _ _ x => x) (fun w h => ?y6) ?_; (case y6 => (try dsimp only at h); go_simp; try (with_reducible rfl)); try simp only [Act.put, sa, s0, s1]
            refine wpAnyH_done (by kernel_rfl) ?_ _
            go_wp2_with fail
            go_ret
            exact ⟨v8, rfl, by have h := HO8.out; rw [HZ4.out, HZ2.out] at h; exact h, hbq.trans (HB8.mono hbq.size)⟩
    · go_simp
      obtain ⟨wE4, hq4⟩ : ∃ x, x = wS.alloc (.cells #[.int .u8 0] 5) := ⟨_, rfl⟩
      have hop4 : Below wS.heap.size wS wE4 := by rw [hq4]; exact (Below.refl _ _).alloc (Nat.le_refl _) _
      have HB4 := hHeld.2.trans (hop4.mono hHeld.2.size)
      obtain ⟨g4, HG4⟩ : ∃ g, Hid (g = wS.heap.size) := ⟨_, rfl⟩
      have HR4 : Hid (Rd .u8 wE4.heap.size wE4 (some ⟨g4, 0, none⟩) [0]) := by unfold Hid; rw [HG4.out, hq4]; simpa using rd_one .u8 wS 0 5
      rw [← HG4.out]
      rw [← hq4]
      clear hq4
      refine hK.out _ _ (⟨HC1.out _ HB4, HB4⟩) (fun hHeld => ?_)
      clear hK K
      try simp only [Act.put, sa, s0, s1]
      refine wpAnyH_ready (rs := [2]) (by kernel_rfl) (by simp) ?_
      refine (AllReadyH.cons (o := qb34_36_4_2) rfl (fun K hK => ?_) AllReadyH.nil)
      · go_simp
        refine Calls.mono (implPutText_R a n cap zs s wE4 HX.out (by omega) ((HR.out.below hHeld.2).mono hHeld.2.size) (by omega)) ?_
        rintro e wE2 ⟨v2, rfl, ho2, hop2⟩
        rw [← HZ2.out] at ho2
        have HB2 := hHeld.2.trans (hop2.mono hHeld.2.size)
        have ho2' := own_base ho2 hHeld.2.size
        obtain ⟨r2, q2, rfl, _, _⟩ := own_rd rfl ho2'
        have HO2 := Hid.mk ho2'
        clear ho2 ho2'
        go_wp2_with fail
        refine hK.out _ _ (⟨HC1.out _ HB2, HB2⟩) (fun hHeld => ?_)
        clear hK K
        try simp only [Act.put, sa, s0, s1]
        refine wpAnyH_ready (rs := [5]) (by kernel_rfl) (by simp) ?_
        refine (AllReadyH.cons (o := qb34_36_4_5) rfl (fun K hK => ?_) AllReadyH.nil)
        · skip
          have HO5 := Hid.mk (own_below HO2.out (show Below wE2.heap.size wE2 wE2 from Below.refl _ _))
          refine step_append_src wE2 rfl _ _ 22 22 rfl wq.heap.size 5 i0 (.int .u8 0) 1 1 Tryd.underlying22 HI.out.1 HI.out.2.1 HI.out.2.2.1 HI.out.2.2.2 rfl (.slice r2 z2.length q2) z2.length (z2.map (Value.int .u8)) rfl HO5.out (.slice (some ⟨g4, 0, none⟩) 1 1) rfl 1 ([0].map (Value.int .u8)) (Src.rd Tryd.underlying22 rfl (HR4.out.below (show Below wE4.heap.size wE4 wE2 from bthen (Below.refl _ _) hop2))) (by unfold maxLen; omega) (by omega) hHeld.2.size ?_
          intro v5 wE5 ho5 hgr5 hat5
          have HB5 : Below wq.heap.size wq wE5 := hHeld.2.grown hgr5 hHeld.2.size (fun k h => (HO5.out.lt k h).1)
          have ho6 : wE5.ownsRow wq.heap.size 5 1 v5 z4.length (z4.map (Value.int .u8)) := own_congr ho5 (by rw [HZ4.out, HG2.out]; simp) (by rw [HZ4.out, HG2.out]; simp)
          obtain ⟨r5, q5, rfl, _, hr5⟩ := own_rd rfl ho6
          clear ho5 hgr5 hat5 ho6
          refine hK.out _ _ (⟨HC1.out _ HB5, HB5⟩) (fun hHeld => ?_)
          clear hK K
          try simp only [Act.put, sa, s0, s1]
          refine wpAnyH_ready (rs := [8]) (by kernel_rfl) (by simp) ?_
          refine (AllReadyH.cons (o := qb34_36_4_8) rfl (fun K hK => ?_) AllReadyH.nil)
          · go_simp
            refine Calls.mono (implPutText_R r5 _ q5 z4 p.fVal wE5 rfl (by omega) hr5 (by omega)) ?_
            rintro e wE8 ⟨v8, rfl, ho8, hop8⟩
            have HB8 := hHeld.2.trans (hop8.mono hHeld.2.size)
            have HO8 := Hid.mk (own_base ho8 (Nat.le_trans hbq.size hHeld.2.size))
            clear ho8
            go_wp2_with fail
            refine hK.out _ _ (⟨HC1.out _ HB8, HB8⟩) (fun hHeld => ?_)
            clear hK K
            try simp only [Act.put, sa, s0, s1]
            refine tk 9 qb34_36_4_9 (some 6) (v := ?v7) rfl rfl (by kernel_rfl) hHeld (by rfl) (fun _ _ _ x => x) (fun w h => ?y7) ?_; (case y7 => (try dsimp only at h); go_simp; try (with_reducible rfl)); try simp only [Act.put, sa, s0, s1]
            refine wpAnyH_done (by kernel_rfl) ?_ _
            go_wp2_with fail
            go_ret
            exact ⟨v8, rfl, by have h := HO8.out; rw [HZ4.out, HZ2.out] at h; exact h, hbq.trans (HB8.mono hbq.size)⟩
  · rw [hgo] at HWQ
    go_wp2_with fail
    rw [← HWQ.out]
    have HG2 : Hid (goneI p = 1) := by unfold Hid; rw [HG.out, hgo]; rfl
    rw [hgo] at k2
    go_wp2_with fail
    refine wp_region_held_drew (S := fun W => W.cell? ⟨w.heap.size, 1, none⟩ = some (.string p.fVal) ∧ Below wq.heap.size wq W) (by kernel_rfl) (⟨k1, Below.drew (Below.refl _ _)⟩) (fun hHeld => ?_)
    obtain ⟨wS, hwS⟩ : ∃ wS, wS = wq.drew := ⟨_, rfl⟩
    rw [← hwS] at hHeld ⊢
    clear hwS
    refine tk 0 qb34_36_4_0 (some 10) (v := ?v8) rfl rfl (by kernel_rfl) hHeld (by rfl) (fun _ _ _ x => x) (fun w h => ?y8) ?_; (case y8 => (try dsimp only at h); go_simp; try (with_reducible rfl)); try simp only [Act.put, sa, s0, s1]
    refine tk 1 qb34_36_4_1 (some 11) (v := ?v9) rfl rfl (by kernel_rfl) hHeld (by rfl) (fun _ _ _ x => x) (fun w h => ?y9) ?_; (case y9 => (try dsimp only at h); go_simp; try (with_reducible rfl)); try simp only [Act.put, sa, s0, s1]
    refine tk 3 qb34_36_4_3 (some 13) (v := ?v10) rfl rfl (by kernel_rfl) hHeld (by rfl) (fun _ _ _ x => x) (fun w h => ?y10) ?_; (case y10 => (try dsimp only at h); go_simp; try (with_reducible rfl)); try simp only [Act.put, sa, s0, s1]
    refine tk 6 qb34_36_4_6 (some 16) (v := ?v11) rfl rfl (by kernel_rfl) hHeld (by rfl) (fun _ _ _ x => x) (fun w h => ?y11) ?_; (case y11 => (try dsimp only at h); go_simp; try (with_reducible rfl)); try simp only [Act.put, sa, s0, s1]
    refine tk 7 qb34_36_4_7 (some 17) (v := ?v12) rfl rfl (by kernel_rfl) hHeld (by rfl) (fun _ _ _ x => x) (fun w h => ?y12) ?_; (case y12 => (try dsimp only at h); go_simp; try (with_reducible rfl)); try simp only [Act.put, sa, s0, s1]
    refine wpAnyH_ready (rs := [2, 4]) (by kernel_rfl) (by simp) ?_
    refine (AllReadyH.cons (o := qb34_36_4_2) rfl (fun K hK => ?_) (AllReadyH.cons (o := qb34_36_4_4) rfl (fun K hK => ?_) AllReadyH.nil))
    · go_simp
      refine Calls.mono (implPutText_R a n cap zs s wS HX.out (by omega) ((HR.out.below hHeld.2).mono hHeld.2.size) (by omega)) ?_
      rintro e wE2 ⟨v2, rfl, ho2, hop2⟩
      rw [← HZ2.out] at ho2
      have HB2 := hHeld.2.trans (hop2.mono hHeld.2.size)
      have ho2' := own_base ho2 hHeld.2.size
      obtain ⟨r2, q2, rfl, _, _⟩ := own_rd rfl ho2'
      have HO2 := Hid.mk ho2'
      clear ho2 ho2'
      go_wp2_with fail
      refine hK.out _ _ (⟨HC1.out _ HB2, HB2⟩) (fun hHeld => ?_)
      clear hK K
      try simp only [Act.put, sa, s0, s1]
      refine wpAnyH_ready (rs := [4]) (by kernel_rfl) (by simp) ?_
      refine (AllReadyH.cons (o := qb34_36_4_4) rfl (fun K hK => ?_) AllReadyH.nil)
      · go_simp
        obtain ⟨wE4, hq4⟩ : ∃ x, x = wE2.alloc (.cells #[.int .u8 1] 5) := ⟨_, rfl⟩
        have hop4 : Below wE2.heap.size wE2 wE4 := by rw [hq4]; exact (Below.refl _ _).alloc (Nat.le_refl _) _
        have HB4 := hHeld.2.trans (hop4.mono hHeld.2.size)
        obtain ⟨g4, HG4⟩ : ∃ g, Hid (g = wE2.heap.size) := ⟨_, rfl⟩
        have HR4 : Hid (Rd .u8 wE4.heap.size wE4 (some ⟨g4, 0, none⟩) [1]) := by unfold Hid; rw [HG4.out, hq4]; simpa using rd_one .u8 wE2 1 5
        rw [← HG4.out]
        rw [← hq4]
        clear hq4
        refine hK.out _ _ (⟨HC1.out _ HB4, HB4⟩) (fun hHeld => ?_)
        clear hK K
        try simp only [Act.put, sa, s0, s1]
        refine wpAnyH_ready (rs := [5]) (by kernel_rfl) (by simp) ?_
        refine (AllReadyH.cons (o := qb34_36_4_5) rfl (fun K hK => ?_) AllReadyH.nil)
        · skip
          have HO5 := Hid.mk (own_below HO2.out (show Below wE2.heap.size wE2 wE4 from bthen (Below.refl _ _) hop4))
          refine step_append_src wE4 rfl _ _ 22 22 rfl wq.heap.size 5 i0 (.int .u8 0) 1 1 Tryd.underlying22 HI.out.1 HI.out.2.1 HI.out.2.2.1 HI.out.2.2.2 rfl (.slice r2 z2.length q2) z2.length (z2.map (Value.int .u8)) rfl HO5.out (.slice (some ⟨g4, 0, none⟩) 1 1) rfl 1 ([1].map (Value.int .u8)) (Src.rd Tryd.underlying22 rfl (HR4.out.below (show Below wE4.heap.size wE4 wE4 from Below.refl _ _))) (by unfold maxLen; omega) (by omega) hHeld.2.size ?_
          intro v5 wE5 ho5 hgr5 hat5
          have HB5 : Below wq.heap.size wq wE5 := hHeld.2.grown hgr5 hHeld.2.size (fun k h => (HO5.out.lt k h).1)
          have ho6 : wE5.ownsRow wq.heap.size 5 1 v5 z4.length (z4.map (Value.int .u8)) := own_congr ho5 (by rw [HZ4.out, HG2.out]; simp) (by rw [HZ4.out, HG2.out]; simp)
          obtain ⟨r5, q5, rfl, _, hr5⟩ := own_rd rfl ho6
          clear ho5 hgr5 hat5 ho6
          refine hK.out _ _ (⟨HC1.out _ HB5, HB5⟩) (fun hHeld => ?_)
          clear hK K
          try simp only [Act.put, sa, s0, s1]
          refine wpAnyH_ready (rs := [8]) (by kernel_rfl) (by simp) ?_
          refine (AllReadyH.cons (o := qb34_36_4_8) rfl (fun K hK => ?_) AllReadyH.nil)
          · go_simp
            refine Calls.mono (implPutText_R r5 _ q5 z4 p.fVal wE5 rfl (by omega) hr5 (by omega)) ?_
            rintro e wE8 ⟨v8, rfl, ho8, hop8⟩
            have HB8 := hHeld.2.trans (hop8.mono hHeld.2.size)
            have HO8 := Hid.mk (own_base ho8 (Nat.le_trans hbq.size hHeld.2.size))
            clear ho8
            go_wp2_with fail
            refine hK.out _ _ (⟨HC1.out _ HB8, HB8⟩) (fun hHeld => ?_)
            clear hK K
            try simp only [Act.put, sa, s0, s1]
            refine tk 9 qb34_36_4_9 (some 6) (v := ?v13) rfl rfl (by kernel_rfl) hHeld (by rfl) (fun _ _ _ x => x) (fun w h => ?y13) ?_; (case y13 => (try dsimp only at h); go_simp; try (with_reducible rfl)); try simp only [Act.put, sa, s0, s1]
            refine wpAnyH_done (by kernel_rfl) ?_ _
            go_wp2_with fail
            go_ret
            exact ⟨v8, rfl, by have h := HO8.out; rw [HZ4.out, HZ2.out] at h; exact h, hbq.trans (HB8.mono hbq.size)⟩
    · go_simp
      obtain ⟨wE4, hq4⟩ : ∃ x, x = wS.alloc (.cells #[.int .u8 1] 5) := ⟨_, rfl⟩
      have hop4 : Below wS.heap.size wS wE4 := by rw [hq4]; exact (Below.refl _ _).alloc (Nat.le_refl _) _
      have HB4 := hHeld.2.trans (hop4.mono hHeld.2.size)
      obtain ⟨g4, HG4⟩ : ∃ g, Hid (g = wS.heap.size) := ⟨_, rfl⟩
      have HR4 : Hid (Rd .u8 wE4.heap.size wE4 (some ⟨g4, 0, none⟩) [1]) := by unfold Hid; rw [HG4.out, hq4]; simpa using rd_one .u8 wS 1 5
      rw [← HG4.out]
      rw [← hq4]
      clear hq4
      refine hK.out _ _ (⟨HC1.out _ HB4, HB4⟩) (fun hHeld => ?_)
      clear hK K
      try simp only [Act.put, sa, s0, s1]
      refine wpAnyH_ready (rs := [2]) (by kernel_rfl) (by simp) ?_
      refine (AllReadyH.cons (o := qb34_36_4_2) rfl (fun K hK => ?_) AllReadyH.nil)
      · go_simp
        refine Calls.mono (implPutText_R a n cap zs s wE4 HX.out (by omega) ((HR.out.below hHeld.2).mono hHeld.2.size) (by omega)) ?_
        rintro e wE2 ⟨v2, rfl, ho2, hop2⟩
        rw [← HZ2.out] at ho2
        have HB2 := hHeld.2.trans (hop2.mono hHeld.2.size)
        have ho2' := own_base ho2 hHeld.2.size
        obtain ⟨r2, q2, rfl, _, _⟩ := own_rd rfl ho2'
        have HO2 := Hid.mk ho2'
        clear ho2 ho2'
        go_wp2_with fail
        refine hK.out _ _ (⟨HC1.out _ HB2, HB2⟩) (fun hHeld => ?_)
        clear hK K
        try simp only [Act.put, sa, s0, s1]
        refine wpAnyH_ready (rs := [5]) (by kernel_rfl) (by simp) ?_
        refine (AllReadyH.cons (o := qb34_36_4_5) rfl (fun K hK => ?_) AllReadyH.nil)
        · skip
          have HO5 := Hid.mk (own_below HO2.out (show Below wE2.heap.size wE2 wE2 from Below.refl _ _))
          refine step_append_src wE2 rfl _ _ 22 22 rfl wq.heap.size 5 i0 (.int .u8 0) 1 1 Tryd.underlying22 HI.out.1 HI.out.2.1 HI.out.2.2.1 HI.out.2.2.2 rfl (.slice r2 z2.length q2) z2.length (z2.map (Value.int .u8)) rfl HO5.out (.slice (some ⟨g4, 0, none⟩) 1 1) rfl 1 ([1].map (Value.int .u8)) (Src.rd Tryd.underlying22 rfl (HR4.out.below (show Below wE4.heap.size wE4 wE2 from bthen (Below.refl _ _) hop2))) (by unfold maxLen; omega) (by omega) hHeld.2.size ?_
          intro v5 wE5 ho5 hgr5 hat5
          have HB5 : Below wq.heap.size wq wE5 := hHeld.2.grown hgr5 hHeld.2.size (fun k h => (HO5.out.lt k h).1)
          have ho6 : wE5.ownsRow wq.heap.size 5 1 v5 z4.length (z4.map (Value.int .u8)) := own_congr ho5 (by rw [HZ4.out, HG2.out]; simp) (by rw [HZ4.out, HG2.out]; simp)
          obtain ⟨r5, q5, rfl, _, hr5⟩ := own_rd rfl ho6
          clear ho5 hgr5 hat5 ho6
          refine hK.out _ _ (⟨HC1.out _ HB5, HB5⟩) (fun hHeld => ?_)
          clear hK K
          try simp only [Act.put, sa, s0, s1]
          refine wpAnyH_ready (rs := [8]) (by kernel_rfl) (by simp) ?_
          refine (AllReadyH.cons (o := qb34_36_4_8) rfl (fun K hK => ?_) AllReadyH.nil)
          · go_simp
            refine Calls.mono (implPutText_R r5 _ q5 z4 p.fVal wE5 rfl (by omega) hr5 (by omega)) ?_
            rintro e wE8 ⟨v8, rfl, ho8, hop8⟩
            have HB8 := hHeld.2.trans (hop8.mono hHeld.2.size)
            have HO8 := Hid.mk (own_base ho8 (Nat.le_trans hbq.size hHeld.2.size))
            clear ho8
            go_wp2_with fail
            refine hK.out _ _ (⟨HC1.out _ HB8, HB8⟩) (fun hHeld => ?_)
            clear hK K
            try simp only [Act.put, sa, s0, s1]
            refine tk 9 qb34_36_4_9 (some 6) (v := ?v14) rfl rfl (by kernel_rfl) hHeld (by rfl) (fun _ _ _ x => x) (fun w h => ?y14) ?_; (case y14 => (try dsimp only at h); go_simp; try (with_reducible rfl)); try simp only [Act.put, sa, s0, s1]
            refine wpAnyH_done (by kernel_rfl) ?_ _
            go_wp2_with fail
            go_ret
            exact ⟨v8, rfl, by have h := HO8.out; rw [HZ4.out, HZ2.out] at h; exact h, hbq.trans (HB8.mono hbq.size)⟩

abbrev qa49_19_7_0 : Oper := ⟨some 18, .move (.tmp 3), 22, "l05_table.go:144", #[], none⟩
abbrev qa49_19_7_1 : Oper := ⟨some 19, .move (.tmp 7), 3, "l05_table.go:144", #[], none⟩
abbrev qa49_19_7_4 : Oper := ⟨some 22, .fieldAddr 32 (.tmp 6) 0, 0, "l05_table.go:144", #[], none⟩
abbrev qa49_19_7_5 : Oper := ⟨some 23, .load 9 (.tmp 22), 9, "l05_table.go:144", #[⟨4, .data⟩], none⟩
abbrev qa49_19_7_6 : Oper := ⟨some 24, .move (.tmp 7), 3, "l05_table.go:144", #[], none⟩
abbrev qa49_19_7_7 : Oper := ⟨some 25, .slice 9 (.tmp 23) (some (.tmp 24)) none none, 9, "l05_table.go:144", #[⟨5, .data⟩, ⟨6, .data⟩], none⟩
abbrev qa49_19_7_8 : Oper := ⟨some 26, .load 32 (.tmp 6), 32, "l05_table.go:144", #[], none⟩
abbrev qa49_19_7_2 : Oper := ⟨some 20, .buildSlice 104 1 #[(0, .tmp 19)], 104, "l05_table.go:144", #[⟨1, .data⟩], none⟩
abbrev qa49_19_7_3 : Oper := ⟨some 21, .call { callee := .value (.func 34), args := #[.tmp 18, .tmp 20], argTypes := #[22, 104] }, 22, "l05_table.go:144", #[⟨0, .data⟩, ⟨2, .data⟩], none⟩
abbrev qa49_19_7_9 : Oper := ⟨some 27, .call { callee := .value (.func 36), args := #[.tmp 21, .tmp 25, .tmp 26], argTypes := #[22, 9, 32] }, 22, "l05_table.go:144", #[⟨3, .data⟩, ⟨7, .data⟩, ⟨8, .data⟩, ⟨3, .chain⟩], none⟩
abbrev qa49_19_7_10 : Oper := ⟨some 3, .assign (.tmp 27), 22, "l05_table.go:144", #[⟨9, .data⟩, ⟨9, .chain⟩, ⟨0, .phase⟩, ⟨1, .phase⟩, ⟨2, .phase⟩, ⟨3, .phase⟩, ⟨4, .phase⟩, ⟨5, .phase⟩, ⟨6, .phase⟩, ⟨7, .phase⟩, ⟨8, .phase⟩, ⟨9, .phase⟩], none⟩

theorem own_nil (w : World) (base e size : Nat) (h : base ≤ w.heap.size) : w.ownsRow base e size (.slice none 0 0) 0 [] := ⟨by simp, .inl ⟨rfl, rfl⟩⟩

set_option maxHeartbeats 4000000 in
theorem blockBody_any (a : Option Addr) (n c : Nat) (l : List MPair) (w : World) (hx : l.length = n) (hn : n ≤ 1048576) (hL : LeafL 3 rPair w.heap.size w a c l) (hw : sumW wPair l ≤ 1048576) :
    Calls Tryd.prog 19 #[.slice a n c] w fun e w' => ∃ v, e = .returned v ∧
      w'.ownsRow w.heap.size 5 1 v (blockB ByteArray.empty l).length ((blockB ByteArray.empty l).map (Value.int .u8)) ∧ Below w.heap.size w w' := by
  have HX := Hid.mk hx
  have HL := Hid.mk hL
  have hbd := fun k => blockB_bd (l := l) (B := 33554432) (by omega) k
  clear hx hL
  go_enter Tryd.func19, Tryd.ntmps19
  go_wp2_with fail
  go_loopw [3, 4, 10] (fun b last i wr => ∃ k : Nat, k ≤ n ∧ i = .int .i64 k ∧ last = .string (lastK ByteArray.empty (l.take k)) ∧ wr.ownsRow w.heap.size 5 1 b (blockB ByteArray.empty (l.take k)).length ((blockB ByteArray.empty (l.take k)).map (Value.int .u8)) ∧ Below w.heap.size w wr) (fun _ _ i _ => n - (intOf i).toNat)
  case atStart => exact ⟨0, Nat.zero_le _, rfl, rfl, own_nil w _ _ 1 (Nat.le_refl _), Below.refl _ _⟩
  case round =>
    obtain ⟨k, hk, rfl, rfl, hownk, hbk⟩ := hrel
    by_cases hlt : k < n
    · have hkl : k < l.length := by rw [HX.out]; exact hlt
      have HS := Hid.mk (blockB_step hkl)
      have HK := Hid.mk (lastK_step hkl)
      have hlk := lastK_small hw k
      have hzl := hbd k
      have hwk := sumW_le (f := wPair) hkl
      obtain ⟨b1, o1, rfl, hbB, cs, hcl, hcell, hrT⟩ := (HL.out.2.2.below rPair_good hbk) k hkl
      have HSP : Hid (wPair l[k] = l[k].fKey.size + l[k].fVal.size) := rfl
      have HPP := Hid.mk (pair_put (blockB ByteArray.empty (l.take k)) (lastK ByteArray.empty (l.take k)) l[k])
      generalize l[k] = p at *
      obtain ⟨rfl, h0, h1, h2, _⟩ := hrT
      have hsk : p.fKey.size ≤ 1048576 := by have := HSP.out; omega
      have hsv : p.fVal.size ≤ 1048576 := by have := HSP.out; omega
      have k0 := hcell 0 _ rfl
      have k1 := hcell 1 _ rfl
      have k2 := hcell 2 _ rfl
      rw [Nat.add_zero] at k0
      clear hcell hcl
      generalize blockB ByteArray.empty (l.take k) = zs at *
      generalize lastK ByteArray.empty (l.take k) = lk at *
      obtain ⟨ra, qa, rfl, _, hrd⟩ := own_rd rfl hownk
      have HRD := Hid.mk hrd
      clear hownk hrd
      obtain ⟨wp, hwp⟩ : ∃ wp, wp = wr.alloc (.cells #[.string p.fKey, .string p.fVal, .bool p.fGone] 32) := ⟨_, rfl⟩
      have hbp : Below wr.heap.size wr wp := by rw [hwp]; exact (Below.refl _ _).alloc (Nat.le_refl _) _
      have hbv : Bx wp wr.heap.size [.string p.fKey, .string p.fVal, .bool p.fGone] := by rw [hwp]; exact Bx.new _ _ _
      go_wp2_with fail
      rw [← hwp]
      clear hwp k0 k1 k2
      refine (implCom_any lk p.fKey wp (by omega) (by omega)).mono ?_
      rintro e w1 ⟨rfl, hx1⟩
      have hb1 := bthen hbp hx1
      have hB1 := hbk.trans (hb1.mono hbk.size)
      have hbv1 := hbv.under hx1
      have hcm := com_le lk p.fKey
      generalize com lk p.fKey = q at *
      have hR1 := (HRD.out.below hb1).mono hb1.size
      obtain ⟨g, hg⟩ : ∃ g, g = wr.heap.size := ⟨_, rfl⟩
      rw [← hg] at hbv1 ⊢
      have hgl := hbv1.1
      clear hbv hg
      have y0 := hbv1.2 0 _ rfl
      have y1 := hbv1.2 1 _ rfl
      have y2 := hbv1.2 2 _ rfl
      have HC : Hid (∀ W, Below w1.heap.size w1 W → W.cell? ⟨g, 0, none⟩ = some (.string p.fKey) ∧ W.cell? ⟨g, 1, none⟩ = some (.string p.fVal) ∧ W.cell? ⟨g, 2, none⟩ = some (.bool p.fGone)) := fun W hW =>
        ⟨(hW.cell (p := ⟨g, 0, none⟩) hgl).trans y0, (hW.cell (p := ⟨g, 1, none⟩) hgl).trans y1, (hW.cell (p := ⟨g, 2, none⟩) hgl).trans y2⟩
      obtain ⟨y, HY⟩ : ∃ y, Hid (y = p.fKey.extract q p.fKey.size) := ⟨_, rfl⟩
      have hys : y.size ≤ 1048576 := by rw [HY.out]; have := ext_size p.fKey q; omega
      have hpl := putNum_length (clampN q)
      obtain ⟨z2, HZ2⟩ : ∃ z, Hid (z = zs ++ putNum (clampN q)) := ⟨_, rfl⟩
      have hl2 : z2.length ≤ 33554437 := by rw [HZ2.out, List.length_append]; omega
      go_wp2_with fail
      refine wp_region_held_drew (S := fun W => (W.cell? ⟨g, 0, none⟩ = some (.string p.fKey) ∧ W.cell? ⟨g, 1, none⟩ = some (.string p.fVal) ∧ W.cell? ⟨g, 2, none⟩ = some (.bool p.fGone)) ∧ Below w1.heap.size w1 W) (by kernel_rfl) (⟨⟨y0, y1, y2⟩, Below.drew (Below.refl _ _)⟩) (fun hHeld => ?_)
      refine tk 0 qa49_19_7_0 (some 18) (v := ?v1) rfl rfl (by kernel_rfl) hHeld (by rfl) (fun _ _ _ x => x) (fun w h => ?y1) ?_; (case y1 => (try dsimp only at h); go_simp; try (with_reducible rfl)); try simp only [Act.put, sa, s0, s1]
      refine tk 1 qa49_19_7_1 (some 19) (v := ?v2) rfl rfl (by kernel_rfl) hHeld (by rfl) (fun _ _ _ x => x) (fun w h => ?y2) ?_; (case y2 => (try dsimp only at h); go_simp; try (with_reducible rfl)); try simp only [Act.put, sa, s0, s1]
      refine tk 4 qa49_19_7_4 (some 22) (v := ?v3) rfl rfl (by kernel_rfl) hHeld (by rfl) (fun _ _ _ x => x) (fun w h => ?y3) ?_; (case y3 => (try dsimp only at h); go_simp; try (with_reducible rfl)); try simp only [Act.put, sa, s0, s1]
      refine tk 5 qa49_19_7_5 (some 23) (v := ?v4) rfl rfl (by kernel_rfl) hHeld (by rfl) (fun _ _ _ x => x) (fun w h => ?y4) ?_; (case y4 => (try dsimp only at h); go_simp; try (with_reducible rfl)); try simp only [Act.put, sa, s0, s1]
      refine tk 6 qa49_19_7_6 (some 24) (v := ?v5) rfl rfl (by kernel_rfl) hHeld (by rfl) (fun _ _ _ x => x) (fun w h => ?y5) ?_; (case y5 => (try dsimp only at h); go_simp; try (with_reducible rfl)); try simp only [Act.put, sa, s0, s1]
      refine tk 7 qa49_19_7_7 (some 25) (v := ?v6) rfl rfl (by kernel_rfl) hHeld (by rfl) (fun _ _ _ x => x) (fun w h => ?y6) ?_; (case y6 => (try dsimp only at h); go_simp; try (with_reducible rfl)); try simp only [Act.put, sa, s0, s1]
      refine tk 8 qa49_19_7_8 (some 26) (v := ?v7) rfl rfl (by kernel_rfl) hHeld (by rfl) (fun _ _ _ x => x) (fun w h => ?y7) ?_; (case y7 => (try dsimp only at h); go_simp; try (with_reducible rfl)); try simp only [Act.put, sa, s0, s1]
      refine wpAnyH_ready (rs := [2]) (by kernel_rfl) (by simp) ?_
      refine AllReadyH.cons (o := qa49_19_7_2) rfl (fun K hK => ?_) AllReadyH.nil
      go_simp
      obtain ⟨w5, hq5⟩ : ∃ x, x = (w1.alloc (.cells (List.toArray [Value.int .i64 q]) 3)).drew := ⟨_, rfl⟩
      have hop1 : Below w1.heap.size w1 w5 := by rw [hq5]; exact Below.drew ((Below.refl _ _).alloc (Nat.le_refl _) _)
      have HR5 : Hid (Rd .i64 w5.heap.size w5 (some ⟨w1.heap.size, 0, none⟩) [(q : Int)]) := by unfold Hid; rw [hq5]; exact (rd_one .i64 w1 (q : Int) 3).mono (by simp)
      rw [← hq5]
      clear hq5
      refine hK.out _ _ (⟨HC.out _ hop1, hop1⟩) (fun hHeld => ?_)
      clear hK K
      try simp only [Act.put, sa, s0, s1]
      refine wpAnyH_ready (rs := [3]) (by kernel_rfl) (by simp) ?_
      refine AllReadyH.cons (o := qa49_19_7_3) rfl (fun K hK => ?_) AllReadyH.nil
      go_simp
      refine Calls.mono (putNums_any ra (some ⟨w1.heap.size, 0, none⟩) zs.length qa 1 1 zs [(q : Int)] w5 rfl rfl (by omega) (by omega) ((hR1.below hop1).mono hop1.size) HR5.out) ?_
      rintro e w6 ⟨v6, rfl, ho6, hx2⟩
      have hop2 := hHeld.2.trans (hx2.mono hHeld.2.size)
      have ho6' : w6.ownsRow w5.heap.size 5 1 v6 z2.length (z2.map (Value.int .u8)) := own_congr ho6 (by rw [HZ2.out, List.length_append]; simp [putNums]) (by rw [HZ2.out]; simp [putNums])
      obtain ⟨r6, q6, rfl, _, hr6⟩ := own_rd rfl ho6'
      clear ho6 ho6'
      go_wp2_with fail
      refine hK.out _ _ (⟨HC.out _ hop2, hop2⟩) (fun hHeld => ?_)
      clear hK K
      try simp only [Act.put, sa, s0, s1]
      refine wpAnyH_ready (rs := [9]) (by kernel_rfl) (by simp) ?_
      refine AllReadyH.cons (o := qa49_19_7_9) rfl (fun K hK => ?_) AllReadyH.nil
      go_simp
      rw [← HY.out]
      refine Calls.mono (putPair_any r6 _ q6 z2 y p w6 rfl (by omega) hr6 (by omega) (by omega)) ?_
      rintro e w7 ⟨v7, rfl, ho7, hx3⟩
      have hop3 := hHeld.2.trans (hx3.mono hHeld.2.size)
      have HO7 : Hid (w7.ownsRow w.heap.size 5 1 v7 (zs ++ pairB lk p).length ((zs ++ pairB lk p).map (Value.int .u8))) := by have h := own_base ho7 (Nat.le_trans hB1.size hHeld.2.size); rw [HZ2.out, HY.out, HPP.out] at h; exact h
      clear ho7
      go_wp2_with fail
      refine hK.out _ _ (⟨HC.out _ hop3, hop3⟩) (fun hHeld => ?_)
      clear hK K
      try simp only [Act.put, sa, s0, s1]
      refine tk 10 qa49_19_7_10 (some 3) (v := ?v8) rfl rfl (by kernel_rfl) hHeld (by rfl) (fun _ _ _ x => x) (fun w h => ?y8) ?_; (case y8 => (try dsimp only at h); go_simp; try (with_reducible rfl)); try simp only [Act.put, sa, s0, s1]
      refine wpAnyH_done (by kernel_rfl) ?_ _
      have k7 := (HC.out _ hop3).1
      go_wp2_with fail
      go_roundw
      case rel => exact ⟨k + 1, by omega, by go_num, by rw [HK.out], by rw [HS.out]; exact HO7.out, hB1.trans (hop3.mono hB1.size)⟩
      case measure => simp [intOf]; omega
    · have HT1 : Hid (l.take k = l) := List.take_of_length_le (by rw [HX.out]; omega)
      rw [HT1.out] at hownk
      go_wp2_with fail
      go_ret
      exact ⟨_, rfl, hownk, hbk⟩

end Go.Proofs.YtmedljankefhbaaDoor
