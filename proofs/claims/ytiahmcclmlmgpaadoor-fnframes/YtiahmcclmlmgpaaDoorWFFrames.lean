/-
  The law of frames, at every code: a body comes back of its frame; a bit that is turned, and a byte that is lacking, are told; two frames are two records.
-/
import Derived.Test.YtiahmcclmlmgpaaDoorFrmL
import Derived.Test.YtiahmcclmlmgpaaDoorRecI
namespace Go.Proofs.YtiahmcclmlmgpaaDoor
open Go.RowKit
set_option linter.unusedVariables false
set_option linter.unusedSimpArgs false
set_option maxRecDepth 10000

theorem turn_fin : ∀ (z : Fin 256) (r : Fin 8), (0 ≤ bits .xor .u8 ((z.val : Nat) : Int) (2 ^ r.val % 256) ∧ bits .xor .u8 ((z.val : Nat) : Int) (2 ^ r.val % 256) ≤ 255) ∧ bits .xor .u8 ((z.val : Nat) : Int) (2 ^ r.val % 256) ≠ ((z.val : Nat) : Int) := by decide +kernel
theorem turn_bit {z : Int} {r : Nat} (h0 : 0 ≤ z) (h1 : z ≤ 255) (hr : r < 8) : ∃ c : Int, bits .xor .u8 z (2 ^ r % 256) = c ∧ (0 ≤ c ∧ c ≤ 255) ∧ c ≠ z := by
  obtain ⟨k, rfl⟩ := Int.eq_ofNat_of_zero_le h0
  exact ⟨_, rfl, turn_fin ⟨k, by omega⟩ ⟨r, hr⟩⟩
theorem Rd.take {k : IntKind} {B : Nat} {w : World} {a : Option Addr} {zs : List Int} (h : Rd k B w a zs) (q : Nat) : Rd k B w a (zs.take q) := by
  intro j hj
  have hjq : j < q ∧ j < zs.length := by simp at hj; omega
  obtain ⟨b, o, e, hB, hc⟩ := h j hjq.2
  refine ⟨b, o, e, hB, ?_⟩
  rw [hc]
  congr 2
  simp [List.getD_eq_getElem?_getD, List.getElem?_take, hjq.1]
theorem BytesOk.set {zs : List Int} (h : BytesOk zs) (j : Nat) {c : Int} (hc : 0 ≤ c ∧ c ≤ 255) : BytesOk (zs.set j c) := by
  intro z hz
  rcases List.mem_or_eq_of_mem_set hz with h1 | rfl
  · exact h z h1
  · exact hc

set_option maxHeartbeats 8000000 in
theorem law_FnFrames_r (a : Option Addr) (n cap : Nat) (zs : List Int) (w : World) (hx : zs.length = n) (hbz : BytesOk zs) (hr : Rd .u8 w.heap.size w a zs) (hT : TabAt w) :
    Calls Tryd.prog 4 #[.slice a n cap] w fun e w' => e = .returned (.bool true) ∧ Below w.heap.size w w' := by
  obtain ⟨i0, hi, hz0, hz1, hz2⟩ := info_parts Tryd.info5
  have hsz := hT.size
  have HX := Hid.mk hx
  have HBZ := Hid.mk hbz
  have HRZ := Hid.mk hr
  have HT := Hid.mk hT
  clear hx hbz hr hT
  go_enter Tryd.func4, Tryd.ntmps4
  go_wp2_with fail
  refine (bigF_any a n cap w).mono ?_
  rintro e w0 ⟨rfl, hw0⟩
  have hw0' := hw0.symm
  clear hw0
  subst hw0'
  by_cases hbig : 1048576 < (n : Int)
  · rw [decide_eq_true hbig]
    go_wp2_with fail
    go_ret
    exact ⟨rfl, Below.refl _ _⟩
  rw [decide_eq_false hbig]
  go_wp2_with fail
  refine (drawFrame_ok a n cap zs w HX.out (by omega) HRZ.out).mono ?_
  rintro e w1 ⟨v1, bs, rfl, hbl, hbo, hown1, hb1⟩
  obtain ⟨a1, c1, rfl, hc1, hR1⟩ := own_rd rfl hown1
  clear hown1
  go_wp2_with fail
  refine (implFrame_R a1 bs.length c1 bs w1 rfl (by omega) hR1 hbo (HT.out.below hb1 hsz)).mono ?_
  rintro e w2 ⟨v2, rfl, hown2, hb2⟩
  obtain ⟨a2, c2, rfl, hc2, hR2⟩ := own_rd rfl hown2
  have h128 : bs.length < 128 := by omega
  have hfl := frame_len h128
  have hFo : BytesOk (frame bs) := by
    have hcb := crc_bd hbo
    rw [frame_small h128]
    intro z hz
    rcases List.mem_append.1 hz with h | h
    · exact four_ok hcb.1 hcb.2 z h
    · rcases List.mem_cons.1 h with rfl | h
      · omega
      · exact hbo z h
  have HU1 := Hid.mk (unframe_frame [] [7, 7] hbo h128)
  have HUT := Hid.mk (fun k c => unframe_turned (k := k) (c := c) hbo h128)
  have HUC := Hid.mk (fun m => unframe_cut (n := m) h128)
  have HRC := Hid.mk (recs_two hbo h128)
  have HB1 := Hid.mk hb1
  have HB12 := Hid.mk (bthen hb1 hb2)
  have HR1 := Hid.mk ((hR1.below hb2).mono hb2.size)
  clear hown2 hb1 hb2 hR1
  generalize frame bs = fr at *
  obtain ⟨m, hm⟩ : ∃ m, fr.length = m := ⟨_, rfl⟩
  have HM := Hid.mk hm
  rw [hm] at hc2 hfl ⊢
  clear hm
  have hm5 : 5 ≤ m := by omega
  have hm14 : m ≤ 14 := by omega
  have HFL := Hid.mk hfl
  clear hfl
  have HFO := Hid.mk hFo
  have HBO := Hid.mk hbo
  clear hFo hbo
  obtain ⟨b2, o2, rfl, _, _⟩ := hR2 0 (by rw [HM.out]; omega)
  have HR2 := Hid.mk hR2
  have ho3 : (w2.alloc (.cells #[] 5)).ownsRow w2.heap.size 5 1 (.slice (some ⟨w2.heap.size, 0, none⟩) 0 0) 0 [] := World.ownsRow_lit w2 #[] 0 (Nat.le_refl _) (by decide) rfl
  have hb3 : Below w2.heap.size w2 (w2.alloc (.cells #[] 5)) := (Below.refl _ _).alloc (Nat.le_refl _) _
  have hR3 := (hR2.below hb3)
  go_wp2_with (first | (at_builtin; refine wpList_append_src _ rfl _ _ 22 22 rfl w2.heap.size 5 i0 (.int .u8 0) 1 1 Tryd.underlying22 hi hz0 hz1 hz2 rfl _ _ _ rfl ho3 m (fr.map (Value.int .u8)) (Src.rd Tryd.underlying22 HM.out hR3) (by unfold maxLen; omega) (by omega) hb3.size ?_; intro v4 w4 hown4 hgr4; have hb4 := hb3.grown hgr4 hb3.size (fun k h => (ho3.lt k h).1); have ho4 := own_congr (n' := m) (ys := fr.map (Value.int .u8)) hown4 (by omega) (by simp); clear hown4 hgr4; have hb5 : Below w2.heap.size w2 (w4.alloc (.cells #[.int .u8 7, .int .u8 7] 5)) := hb4.alloc hb4.size _) | (at_builtin; refine wpList_append_src _ rfl _ _ 22 22 rfl w2.heap.size 5 i0 (.int .u8 0) 1 1 Tryd.underlying22 hi hz0 hz1 hz2 rfl _ _ _ rfl (ho4.alloc _) 2 [.int .u8 7, .int .u8 7] (Src.ofSlice _ Tryd.underlying22 ⟨w4.heap.size, 0, none⟩ 2 2 _ rfl (bx_news (Bx.new w4 [.int .u8 7, .int .u8 7] _)) (by intro u hu; simp at hu; subst hu; rfl)) (by unfold maxLen; omega) (by omega) hb5.size ?_; intro v5 w5 hown5 hgr5; have hb6 := hb5.grown hgr5 hb5.size (fun k h => (ho4.lt k h).1); have ho5 := own_congr (n' := m + 2) (ys := (fr ++ [7, 7]).map (Value.int .u8)) hown5 rfl (by simp); clear hown5 hgr5; obtain ⟨a5, c5, rfl, hc5, hR5⟩ := own_rd (by simp [HM.out]) ho5))
  have hBw5 := bthen HB12.out hb6
  refine (implUnframe_any a5 (m + 2) c5 (fr ++ [7, 7]) 0 w5 (by simp [HM.out]) (by omega) hc5 (HFO.out.append (by intro z hz; simp at hz; omega)) hR5 (HT.out.below hBw5 hsz)).mono ?_
  have hu1 : unframe (fr ++ [7, 7]) 0 = (bs, (m : Int), true) := by have h := HU1.out; simp only [List.nil_append, List.length_nil, Nat.zero_add, Int.ofNat_zero, HM.out] at h; exact h
  rw [hu1]
  rintro e w6 ⟨v6, rfl, ho6, hb6x⟩
  obtain ⟨a6, c6, rfl, hc6, hR6⟩ := own_rd rfl ho6
  have hb26 := bthen hb6 hb6x
  clear hu1 ho6 hR5 ho5 ho4 ho3 hb3 hb4 hb5 hR3
  have hR1' := (HR1.out.below hb26).mono hb26.size
  go_wp2_with fail
  refine (sameBytes_yes a6 a1 bs.length c6 c1 bs w6 w6.heap.size rfl (by omega) hR6 hR1').mono ?_
  rintro e w7 ⟨rfl, d, hw7⟩
  have hb67 : Below w6.heap.size w6 w7 := by rw [hw7]; exact below_drewN (Below.refl _ _) _
  have hb27 := bthen hb26 hb67
  clear hw7 hb67 hR1' hR6 hb26 hb6 hb6x
  have hBw7 := bthen HB12.out hb27
  go_wp2_with fail
  refine (at_any a n cap 2 zs w7 HX.out (by omega) (by omega) HBZ.out ((HRZ.out.below hBw7).mono hBw7.size)).mono ?_
  rintro e w8 ⟨x2, ⟨rfl, hx2⟩, hw8⟩
  have hw8' := hw8.symm
  clear hw8
  subst hw8'
  go_wp2_with fail
  refine (at_any a n cap 3 zs w7 HX.out (by omega) (by omega) HBZ.out ((HRZ.out.below hBw7).mono hBw7.size)).mono ?_
  rintro e w9 ⟨x3, ⟨rfl, hx3⟩, hw9⟩
  have hw9' := hw9.symm
  clear hw9
  subst hw9'
  obtain ⟨kk, hkk⟩ : ∃ kk : Nat, ((x2 : Int) * 256 + (x3 : Int)) % (8 * (m : Int)) = (kk : Int) := ⟨(x2 * 256 + x3) % (8 * m), by push_cast; rfl⟩
  have hkm : kk < 8 * m := by have := Int.emod_lt_of_pos ((x2 : Int) * 256 + (x3 : Int)) (b := 8 * (m : Int)) (by omega); omega
  have ho8 : (w7.alloc (.cells #[] 5)).ownsRow w7.heap.size 5 1 (.slice (some ⟨w7.heap.size, 0, none⟩) 0 0) 0 [] := World.ownsRow_lit w7 #[] 0 (Nat.le_refl _) (by decide) rfl
  have hb8 : Below w7.heap.size w7 (w7.alloc (.cells #[] 5)) := (Below.refl _ _).alloc (Nat.le_refl _) _
  have hR27 := (HR2.out.below hb27).mono hb27.size
  have hR8 := hR27.below hb8
  obtain ⟨kx, hkx, hkc⟩ : ∃ kx : Nat, (kx < 8 * m ∧ kx / 8 ≠ 4) ∧ ((kk / 8 = 4 ∧ (kk : Int) - 8 = (kx : Int)) ∨ (kk / 8 ≠ 4 ∧ kk = kx)) := by
    by_cases h4 : kk / 8 = 4
    · exact ⟨kk - 8, by omega, .inl ⟨h4, by omega⟩⟩
    · exact ⟨kk, ⟨hkm, h4⟩, .inr ⟨h4, rfl⟩⟩
  obtain ⟨j, hj⟩ : ∃ j, j = kx / 8 := ⟨_, rfl⟩
  obtain ⟨r, hr⟩ : ∃ r, r = kx % 8 := ⟨_, rfl⟩
  have hjm : j < m := by omega
  have hj4 : j ≠ 4 := by omega
  have hr8 : r < 8 := by omega
  have hjq : (kx : Int) / 8 = (j : Int) := by omega
  have hrq : (kx : Int) % 8 = (r : Int) := by omega
  have HCJ : Hid ((fr.map (Value.int .u8))[j]? = some (.int .u8 (fr.getD j 0))) := by
    have h : j < fr.length := by rw [HM.out]; exact hjm
    show _ = _
    simp [h]
  clear hj hr hkx
  rcases hkc with ⟨h4, hwr⟩ | ⟨h4, rfl⟩
  all_goals
    first
    | (have h4i : (kk : Int) / 8 = 4 := by omega)
    | (have h4i : decide ((kk : Int) / 8 = 4) = false := decide_eq_false (by omega))
    clear h4 hkm
    go_wp2_with (first | (at_builtin; refine wpList_append_src _ rfl _ _ 22 22 rfl w7.heap.size 5 i0 (.int .u8 0) 1 1 Tryd.underlying22 hi hz0 hz1 hz2 rfl _ _ _ rfl ho8 m (fr.map (Value.int .u8)) (Src.rd Tryd.underlying22 HM.out hR8) (by unfold maxLen; omega) (by omega) hb8.size ?_; intro v9 w9 hown9 hgr9; have hb9 := hb8.grown hgr9 hb8.size (fun k h => (ho8.lt k h).1); have ho9 := own_congr (n' := m) (ys := fr.map (Value.int .u8)) hown9 (by omega) (by simp); clear hown9 hgr9; obtain ⟨g9, cap9, rfl⟩ : ∃ g c, v9 = .slice (some ⟨g, 0, none⟩) m c := (by rcases ho9.2 with ⟨_, h0⟩ | ⟨g, cap, cur, rfl, _⟩; (exact absurd h0 (by omega)); exact ⟨g, cap, rfl⟩); have hcj : w9.cell? ⟨g9, j, none⟩ = some (.int .u8 (fr.getD j 0)) := (ho9.cellAt j (by omega)).trans (HCJ.out); have hfj := ho9.frozenAt j))
    obtain ⟨c, hcd, hcb, hcn⟩ := turn_bit (z := fr[j]?.getD 0) (r := r) (by have := (HFO.out.getD j).1; simpa using this) (by have := (HFO.out.getD j).2; simpa using this) hr8
    rw [hcd]
    have hcn2 : c ≠ fr.getD j 0 := by simpa using hcn
    have hst := ho9.stored j (.int .u8 c)
    obtain ⟨w10, hw10⟩ : ∃ x, x = w9.setCell ⟨g9, j, none⟩ (.int .u8 c) := ⟨_, rfl⟩
    rw [← hw10] at hst ⊢
    have ho10 := own_congr (n' := m) (ys := (fr.set j c).map (Value.int .u8)) hst.1 rfl (by simp [List.map_set])
    have hb10 : Below w7.heap.size w7 w10 := hb9.grown hst.2 hb9.size (fun k e => by cases e; exact (ho9.lt g9 rfl).1)
    have hR10 := Rd.own (by simp [HM.out]) ho10
    have hc10 : m ≤ cap9 := by rcases ho10.2 with ⟨_, h0⟩ | ⟨g, cp, cur, he, _, _, hh, _⟩; (exact absurd h0 (by omega)); (cases he; exact hh)
    have hBw10 := bthen hBw7 hb10
    have HBAD := Hid.mk (unframe_bad (HUT.out j c (by rw [HM.out]; exact hjm) hj4 hcb hcn2))
    clear hst hw10 ho9 hcj hfj hb9 hcd hcn hcn2 ho10
    refine (implUnframe_any _ m cap9 (fr.set j c) 0 w10 (by simp [HM.out]) (by omega) hc10 (HFO.out.set j hcb) hR10 (HT.out.below hBw10 hsz)).mono ?_
    rw [HBAD.out]
    rintro e w11 ⟨v11, rfl, ho11, hb11⟩
    obtain ⟨a11, c11, rfl, _, _⟩ := own_rd rfl ho11
    have hb711 := bthen hb10 hb11
    clear ho11 hb10 hb11 hR10 hBw10
    have hBw11 := bthen hBw7 hb711
    have hb211 := bthen hb27 hb711
    go_wp2_with fail
    refine (at_any a n cap 4 zs w11 HX.out (by omega) (by omega) HBZ.out ((HRZ.out.below hBw11).mono hBw11.size)).mono ?_
    rintro e w12 ⟨x4, ⟨rfl, hx4⟩, hw12⟩
    have hw12' := hw12.symm
    clear hw12
    subst hw12'
    obtain ⟨q, hq⟩ : ∃ q : Nat, (x4 : Int) % (m : Int) = (q : Int) := ⟨x4 % m, by push_cast; rfl⟩
    have hqm : q < m := by have := Int.emod_lt_of_pos (x4 : Int) (b := (m : Int)) (by omega); omega
    have hR211 := (HR2.out.below hb211).mono hb211.size
    go_wp2_with fail
    refine (implUnframe_any _ q c2 (fr.take q) 0 w11 (by simp [HM.out]; omega) (by omega) (by omega) (fun z hz => HFO.out z (List.mem_of_mem_take hz)) (hR211.take q) (HT.out.below hBw11 hsz)).mono ?_
    rw [unframe_bad (HUC.out q (by rw [HM.out]; exact hqm))]
    rintro e w13 ⟨v13, rfl, ho13, hb13⟩
    obtain ⟨a13, c13, rfl, _, _⟩ := own_rd rfl ho13
    have hb213 := bthen hb211 hb13
    have hBw13 := bthen HB12.out hb213
    clear ho13 hb13 hb211 hBw11 hb711
    have ho14 : (w13.alloc (.cells #[] 5)).ownsRow w13.heap.size 5 1 (.slice (some ⟨w13.heap.size, 0, none⟩) 0 0) 0 [] := World.ownsRow_lit w13 #[] 0 (Nat.le_refl _) (by decide) rfl
    have hb14 : Below w13.heap.size w13 (w13.alloc (.cells #[] 5)) := (Below.refl _ _).alloc (Nat.le_refl _) _
    have hR213 := (HR2.out.below hb213).mono hb213.size
    have hR14 := hR213.below hb14
    go_wp2_with (first | (at_builtin; refine wpList_append_src _ rfl _ _ 22 22 rfl w13.heap.size 5 i0 (.int .u8 0) 1 1 Tryd.underlying22 hi hz0 hz1 hz2 rfl _ _ _ rfl ho14 m (fr.map (Value.int .u8)) (Src.rd Tryd.underlying22 HM.out hR14) (by unfold maxLen; omega) (by omega) hb14.size ?_; intro v15 w15 hown15 hgr15; have hb15 := hb14.grown hgr15 hb14.size (fun k h => (ho14.lt k h).1); have ho15 := own_congr (n' := m) (ys := fr.map (Value.int .u8)) hown15 (by omega) (by simp); have hR15 := hR213.below hb15; clear hown15 hgr15) | (at_builtin; refine wpList_append_src _ rfl _ _ 22 22 rfl w13.heap.size 5 i0 (.int .u8 0) 1 1 Tryd.underlying22 hi hz0 hz1 hz2 rfl _ _ _ rfl ho15 m (fr.map (Value.int .u8)) (Src.rd Tryd.underlying22 HM.out hR15) (by unfold maxLen; omega) (by omega) hb15.size ?_; intro v16 w16 hown16 hgr16; have hb16 := hb15.grown hgr16 hb15.size (fun k h => (ho15.lt k h).1); have ho16 := own_congr (n' := m + m) (ys := (fr ++ fr).map (Value.int .u8)) hown16 rfl (by simp); clear hown16 hgr16; obtain ⟨a16, c16, rfl, hc16, hR16⟩ := own_rd (by simp [HM.out]) ho16))
    have hBw16 := bthen hBw13 hb16
    refine (implRecords_any a16 (m + m) c16 (fr ++ fr) w16 (by simp [HM.out]) (by omega) hc16 (HFO.out.append HFO.out) hR16 (HT.out.below hBw16 hsz)).mono ?_
    rw [HRC.out, HM.out]
    rintro e w17 ⟨v17, F17, rfl, ho17, _, _, hb17⟩
    obtain ⟨a17, c17, rfl, hL17⟩ := rdBs_own ho17
    obtain ⟨b17, o17, rfl, hB17, cs17, _, hcell17, a18, c18, rfl, hl18⟩ := hL17.2.2 1 (by simp)
    have k17 := hcell17 0 _ rfl
    simp only [Nat.mul_one, Nat.add_zero] at k17
    have hb217 := bthen hb213 (bthen hb16 hb17)
    have hR117 := (HR1.out.below hb217).mono hb217.size
    have hBw17 := bthen HB12.out hb217
    have hl18b : Rd .u8 w17.heap.size w17 a18 bs := hl18.2.2.1
    have k18 : w17.cell? ⟨b17, o17 + 1, none⟩ = some (.slice a18 bs.length c18) := k17
    clear ho17 hL17 hcell17 hl18 k17 hR16 ho16 ho15 hR15 hb15 hR14 hR213 ho14 hb14
    go_wp2_with fail
    refine (sameBytes_yes a18 a1 bs.length c18 c1 bs w17 w17.heap.size rfl (by omega) hl18b hR117).mono ?_
    rintro e w18 ⟨rfl, d18, hw18⟩
    have hb18 : Below w17.heap.size w17 w18 := by rw [hw18]; exact below_drewN (Below.refl _ _) _
    clear hw18
    go_wp2_with fail
    go_ret
    exact ⟨by simp, bthen hBw17 hb18⟩

theorem law_FnFrames (cs0 : Value) (m0 : List Int) (w : World) (hr0 : rdB w.heap.size w cs0 m0) (hT : TabAt w) :
    Calls Tryd.prog 4 #[cs0] w fun e w' => e = .returned (.bool true) ∧ Below w.heap.size w w' := by
  obtain ⟨a, c, rfl, h⟩ := hr0
  exact law_FnFrames_r a m0.length c m0 w rfl h.2.2.2 h.2.2.1 hT

end Go.Proofs.YtiahmcclmlmgpaaDoor
