/-
  Part 11 of the texts that the proof leans on.
-/
import Derived.Test.YtocgbeoglgkibaaDoorTbp2
import Derived.Test.YtocgbeoglgkibaaDoorTbp9
import Derived.Test.YtocgbeoglgkibaaDoorTbp1
import Derived.Test.YtocgbeoglgkibaaDoorTbp8
set_option linter.unusedVariables false
set_option linter.unusedSimpArgs false
set_option maxRecDepth 10000

namespace Go.Proofs.YtocgbeoglgkibaaDoor
open Go.RowKit Go.Maps
abbrev q578_12_21_0 : Oper := ⟨some 131, .move (.tmp 6), 32, "l05_table.go:102", #[], none⟩
abbrev q578_12_21_1 : Oper := ⟨some 132, .move (.tmp 7), 33, "l05_table.go:102", #[{ on := 5, ground := Ground.gcOnly Departure.lateStores }], none⟩
abbrev q578_12_21_2 : Oper := ⟨some 133, .move (.tmp 10), 22, "l05_table.go:102", #[], none⟩
abbrev q578_12_21_3 : Oper := ⟨some 134, .move (.tmp 14), 3, "l05_table.go:102", #[], none⟩
abbrev q578_12_21_4 : Oper := ⟨some 135, .slice 22 (.tmp 133) (some (.tmp 134)) none none, 22, "l05_table.go:102", #[⟨2, .data⟩, ⟨3, .data⟩], none⟩
abbrev q578_12_21_5 : Oper := ⟨some 2, .assign (.tmp 131), 32, "l05_table.go:102", #[⟨0, .data⟩, ⟨0, .phase⟩, { on := 1, ground := Ground.textOnly Departure.lateStores }, { on := 2, ground := Ground.textOnly Departure.lateStores }, { on := 3, ground := Ground.textOnly Departure.lateStores }, { on := 4, ground := Ground.textOnly Departure.lateStoresUnsure }], none⟩
abbrev q578_12_21_6 : Oper := ⟨some 3, .assign (.tmp 132), 33, "l05_table.go:102", #[⟨1, .data⟩, ⟨5, .chain⟩, ⟨0, .phase⟩, ⟨1, .phase⟩, { on := 2, ground := Ground.textOnly Departure.lateStores }, { on := 3, ground := Ground.textOnly Departure.lateStores }, { on := 4, ground := Ground.textOnly Departure.lateStoresUnsure }, ⟨5, .phase⟩], none⟩
abbrev q578_12_21_7 : Oper := ⟨some 4, .assign (.tmp 135), 22, "l05_table.go:102", #[⟨4, .data⟩, ⟨6, .chain⟩, ⟨0, .phase⟩, ⟨1, .phase⟩, ⟨2, .phase⟩, ⟨3, .phase⟩, ⟨4, .phase⟩, ⟨5, .phase⟩, ⟨6, .phase⟩], none⟩
abbrev q578_12_21_8 : Oper := ⟨some 5, .assign (.const (.bool true)), 4, "l05_table.go:102", #[⟨7, .chain⟩, ⟨0, .phase⟩, ⟨1, .phase⟩, ⟨2, .phase⟩, ⟨3, .phase⟩, ⟨4, .phase⟩, ⟨5, .phase⟩, ⟨6, .phase⟩, ⟨7, .phase⟩], none⟩

theorem Tryd.infoOfI : (Tryd.prog.info? 3).map (fun i => (i.zero, i.size, i.bytes)) = some (some (.int .i64 0), 1, 8) := by kernel_rfl

theorem results_tmp4 {fn : Func} {t u v x : Tmp} (h : fn.results = #[.tmp t, .tmp u, .tmp v, .tmp x]) (tmps : Array Value) (P : Program) (w : World) :
    (results fn tmps).run P w = .ok (.tuple #[tmps.getD t undef, tmps.getD u undef, tmps.getD v undef, tmps.getD x undef]) w := by
  simp [results, h]
def IxPost (w : World) (r : List Int × Bool) (e : Ending) (w' : World) : Prop :=
  ∃ v1 v2 v3 : Value, e = .returned (.tuple #[v1, v2, v3, .bool r.2]) ∧ w'.ownsRow w.heap.size 3 1 v2 r.1.length (r.1.map (Value.int .i64)) ∧ Below w.heap.size w w'
theorem ixS_short {zs : List Int} (h : zs.length < 4) : ixS zs = ([], false) := by unfold ixS; rw [if_pos h]
theorem ixS_far {zs : List Int} (h : (zs.length : Int) - 4 < rd4 zs (zs.length - 4)) : ixS zs = ([], false) := by
  unfold ixS
  by_cases h4 : zs.length < 4
  · rw [if_pos h4]
  · rw [if_neg h4, if_pos h]
theorem ixS_unf {zs : List Int} (h : ¬ zs.length < 4) (h1 : ¬ (zs.length : Int) - 4 < rd4 zs (zs.length - 4)) (h2 : ¬ ((unframe (zs.take (zs.length - 4)) (rd4 zs (zs.length - 4))).2.2 = true ∧ (unframe (zs.take (zs.length - 4)) (rd4 zs (zs.length - 4))).2.1 = (zs.length : Int) - 4)) : ixS zs = ([], false) := by
  unfold ixS; rw [if_neg h, if_neg h1, if_neg h2]
theorem ixS_body {zs : List Int} (h : ¬ zs.length < 4) (h1 : ¬ (zs.length : Int) - 4 < rd4 zs (zs.length - 4)) (h2 : (unframe (zs.take (zs.length - 4)) (rd4 zs (zs.length - 4))).2.2 = true ∧ (unframe (zs.take (zs.length - 4)) (rd4 zs (zs.length - 4))).2.1 = (zs.length : Int) - 4) : ixS zs = ixB (unframe (zs.take (zs.length - 4)) (rd4 zs (zs.length - 4))).1 := by
  unfold ixS; rw [if_neg h, if_neg h1, if_pos h2]
theorem Rd.first {k : IntKind} {B : Nat} {w : World} {a : Option Addr} {zs : List Int} (m : Nat) (h : Rd k B w a zs) : Rd k B w a (zs.take m) := by
  intro j hj
  have hj2 : j < zs.length := by simp at hj; omega
  obtain ⟨b, off, e, hB, hc⟩ := h j hj2
  refine ⟨b, off, e, hB, ?_⟩
  rw [hc]
  congr 2
  rw [List.getD_eq_getElem?_getD, List.getD_eq_getElem?_getD, List.getElem?_take, if_pos (by simp at hj; omega)]
theorem BytesOk.first {zs : List Int} (m : Nat) (h : BytesOk zs) : BytesOk (zs.take m) := fun z hz => h z (List.mem_of_mem_take hz)
theorem unframe_okB {zs : List Int} {p : Int} (hb : BytesOk zs) : BytesOk (unframe zs p).1 := by
  unfold unframe
  split
  · intro z hz; cases hz
  · split
    · rcases text_cases zs (p + 4) with ⟨_, _, _, h2⟩ | ⟨m, f, _, _, _, _, h2⟩ | ⟨m, f, _, _, _, _, h2⟩
      all_goals rw [h2]
      · intro z hz; cases hz
      · intro z hz; cases hz
      · exact fun z hz => hb z (List.mem_of_mem_drop (List.mem_of_mem_take hz))
    · intro z hz; cases hz

set_option maxHeartbeats 8000000 in
theorem l5Index_any (a : Option Addr) (n cap : Nat) (zs : List Int) (w : World) (hx : zs.length = n) (hlen : n ≤ 1048576) (hcap : n ≤ cap) (hcm : cap ≤ 9223372036854775807) (hb : BytesOk zs) (hr : Rd .u8 w.heap.size w a zs) :
    Calls Tryd.prog 12 #[.slice a n cap] w (IxPost w (ixS zs)) := by
  obtain ⟨i0, hi, hz0, hz1, hz2⟩ := info_parts Tryd.infoOfI
  obtain ⟨i1, hi1, hy0, hy1, hy2⟩ := info_parts Tryd.infoOfStr
  have HX := Hid.mk hx
  clear hx
  obtain ⟨wk, hwk⟩ : ∃ x, x = w.alloc (.cells #[] 9) := ⟨_, rfl⟩
  obtain ⟨wp, hwp⟩ : ∃ x, x = wk.alloc (.cells #[] 3) := ⟨_, rfl⟩
  have hbk : Below w.heap.size w wk := by rw [hwk]; exact (Below.refl _ _).alloc (Nat.le_refl _) _
  have hbp : Below w.heap.size w wp := by rw [hwp]; exact hbk.alloc hbk.size _
  have hok : wp.ownsRow w.heap.size 9 1 (.slice (some ⟨w.heap.size, 0, none⟩) 0 0) 0 [] := by
    have h := own_lit1 w w.heap.size 9 1 (Nat.le_refl _)
    rw [← hwk] at h
    rw [hwp]
    exact own_below h ((Below.refl _ _).alloc (Nat.le_refl _) _)
  have hop : wp.ownsRow w.heap.size 3 1 (.slice (some ⟨w.heap.size + 1, 0, none⟩) 0 0) 0 [] := by
    have hs : w.heap.size + 1 = wk.heap.size := by rw [hwk]; simp
    rw [hs, hwp]
    exact own_lit1 wk w.heap.size 3 1 hbk.size
  have hrp := (hr.below hbp).mono hbp.size
  have HWP : Hid (wp = (w.alloc (.cells #[] 9)).alloc (.cells #[] 3)) := by unfold Hid; rw [hwp, hwk]
  clear hwk hwp hbk hr
  by_cases h4 : n < 4
  · have HI : Hid (ixS zs = ([], false)) := ixS_short (by rw [HX.out]; exact h4)
    rw [HI.out]
    have hfo := fun W => fourAt_no a n cap ((n : Int) - 4) W (by omega) (by omega)
    have hb5 : Below wp.heap.size wp (wp.alloc (.cells #[] 5)) := (Below.refl _ _).alloc (Nat.le_refl _) _
    have HP5 := Hid.mk (own_below hop hb5)
    have hB5 := hbp.alloc hbp.size (.cells #[] 5)
    clear hok hop
    go_enter Tryd.func12, Tryd.ntmps12
    go_wp2_with fail
    rw [← HWP.out]
    refine Calls.mono (hfo wp) ?_
    rintro e w1 ⟨rfl, rfl⟩
    go_wp2_with fail
    all_goals ((try simp only [Exit.inBlock, Exit.then]); refine bodyPost_ret (results_tmp4 rfl _ _ _) rfl ?_; exact ⟨_, _, _, rfl, HP5.out, hB5⟩)
  · obtain ⟨m, rfl⟩ : ∃ m, n = m + 4 := ⟨n - 4, by omega⟩
    have hfo := fun W (hW : Rd .u8 wp.heap.size W a zs) => fourAt_yes a (m + 4) cap m zs W wp.heap.size HX.out (by omega) (by omega) hb hW
    have hrb := rd4_bd hb m
    have HZL : Hid (zs.length - 4 = m) := by show _ = _; rw [HX.out]; omega
    have HZL2 : Hid ((zs.length : Int) - 4 = m) := by show _ = _; rw [HX.out]; omega
    have HN4 : Hid (¬ zs.length < 4) := by show ¬ _; rw [HX.out]; omega
    obtain ⟨R, hR⟩ : ∃ R, R = rd4 zs m := ⟨_, rfl⟩
    rw [← hR] at hfo hrb
    have HR := Hid.mk hR
    clear hR
    have hcm2 : ((m : Int) + 4) ≤ cap := by omega
    go_enter Tryd.func12, Tryd.ntmps12
    go_wp2_with fail
    rw [← HWP.out]
    refine Calls.mono (hfo wp hrp) ?_
    rintro e w1 ⟨rfl, d, hw1⟩
    have hb1 : Below wp.heap.size wp w1 := by rw [hw1]; exact below_drewN (Below.refl _ _) d
    have hok1 := own_below hok hb1
    have hop1 := own_below hop hb1
    have hB1 := hbp.trans (hb1.mono hbp.size)
    have hr1 := (hrp.below hb1).mono hb1.size
    clear hw1 hok hop hfo hrp
    by_cases hfar : (m : Int) < R
    · have HI : Hid (ixS zs = ([], false)) := ixS_far (by rw [HZL.out, HZL2.out, ← HR.out]; exact hfar)
      have hb5 : Below w1.heap.size w1 (w1.alloc (.cells #[] 5)) := (Below.refl _ _).alloc (Nat.le_refl _) _
      have HP5 := Hid.mk (own_below hop1 hb5)
      have hB5 := hB1.alloc hB1.size (.cells #[] 5)
      clear hok1 hop1
      go_wp2_with fail
      all_goals ((try simp only [Exit.inBlock, Exit.then]); refine bodyPost_ret (results_tmp4 rfl _ _ _) rfl ?_; exact ⟨_, _, _, (by first | (rw [HI.out]; done) | (rw [HI.out]; rfl)), by rw [HI.out]; exact HP5.out, hB5⟩)
    · have hCu := specUnframe_any a m cap (zs.take m) R w1 (by rw [List.length_take, HX.out]; omega) (by omega) (by omega) (hb.first m) (hr1.first m)
      have HUO : Hid (BytesOk (unframe (zs.take m) R).1) := unframe_okB (hb.first m)
      have HUL : Hid ((unframe (zs.take m) R).1.length ≤ m) := by have h := unframe_len (zs.take m) R; rw [List.length_take] at h; show _ ≤ _; omega
      have HUB : Hid (¬ ((unframe (zs.take m) R).2.2 = true ∧ (unframe (zs.take m) R).2.1 = (m : Int)) → ixS zs = ([], false)) := fun h => ixS_unf HN4.out (by rw [HZL.out, HZL2.out, ← HR.out]; exact hfar) (by rw [HZL.out, HZL2.out, ← HR.out]; exact h)
      have HUY : Hid ((unframe (zs.take m) R).2.2 = true ∧ (unframe (zs.take m) R).2.1 = (m : Int) → ixS zs = ixB (unframe (zs.take m) R).1) := fun h => by have h2 := ixS_body HN4.out (by rw [HZL.out, HZL2.out, ← HR.out]; exact hfar) (by rw [HZL.out, HZL2.out, ← HR.out]; exact h); rw [HZL.out, ← HR.out] at h2; exact h2
      generalize unframe (zs.take m) R = U at *
      obtain ⟨body, nx, fine⟩ := U
      simp only at HUO HUL HUB HUY
      obtain ⟨b0, o0, rfl, _, _⟩ := hr1 0 (by rw [HX.out]; omega)
      have hmc : m ≤ cap := by omega
      go_wp2_with fail
      refine Calls.mono hCu ?_
      rintro e w2 ⟨vb, rfl, hob, hx2⟩
      simp only at hob
      have hok2 := own_below hok1 hx2
      have hop2 := own_below hop1 hx2
      have hB2 := hB1.trans (hx2.mono hB1.size)
      have hdBK := dis_new hob (Nat.le_refl _) hok1
      have hdBP := dis_new hob (Nat.le_refl _) hop1
      clear hok1 hop1 hCu hr1
      by_cases hU : fine = true ∧ nx = (m : Int)
      · obtain ⟨rfl, rfl⟩ := hU
        have HIB : Hid (ixS zs = ixB body) := HUY.out ⟨rfl, rfl⟩
        clear HUY HUB
        obtain ⟨bl, hbl⟩ : ∃ bl, bl = body.length := ⟨_, rfl⟩
        have HBL : Hid (body.length = bl) := hbl.symm
        have hbm : bl ≤ m := by have h := HUL.out; omega
        obtain ⟨ab, cb, rfl, hcb, hrb2⟩ := own_rd rfl hob
        have hcb2 : bl ≤ cb := by omega
        rw [← hbl] at hob hdBK hdBP ⊢
        clear hbl HUL hcb hx2
        have hCg := fun (W : World) (hW : Rd .u8 w2.heap.size W ab body) => specGetNum_any ab bl cb body 0 W w2.heap.size HBL.out (by omega) HUO.out hW
        go_wp2_with fail
        refine Calls.mono (hCg w2 hrb2) ?_
        rintro e w3 ⟨rfl, rfl⟩
        have HNB0 : Hid ((getNum body 0).2.2 = true → 0 ≤ (getNum body 0).2.1 ∧ (getNum body 0).2.1 ≤ bl) := fun h => by have h1 := getNum_bounds h; have h2 := HBL.out; omega
        obtain ⟨G, hG⟩ : ∃ G, G = getNum body 0 := ⟨_, rfl⟩
        rw [← hG] at HNB0 ⊢
        have HG0 : Hid (getNum body 0 = G) := hG.symm
        clear hG hCg
        obtain ⟨gn, g0, gb0⟩ := G
        unfold numVal
        simp only at HNB0 ⊢
        have hdKP0 : Dis (.slice (some ⟨w.heap.size, 0, none⟩) 0 0) (.slice (some ⟨w.heap.size + 1, 0, none⟩) 0 0) := fun k h1 h2 => by simp [Value.ownBlock] at h1 h2; omega
        clear hrb2
        go_wp2_with fail
        go_loopw [6, 7, 14, 15, 16] (fun vK vP kv iv cv wr => ∃ (f : Nat) (k : Int) (is : Bool) (ps : List Int) (ks : List ByteArray), f + ps.length = 100 ∧ kv = .int .i64 k ∧ iv = .bool is ∧ cv = .int .i64 ps.length ∧ ks.length = ps.length ∧ Hid (ixGo body gn 100 g0 gb0 [] = ixGo body gn f k is ps) ∧ (is = true → 0 ≤ k ∧ k ≤ bl) ∧ wr.ownsRow w.heap.size 9 1 vK ps.length (ks.map Value.string) ∧ wr.ownsRow w.heap.size 3 1 vP ps.length (ps.map (Value.int .i64)) ∧ wr.ownsRow w1.heap.size 5 1 (.slice ab bl cb) bl (body.map (Value.int .u8)) ∧ Dis vK vP ∧ Dis vK (.slice ab bl cb) ∧ Dis vP (.slice ab bl cb) ∧ Below w.heap.size w wr) (fun _ _ _ _ cv _ => 100 - (intOf cv).toNat)
        case atStart => exact ⟨100, g0, gb0, [], [], rfl, rfl, rfl, rfl, rfl, rfl, HNB0.out, hok2, hop2, hob, hdKP0, hdBK.symm, hdBP.symm, hB2⟩
        case round =>
          clear hok2 hop2 hob hdKP0 hdBK hdBP HNB0
          obtain ⟨f, k, is, ps, ks, hf, rfl, rfl, rfl, hkl, HGO, hkp, hoK, hoP, hoB, hdKP, hdKB, hdPB, hbr⟩ := hrel
          have hpl : ps.length ≤ 100 := by omega
          obtain ⟨aK, cK, rfl⟩ := own_slice hoK
          obtain ⟨aP, cP, rfl⟩ := own_slice hoP
          by_cases hgo : (ps.length : Int) < gn
          · cases f with
            | zero =>
              have HOUT : Hid (ixGo body gn 0 k is ps = (ps, k, is)) := rfl
              have hnot : ¬ (ps.length : Int) < 100 := by omega
              have HE : Hid (ixB body = (ps, is && decide ((ps.length : Int) = gn) && decide ((bl : Int) - k = 8))) := by
                show _ = _
                unfold ixB
                rw [HG0.out]
                simp only
                rw [HGO.out, HOUT.out]
                unfold ixE
                rw [HBL.out]
              clear HGO HOUT
              cases is with
              | false =>
                have HE2 : Hid (ixS zs = (ps, false)) := by show _ = _; rw [HIB.out, HE.out]; rfl
                have hb5 : Below wr.heap.size wr (wr.alloc (.cells #[] 5)) := (Below.refl _ _).alloc (Nat.le_refl _) _
                have HP5 := Hid.mk (own_below hoP hb5)
                have hB5 := hbr.alloc hbr.size (.cells #[] 5)
                clear hoK hoP hoB
                go_wp2_with fail
                all_goals ((try simp only [Exit.inBlock, Exit.then]); refine bodyPost_ret (results_tmp4 rfl _ _ _) rfl ?_; exact ⟨_, _, _, (by first | (rw [HE2.out]; done) | (rw [HE2.out]; rfl)), by rw [HE2.out]; exact HP5.out, hB5⟩)
              | true =>
                obtain ⟨hk0, hk1⟩ := hkp rfl
                by_cases hnn : (ps.length : Int) = gn
                · by_cases h8 : (bl : Int) - k = 8
                  · have HE2 : Hid (ixS zs = (ps, true)) := by show _ = _; rw [HIB.out, HE.out, decide_eq_true hnn, decide_eq_true h8]; rfl
                    obtain ⟨kn, hkn⟩ : ∃ kn : Nat, (kn : Int) = k := ⟨k.toNat, by omega⟩
                    subst hkn
                    have hkb : kn ≤ cb := by omega
                    have hkc : ¬ (cb = kn) := by omega
                    have hkl : kn ≤ bl := by omega
                    have HPP := Hid.mk hoP
                    obtain ⟨gb, hab⟩ : ∃ gb, ab = some ⟨gb, 0, none⟩ := by
                      obtain ⟨g, c2, e1, _⟩ := own_shape hoB (by omega)
                      simp only [Value.slice.injEq] at e1
                      exact ⟨g, e1.1⟩
                    subst hab
                    clear hoK hoP hoB
                    go_wp2_with fail
                    refine wp_region_held_drew (S := fun W => Below wr.heap.size wr W) (by kernel_rfl) (Below.drew (Below.refl _ _)) (fun hHeld => ?_)
                    refine tk 0 q578_12_21_0 (some 131) (v := ?v1) rfl rfl (by kernel_rfl) hHeld (by rfl) (fun _ _ _ x => x) (fun w h => ?y1) ?_; (case y1 => (try dsimp only at h); go_simp; try (with_reducible rfl)); try simp only [Act.put, sa, s0, s1]
                    refine tk 1 q578_12_21_1 (some 132) (v := ?v2) rfl rfl (by kernel_rfl) hHeld (by rfl) (fun _ _ _ x => x) (fun w h => ?y2) ?_; (case y2 => (try dsimp only at h); go_simp; try (with_reducible rfl)); try simp only [Act.put, sa, s0, s1]
                    refine tk 2 q578_12_21_2 (some 133) (v := ?v3) rfl rfl (by kernel_rfl) hHeld (by rfl) (fun _ _ _ x => x) (fun w h => ?y3) ?_; (case y3 => (try dsimp only at h); go_simp; try (with_reducible rfl)); try simp only [Act.put, sa, s0, s1]
                    refine tk 3 q578_12_21_3 (some 134) (v := ?v4) rfl rfl (by kernel_rfl) hHeld (by rfl) (fun _ _ _ x => x) (fun w h => ?y4) ?_; (case y4 => (try dsimp only at h); go_simp; try (with_reducible rfl)); try simp only [Act.put, sa, s0, s1]
                    refine tk 4 q578_12_21_4 (some 135) (v := ?v5) rfl rfl (by kernel_rfl) hHeld (by rfl) (fun _ _ _ x => x) (fun w h => ?y5) ?_; (case y5 => (try dsimp only at h); go_simp; try (with_reducible rfl)); try simp only [Act.put, sa, s0, s1]
                    refine tk 5 q578_12_21_5 (some 2) (v := ?v6) rfl rfl (by kernel_rfl) hHeld (by rfl) (fun _ _ _ x => x) (fun w h => ?y6) ?_; (case y6 => (try dsimp only at h); go_simp; try (with_reducible rfl)); try simp only [Act.put, sa, s0, s1]
                    refine tk 6 q578_12_21_6 (some 3) (v := ?v7) rfl rfl (by kernel_rfl) hHeld (by rfl) (fun _ _ _ x => x) (fun w h => ?y7) ?_; (case y7 => (try dsimp only at h); go_simp; try (with_reducible rfl)); try simp only [Act.put, sa, s0, s1]
                    refine tk 7 q578_12_21_7 (some 4) (v := ?v8) rfl rfl (by kernel_rfl) hHeld (by rfl) (fun _ _ _ x => x) (fun w h => ?y8) ?_; (case y8 => (try dsimp only at h); go_simp; try (with_reducible rfl)); try simp only [Act.put, sa, s0, s1]
                    refine tk 8 q578_12_21_8 (some 5) (v := ?v9) rfl rfl (by kernel_rfl) hHeld (by rfl) (fun _ _ _ x => x) (fun w h => ?y9) ?_; (case y9 => (try dsimp only at h); go_simp; try (with_reducible rfl)); try simp only [Act.put, sa, s0, s1]
                    refine wpAnyH_done (by kernel_rfl) ?_ _
                    go_wp2_with fail
                    all_goals ((try simp only [Exit.inBlock, Exit.then]); refine bodyPost_ret (results_tmp4 rfl _ _ _) rfl ?_; exact ⟨_, _, _, (by first | (rw [HE2.out]; done) | (rw [HE2.out]; rfl)), by rw [HE2.out]; exact own_below HPP.out hHeld, bthen hbr hHeld⟩)
                  · have HE2 : Hid (ixS zs = (ps, false)) := by show _ = _; rw [HIB.out, HE.out, decide_eq_false h8]; simp
                    have hb5 : Below wr.heap.size wr (wr.alloc (.cells #[] 5)) := (Below.refl _ _).alloc (Nat.le_refl _) _
                    have HP5 := Hid.mk (own_below hoP hb5)
                    have hB5 := hbr.alloc hbr.size (.cells #[] 5)
                    clear hoK hoP hoB
                    go_wp2_with fail
                    all_goals ((try simp only [Exit.inBlock, Exit.then]); refine bodyPost_ret (results_tmp4 rfl _ _ _) rfl ?_; exact ⟨_, _, _, (by first | (rw [HE2.out]; done) | (rw [HE2.out]; rfl)), by rw [HE2.out]; exact HP5.out, hB5⟩)
                · have HE2 : Hid (ixS zs = (ps, false)) := by show _ = _; rw [HIB.out, HE.out, decide_eq_false hnn]; rfl
                  have hb5 : Below wr.heap.size wr (wr.alloc (.cells #[] 5)) := (Below.refl _ _).alloc (Nat.le_refl _) _
                  have HP5 := Hid.mk (own_below hoP hb5)
                  have hB5 := hbr.alloc hbr.size (.cells #[] 5)
                  clear hoK hoP hoB
                  go_wp2_with fail
                  all_goals ((try simp only [Exit.inBlock, Exit.then]); refine bodyPost_ret (results_tmp4 rfl _ _ _) rfl ?_; exact ⟨_, _, _, (by first | (rw [HE2.out]; done) | (rw [HE2.out]; rfl)), by rw [HE2.out]; exact HP5.out, hB5⟩)
            | succ f =>
              have hp100 : (ps.length : Int) < 100 := by omega
              cases is with
              | false =>
                have HOUT : Hid (ixGo body gn (f + 1) k false ps = (ps, k, false)) := by show _ = _; rw [ixGo, if_neg (by simp)]
                have HE2 : Hid (ixS zs = (ps, false)) := by
                  show _ = _
                  rw [HIB.out]
                  unfold ixB
                  rw [HG0.out]
                  simp only
                  rw [HGO.out, HOUT.out]
                  rfl
                have hb5 : Below wr.heap.size wr (wr.alloc (.cells #[] 5)) := (Below.refl _ _).alloc (Nat.le_refl _) _
                have HP5 := Hid.mk (own_below hoP hb5)
                have hB5 := hbr.alloc hbr.size (.cells #[] 5)
                clear hoK hoP hoB
                go_wp2_with fail
                all_goals ((try simp only [Exit.inBlock, Exit.then]); refine bodyPost_ret (results_tmp4 rfl _ _ _) rfl ?_; exact ⟨_, _, _, (by first | (rw [HE2.out]; done) | (rw [HE2.out]; rfl)), by rw [HE2.out]; exact HP5.out, hB5⟩)
              | true =>
                have hRb := (own_rd HBL.out hoB)
                obtain ⟨ab', cb', hab, _, hRb⟩ := hRb
                simp only [Value.slice.injEq, true_and] at hab
                obtain ⟨rfl, rfl⟩ := hab
                have hCt := specGetText_any ab bl cb body k wr wr.heap.size HBL.out (by omega) (by omega) HUO.out hRb
                obtain ⟨T, hT⟩ : ∃ T, T = getText body k := ⟨_, rfl⟩
                rw [← hT] at hCt
                obtain ⟨tt, tm, tok⟩ := T
                have hCn := specGetNum_any ab bl cb body tm wr wr.heap.size HBL.out (by omega) HUO.out hRb
                have HNB : Hid ((getNum body tm).2.2 = true → 0 ≤ (getNum body tm).2.1 ∧ (getNum body tm).2.1 ≤ bl) := fun h => by have h1 := getNum_bounds h; have h2 := HBL.out; omega
                obtain ⟨G, hG⟩ : ∃ G, G = getNum body tm := ⟨_, rfl⟩
                rw [← hG] at hCn HNB
                obtain ⟨gv, gq, gok⟩ := G
                have HT : Hid (getText body k = (tt, tm, tok)) := hT.symm
                have HN : Hid (getNum body tm = (gv, gq, gok)) := hG.symm
                simp only at HNB
                clear hT hG hRb hkp
                unfold numVal at hCn
                unfold textVal at hCt
                simp only at hCn hCt
                have hpz : ps.length + 1 ≤ 100 := by omega
                cases tok with
                | false =>
                  go_wp2_with fail
                  refine Calls.mono hCt ?_
                  rintro e wr ⟨rfl, rfl⟩
                  go_wp2_with fail
                  refine Calls.mono hCn ?_
                  rintro e wr ⟨rfl, rfl⟩
                  clear hCt hCn
                  have HST : Hid (ixGo body gn 100 g0 gb0 [] = ixGo body gn f gq (false && gok) (ps ++ [gv])) := by
                    show _ = _
                    rw [HGO.out, ixGo, if_pos ⟨hgo, rfl⟩]
                    unfold ixStep
                    rw [HT.out]
                    simp only
                    rw [HN.out]
                  have HKP : Hid ((false && gok) = true → 0 ≤ gq ∧ gq ≤ bl) := fun h => HNB.out (by simp at h)
                  clear HGO HT HN HNB
                  obtain ⟨wa, hwa⟩ : ∃ x, x = wr.alloc (.cells #[.string (strOfNums tt)] 9) := ⟨_, rfl⟩
                  have hba : Below wr.heap.size wr wa := by rw [hwa]; exact (Below.refl _ _).alloc (Nat.le_refl _) _
                  have hbxa : Bx wa wr.heap.size [.string (strOfNums tt)] := by rw [hwa]; exact Bx.new _ _ _
                  have hBa := hbr.trans (hba.mono hbr.size)
                  have hoKa := own_below hoK hba
                  have hoPa := own_below hoP hba
                  have hoBa := own_below hoB hba
                  clear hoK hoP hoB
                  go_wp2_with (at_builtin; rw [← hwa]; refine wpList_append_own_at _ rfl _ _ 32 rfl w.heap.size 9 i1 (.string ByteArray.empty) 1 16 Tryd.underlying32 hi1 hy0 hy1 hy2 rfl (by decide) _ _ _ rfl hoKa ⟨wr.heap.size, 0, none⟩ 1 1 [.string (strOfNums tt)] rfl rfl (bx_news hbxa) (by intro u hu; simp at hu; subst hu; rfl) (by unfold maxLen; omega) (by omega) hBa.size ?_)
                  intro vK w3 hoK3 hgr3 hnil3 hloc3
                  try rw [← hwa] at hgr3
                  have hza : wa.heap.size = wr.heap.size + 1 := by rw [hwa]; simp
                  try rw [← hza] at hloc3
                  clear hza
                  have hoP3 := own_other hoPa hgr3 hdKP
                  have hoB3 := own_other hoBa hgr3 hdKB
                  have hdKP3 := dis_app hloc3 hoPa hdKP
                  have hdKB3 := dis_app hloc3 hoBa hdKB
                  have hB3 := hBa.grown hgr3 hBa.size (fun k h => (hoKa.lt k h).1)
                  clear hoKa hoPa hoBa hgr3 hloc3 hnil3 hdKP hdKB hbxa hwa hba
                  obtain ⟨wc, hwc⟩ : ∃ x, x = w3.alloc (.cells #[.int .i64 gv] 3) := ⟨_, rfl⟩
                  have hbc : Below w3.heap.size w3 wc := by rw [hwc]; exact (Below.refl _ _).alloc (Nat.le_refl _) _
                  have hbxc : Bx wc w3.heap.size [.int .i64 gv] := by rw [hwc]; exact Bx.new _ _ _
                  have hBc := hB3.trans (hbc.mono hB3.size)
                  have hoKc := own_below hoK3 hbc
                  have hoPc := own_below hoP3 hbc
                  have hoBc := own_below hoB3 hbc
                  clear hoK3 hoP3 hoB3
                  go_wp2_with (at_builtin; rw [← hwc]; refine wpList_append_own_at _ rfl _ _ 33 rfl w.heap.size 3 i0 (.int .i64 0) 1 8 Tryd.underlying33 hi hz0 hz1 hz2 rfl (by decide) _ _ _ rfl hoPc ⟨w3.heap.size, 0, none⟩ 1 1 [.int .i64 gv] rfl rfl (bx_news hbxc) (by intro u hu; simp at hu; subst hu; rfl) (by unfold maxLen; omega) (by omega) hBc.size ?_)
                  intro vP w4 hoP4 hgr4 hnil4 hloc4
                  try rw [← hwc] at hgr4
                  have hzc : wc.heap.size = w3.heap.size + 1 := by rw [hwc]; simp
                  try rw [← hzc] at hloc4
                  clear hzc
                  have hoK4 := own_other hoKc hgr4 hdKP3.symm
                  have hoB4 := own_other hoBc hgr4 hdPB
                  have hdPK4 := dis_app hloc4 hoKc hdKP3.symm
                  have hdPB4 := dis_app hloc4 hoBc hdPB
                  have hB4 := hBc.grown hgr4 hBc.size (fun k h => (hoPc.lt k h).1)
                  clear hoKc hoPc hoBc hgr4 hloc4 hnil4 hbxc hwc hbc
                  have HOK : Hid (w4.ownsRow w.heap.size 9 1 vK (ps ++ [gv]).length ((ks ++ [strOfNums tt]).map Value.string)) := own_congr hoK4 (by simp) (by simp)
                  have HOP : Hid (w4.ownsRow w.heap.size 3 1 vP (ps ++ [gv]).length ((ps ++ [gv]).map (Value.int .i64))) := own_congr hoP4 (by simp) (by simp)
                  have HOB := Hid.mk hoB4
                  clear hoK4 hoP4 hoB4
                  go_wp2_with fail
                  go_roundw
                  case rel => exact ⟨f, gq, _, ps ++ [gv], ks ++ [strOfNums tt], by simp; omega, rfl, by first | rfl | simp, by simp, by simpa using hkl, HST, HKP.out, HOK.out, HOP.out, HOB.out, hdPK4.symm, hdKB3, hdPB4, hB4⟩
                  case measure => simp [intOf]; omega
                | true =>
                  go_wp2_with fail
                  refine Calls.mono hCt ?_
                  rintro e wr ⟨rfl, rfl⟩
                  go_wp2_with fail
                  refine Calls.mono hCn ?_
                  rintro e wr ⟨rfl, rfl⟩
                  clear hCt hCn
                  have HST : Hid (ixGo body gn 100 g0 gb0 [] = ixGo body gn f gq (true && gok) (ps ++ [gv])) := by
                    show _ = _
                    rw [HGO.out, ixGo, if_pos ⟨hgo, rfl⟩]
                    unfold ixStep
                    rw [HT.out]
                    simp only
                    rw [HN.out]
                  have HKP : Hid ((true && gok) = true → 0 ≤ gq ∧ gq ≤ bl) := fun h => HNB.out (by simpa using h)
                  clear HGO HT HN HNB
                  obtain ⟨wa, hwa⟩ : ∃ x, x = wr.alloc (.cells #[.string (strOfNums tt)] 9) := ⟨_, rfl⟩
                  have hba : Below wr.heap.size wr wa := by rw [hwa]; exact (Below.refl _ _).alloc (Nat.le_refl _) _
                  have hbxa : Bx wa wr.heap.size [.string (strOfNums tt)] := by rw [hwa]; exact Bx.new _ _ _
                  have hBa := hbr.trans (hba.mono hbr.size)
                  have hoKa := own_below hoK hba
                  have hoPa := own_below hoP hba
                  have hoBa := own_below hoB hba
                  clear hoK hoP hoB
                  go_wp2_with (at_builtin; rw [← hwa]; refine wpList_append_own_at _ rfl _ _ 32 rfl w.heap.size 9 i1 (.string ByteArray.empty) 1 16 Tryd.underlying32 hi1 hy0 hy1 hy2 rfl (by decide) _ _ _ rfl hoKa ⟨wr.heap.size, 0, none⟩ 1 1 [.string (strOfNums tt)] rfl rfl (bx_news hbxa) (by intro u hu; simp at hu; subst hu; rfl) (by unfold maxLen; omega) (by omega) hBa.size ?_)
                  intro vK w3 hoK3 hgr3 hnil3 hloc3
                  try rw [← hwa] at hgr3
                  have hza : wa.heap.size = wr.heap.size + 1 := by rw [hwa]; simp
                  try rw [← hza] at hloc3
                  clear hza
                  have hoP3 := own_other hoPa hgr3 hdKP
                  have hoB3 := own_other hoBa hgr3 hdKB
                  have hdKP3 := dis_app hloc3 hoPa hdKP
                  have hdKB3 := dis_app hloc3 hoBa hdKB
                  have hB3 := hBa.grown hgr3 hBa.size (fun k h => (hoKa.lt k h).1)
                  clear hoKa hoPa hoBa hgr3 hloc3 hnil3 hdKP hdKB hbxa hwa hba
                  obtain ⟨wc, hwc⟩ : ∃ x, x = w3.alloc (.cells #[.int .i64 gv] 3) := ⟨_, rfl⟩
                  have hbc : Below w3.heap.size w3 wc := by rw [hwc]; exact (Below.refl _ _).alloc (Nat.le_refl _) _
                  have hbxc : Bx wc w3.heap.size [.int .i64 gv] := by rw [hwc]; exact Bx.new _ _ _
                  have hBc := hB3.trans (hbc.mono hB3.size)
                  have hoKc := own_below hoK3 hbc
                  have hoPc := own_below hoP3 hbc
                  have hoBc := own_below hoB3 hbc
                  clear hoK3 hoP3 hoB3
                  go_wp2_with (at_builtin; rw [← hwc]; refine wpList_append_own_at _ rfl _ _ 33 rfl w.heap.size 3 i0 (.int .i64 0) 1 8 Tryd.underlying33 hi hz0 hz1 hz2 rfl (by decide) _ _ _ rfl hoPc ⟨w3.heap.size, 0, none⟩ 1 1 [.int .i64 gv] rfl rfl (bx_news hbxc) (by intro u hu; simp at hu; subst hu; rfl) (by unfold maxLen; omega) (by omega) hBc.size ?_)
                  intro vP w4 hoP4 hgr4 hnil4 hloc4
                  try rw [← hwc] at hgr4
                  have hzc : wc.heap.size = w3.heap.size + 1 := by rw [hwc]; simp
                  try rw [← hzc] at hloc4
                  clear hzc
                  have hoK4 := own_other hoKc hgr4 hdKP3.symm
                  have hoB4 := own_other hoBc hgr4 hdPB
                  have hdPK4 := dis_app hloc4 hoKc hdKP3.symm
                  have hdPB4 := dis_app hloc4 hoBc hdPB
                  have hB4 := hBc.grown hgr4 hBc.size (fun k h => (hoPc.lt k h).1)
                  clear hoKc hoPc hoBc hgr4 hloc4 hnil4 hbxc hwc hbc
                  have HOK : Hid (w4.ownsRow w.heap.size 9 1 vK (ps ++ [gv]).length ((ks ++ [strOfNums tt]).map Value.string)) := own_congr hoK4 (by simp) (by simp)
                  have HOP : Hid (w4.ownsRow w.heap.size 3 1 vP (ps ++ [gv]).length ((ps ++ [gv]).map (Value.int .i64))) := own_congr hoP4 (by simp) (by simp)
                  have HOB := Hid.mk hoB4
                  clear hoK4 hoP4 hoB4
                  go_wp2_with fail
                  go_roundw
                  case rel => exact ⟨f, gq, _, ps ++ [gv], ks ++ [strOfNums tt], by simp; omega, rfl, by first | rfl | simp, by simp, by simpa using hkl, HST, HKP.out, HOK.out, HOP.out, HOB.out, hdPK4.symm, hdKB3, hdPB4, hB4⟩
                  case measure => simp [intOf]; omega
          · have HOUT : Hid (ixGo body gn f k is ps = (ps, k, is)) := by
              show _ = _
              cases f with
              | zero => rfl
              | succ f => rw [ixGo, if_neg (by intro h; exact hgo h.1)]
            have hgo2 : ¬ (ps.length : Int) < gn := hgo
            have HE : Hid (ixB body = (ps, is && decide ((ps.length : Int) = gn) && decide ((bl : Int) - k = 8))) := by
              show _ = _
              unfold ixB
              rw [HG0.out]
              simp only
              rw [HGO.out, HOUT.out]
              unfold ixE
              rw [HBL.out]
            clear HGO HOUT
            cases is with
            | false =>
              have HE2 : Hid (ixS zs = (ps, false)) := by show _ = _; rw [HIB.out, HE.out]; rfl
              have hb5 : Below wr.heap.size wr (wr.alloc (.cells #[] 5)) := (Below.refl _ _).alloc (Nat.le_refl _) _
              have HP5 := Hid.mk (own_below hoP hb5)
              have hB5 := hbr.alloc hbr.size (.cells #[] 5)
              clear hoK hoP hoB
              go_wp2_with fail
              all_goals ((try simp only [Exit.inBlock, Exit.then]); refine bodyPost_ret (results_tmp4 rfl _ _ _) rfl ?_; exact ⟨_, _, _, (by first | (rw [HE2.out]; done) | (rw [HE2.out]; rfl)), by rw [HE2.out]; exact HP5.out, hB5⟩)
            | true =>
              obtain ⟨hk0, hk1⟩ := hkp rfl
              by_cases hnn : (ps.length : Int) = gn
              · by_cases h8 : (bl : Int) - k = 8
                · have HE2 : Hid (ixS zs = (ps, true)) := by show _ = _; rw [HIB.out, HE.out, decide_eq_true hnn, decide_eq_true h8]; rfl
                  obtain ⟨kn, hkn⟩ : ∃ kn : Nat, (kn : Int) = k := ⟨k.toNat, by omega⟩
                  subst hkn
                  have hkb : kn ≤ cb := by omega
                  have hkc : ¬ (cb = kn) := by omega
                  have hkl : kn ≤ bl := by omega
                  have HPP := Hid.mk hoP
                  obtain ⟨gb, hab⟩ : ∃ gb, ab = some ⟨gb, 0, none⟩ := by
                    obtain ⟨g, c2, e1, _⟩ := own_shape hoB (by omega)
                    simp only [Value.slice.injEq] at e1
                    exact ⟨g, e1.1⟩
                  subst hab
                  clear hoK hoP hoB
                  go_wp2_with fail
                  refine wp_region_held_drew (S := fun W => Below wr.heap.size wr W) (by kernel_rfl) (Below.drew (Below.refl _ _)) (fun hHeld => ?_)
                  refine tk 0 q578_12_21_0 (some 131) (v := ?v10) rfl rfl (by kernel_rfl) hHeld (by rfl) (fun _ _ _ x => x) (fun w h => ?y10) ?_; (case y10 => (try dsimp only at h); go_simp; try (with_reducible rfl)); try simp only [Act.put, sa, s0, s1]
                  refine tk 1 q578_12_21_1 (some 132) (v := ?v11) rfl rfl (by kernel_rfl) hHeld (by rfl) (fun _ _ _ x => x) (fun w h => ?y11) ?_; (case y11 => (try dsimp only at h); go_simp; try (with_reducible rfl)); try simp only [Act.put, sa, s0, s1]
                  refine tk 2 q578_12_21_2 (some 133) (v := ?v12) rfl rfl (by kernel_rfl) hHeld (by rfl) (fun _ _ _ x => x) (fun w h => ?y12) ?_; (case y12 => (try dsimp only at h); go_simp; try (with_reducible rfl)); try simp only [Act.put, sa, s0, s1]
                  refine tk 3 q578_12_21_3 (some 134) (v := ?v13) rfl rfl (by kernel_rfl) hHeld (by rfl) (fun _ _ _ x => x) (fun w h => ?y13) ?_; (case y13 => (try dsimp only at h); go_simp; try (with_reducible rfl)); try simp only [Act.put, sa, s0, s1]
                  refine tk 4 q578_12_21_4 (some 135) (v := ?v14) rfl rfl (by kernel_rfl) hHeld (by rfl) (fun _ _ _ x => x) (fun w h => ?y14) ?_; (case y14 => (try dsimp only at h); go_simp; try (with_reducible rfl)); try simp only [Act.put, sa, s0, s1]
                  refine tk 5 q578_12_21_5 (some 2) (v := ?v15) rfl rfl (by kernel_rfl) hHeld (by rfl) (fun _ _ _ x => x) (fun w h => ?y15) ?_; (case y15 => (try dsimp only at h); go_simp; try (with_reducible rfl)); try simp only [Act.put, sa, s0, s1]
                  refine tk 6 q578_12_21_6 (some 3) (v := ?v16) rfl rfl (by kernel_rfl) hHeld (by rfl) (fun _ _ _ x => x) (fun w h => ?y16) ?_; (case y16 => (try dsimp only at h); go_simp; try (with_reducible rfl)); try simp only [Act.put, sa, s0, s1]
                  refine tk 7 q578_12_21_7 (some 4) (v := ?v17) rfl rfl (by kernel_rfl) hHeld (by rfl) (fun _ _ _ x => x) (fun w h => ?y17) ?_; (case y17 => (try dsimp only at h); go_simp; try (with_reducible rfl)); try simp only [Act.put, sa, s0, s1]
                  refine tk 8 q578_12_21_8 (some 5) (v := ?v18) rfl rfl (by kernel_rfl) hHeld (by rfl) (fun _ _ _ x => x) (fun w h => ?y18) ?_; (case y18 => (try dsimp only at h); go_simp; try (with_reducible rfl)); try simp only [Act.put, sa, s0, s1]
                  refine wpAnyH_done (by kernel_rfl) ?_ _
                  go_wp2_with fail
                  all_goals ((try simp only [Exit.inBlock, Exit.then]); refine bodyPost_ret (results_tmp4 rfl _ _ _) rfl ?_; exact ⟨_, _, _, (by first | (rw [HE2.out]; done) | (rw [HE2.out]; rfl)), by rw [HE2.out]; exact own_below HPP.out hHeld, bthen hbr hHeld⟩)
                · have HE2 : Hid (ixS zs = (ps, false)) := by show _ = _; rw [HIB.out, HE.out, decide_eq_false h8]; simp
                  have hb5 : Below wr.heap.size wr (wr.alloc (.cells #[] 5)) := (Below.refl _ _).alloc (Nat.le_refl _) _
                  have HP5 := Hid.mk (own_below hoP hb5)
                  have hB5 := hbr.alloc hbr.size (.cells #[] 5)
                  clear hoK hoP hoB
                  go_wp2_with fail
                  all_goals ((try simp only [Exit.inBlock, Exit.then]); refine bodyPost_ret (results_tmp4 rfl _ _ _) rfl ?_; exact ⟨_, _, _, (by first | (rw [HE2.out]; done) | (rw [HE2.out]; rfl)), by rw [HE2.out]; exact HP5.out, hB5⟩)
              · have HE2 : Hid (ixS zs = (ps, false)) := by show _ = _; rw [HIB.out, HE.out, decide_eq_false hnn]; rfl
                have hb5 : Below wr.heap.size wr (wr.alloc (.cells #[] 5)) := (Below.refl _ _).alloc (Nat.le_refl _) _
                have HP5 := Hid.mk (own_below hoP hb5)
                have hB5 := hbr.alloc hbr.size (.cells #[] 5)
                clear hoK hoP hoB
                go_wp2_with fail
                all_goals ((try simp only [Exit.inBlock, Exit.then]); refine bodyPost_ret (results_tmp4 rfl _ _ _) rfl ?_; exact ⟨_, _, _, (by first | (rw [HE2.out]; done) | (rw [HE2.out]; rfl)), by rw [HE2.out]; exact HP5.out, hB5⟩)
      · have HI : Hid (ixS zs = ([], false)) := HUB.out hU
        have hb5 : Below w2.heap.size w2 (w2.alloc (.cells #[] 5)) := (Below.refl _ _).alloc (Nat.le_refl _) _
        have HP5 := Hid.mk (own_below hop2 hb5)
        have hB5 := hB2.alloc hB2.size (.cells #[] 5)
        clear hok2 hop2 hob hdBK hdBP HUY HUB
        cases fine with
        | false =>
          go_wp2_with fail
          all_goals ((try simp only [Exit.inBlock, Exit.then]); refine bodyPost_ret (results_tmp4 rfl _ _ _) rfl ?_; exact ⟨_, _, _, (by first | (rw [HI.out]; done) | (rw [HI.out]; rfl)), by rw [HI.out]; exact HP5.out, hB5⟩)
        | true =>
          have hnx : ¬ nx = (m : Int) := fun h => hU ⟨rfl, h⟩
          clear hU
          go_wp2_with fail
          all_goals ((try simp only [Exit.inBlock, Exit.then]); refine bodyPost_ret (results_tmp4 rfl _ _ _) rfl ?_; exact ⟨_, _, _, (by first | (rw [HI.out]; done) | (rw [HI.out]; rfl)), by rw [HI.out]; exact HP5.out, hB5⟩)

end Go.Proofs.YtocgbeoglgkibaaDoor

namespace Go.Proofs.YtocgbeoglgkibaaDoor
open Go.RowKit

theorem getNum_gt {b : List Int} {p : Int} (h : (getNum b p).2.2 = true) : p < (getNum b p).2.1 ∧ (getNum b p).2.1 ≤ b.length := by
  have h2 := (getNum_bounds h).2.2.2
  refine ⟨?_, h2⟩
  simp only [getNum] at h ⊢
  by_cases h1 : p < 0 ∨ (b.length : Int) ≤ p
  · rw [if_pos h1] at h; simp [noNum] at h
  · rw [if_neg h1] at h ⊢
    by_cases h3 : b.getD p.toNat 0 = 128
    · rw [if_pos h3] at h; simp [noNum] at h
    · rw [if_neg h3] at h ⊢
      exact (gnS_bounds 5 _ 0 p (by omega) h).2.2.1
theorem getText_gt {b : List Int} {p : Int} (h : (getText b p).2.2 = true) : p + ((getText b p).1.length : Int) < (getText b p).2.1 ∧ (getText b p).2.1 ≤ b.length ∧ 0 ≤ (getText b p).2.1 := by
  rcases text_cases b p with ⟨_, _, _, h2⟩ | ⟨m, f, _, _, _, _, h2⟩ | ⟨m, f, h1, h3, _, h4, h2⟩
  · rw [h2] at h; cases h
  · rw [h2] at h; cases h
  · have h5 := getNum_gt (b := b) (p := p) (by rw [h1])
    rw [h1] at h5
    rw [h2]
    simp only [List.length_take, List.length_drop] at *
    omega
theorem HTL (b : List Int) (p : Int) : (getText b p).1.length ≤ b.length := by
  rcases text_cases b p with ⟨_, _, _, h2⟩ | ⟨m, f, _, _, _, _, h2⟩ | ⟨m, f, _, _, _, _, h2⟩
  all_goals rw [h2]
  · simp
  · simp
  · simp only [List.length_take, List.length_drop]; omega
theorem spStep_yes {body : List Int} {k : Int} {last : ByteArray} {g : Int × Int × Bool} {t v : List Int × Int × Bool} (hg : getNum body k = g) (ht : getText body g.2.1 = t) (hv : getText body (t.2.1 + 1) = v)
    (h : g.2.2 = true ∧ t.2.2 = true ∧ g.1 ≤ last.size ∧ t.2.1 < body.length ∧ body.getD t.2.1.toNat 0 ≤ 1 ∧ v.2.2 = true) :
    spStep body k last = some (⟨last.extract 0 g.1.toNat ++ strOfNums t.1, strOfNums v.1, decide (body.getD t.2.1.toNat 0 = 1)⟩, v.2.1) := by
  subst hg ht hv
  unfold spStep
  rw [if_pos h]
theorem spStep_no {body : List Int} {k : Int} {last : ByteArray} {g : Int × Int × Bool} {t v : List Int × Int × Bool} (hg : getNum body k = g) (ht : getText body g.2.1 = t) (hv : getText body (t.2.1 + 1) = v)
    (h : ¬ (g.2.2 = true ∧ t.2.2 = true ∧ g.1 ≤ last.size ∧ t.2.1 < body.length ∧ body.getD t.2.1.toNat 0 ≤ 1 ∧ v.2.2 = true)) : spStep body k last = none := by
  subst hg ht hv
  unfold spStep
  rw [if_neg h]
/-- A step goes on, within the body; the pair weighs no more than what was gone by. -/
theorem spStep_bd {body : List Int} {k : Int} {last : ByteArray} {p : MPair} {e : Int} (h0 : 0 ≤ k) (hl : (last.size : Int) ≤ k) (h : spStep body k last = some (p, e)) :
    k < e ∧ e ≤ body.length ∧ (p.fKey.size : Int) + p.fVal.size ≤ e := by
  obtain ⟨g, hg⟩ : ∃ g, getNum body k = g := ⟨_, rfl⟩
  obtain ⟨t, ht⟩ : ∃ t, getText body g.2.1 = t := ⟨_, rfl⟩
  obtain ⟨v, hv⟩ : ∃ v, getText body (t.2.1 + 1) = v := ⟨_, rfl⟩
  by_cases hc : g.2.2 = true ∧ t.2.2 = true ∧ g.1 ≤ last.size ∧ t.2.1 < body.length ∧ body.getD t.2.1.toNat 0 ≤ 1 ∧ v.2.2 = true
  · rw [spStep_yes hg ht hv hc] at h
    simp only [Option.some.injEq, Prod.mk.injEq] at h
    obtain ⟨rfl, rfl⟩ := h
    have h1 := getNum_gt (b := body) (p := k) (by rw [hg]; exact hc.1)
    have h1b := getNum_bounds (b := body) (p := k) (by rw [hg]; exact hc.1)
    have h2 := getText_gt (b := body) (p := g.2.1) (by rw [ht]; exact hc.2.1)
    have h3 := getText_gt (b := body) (p := t.2.1 + 1) (by rw [hv]; exact hc.2.2.2.2.2)
    rw [hg] at h1 h1b
    rw [ht] at h2
    rw [hv] at h3
    have e1 : (last.extract 0 g.1.toNat ++ strOfNums t.1).size ≤ last.size + t.1.length := by
      rw [ByteArray.size_append, ByteArray.size_extract, strOfNums_size]
      omega
    have e2 : (strOfNums v.1).size = v.1.length := strOfNums_size v.1
    simp only
    omega
  · rw [spStep_no hg ht hv hc] at h
    cases h

def lightP (n : Nat) (l : List MPair) : Prop := ∀ p, p ∈ l → p.fKey.size + p.fVal.size ≤ n
theorem spGo_bd (body : List Int) : ∀ (f : Nat) (k : Int) (last : ByteArray) (out : List MPair), 0 ≤ k → (last.size : Int) ≤ k → (out.length : Int) ≤ k → k ≤ body.length → lightP body.length out → lightP body.length (spGo body f k last out).1 ∧ (spGo body f k last out).1.length ≤ body.length := by
  intro f
  induction f with
  | zero => intro k last out h0 h1 h2 h3 h4; exact ⟨h4, by simp only [spGo]; omega⟩
  | succ f ih =>
    intro k last out h0 h1 h2 h3 h4
    rw [spGo]
    by_cases hk : (body.length : Int) ≤ k
    · rw [if_pos hk]; exact ⟨h4, by simp only; omega⟩
    · rw [if_neg hk]
      cases hs : spStep body k last with
      | none => exact ⟨h4, by simp only; omega⟩
      | some r =>
        obtain ⟨p, e⟩ := r
        obtain ⟨g1, g2, g3⟩ := spStep_bd h0 h1 hs
        refine ih e p.fKey (out ++ [p]) (by omega) (by omega) (by simp; omega) g2 ?_
        intro q hq
        rcases List.mem_append.1 hq with hq | hq
        · exact h4 q hq
        · simp only [List.mem_singleton] at hq
          subst hq
          omega
theorem prsS_bd (body : List Int) : lightP body.length (prsS body).1 ∧ (prsS body).1.length ≤ body.length :=
  spGo_bd body _ 0 _ [] (Int.le_refl _) (by simp) (by simp) (by omega) (fun p hp => by cases hp)
theorem prsAt_bd (zs : List Int) (p : Int) : lightP zs.length (prsAt zs p).1 ∧ (prsAt zs p).1.length ≤ zs.length := by
  unfold prsAt
  have h := unframe_len zs p
  split
  · have h1 := prsS_bd (unframe zs p).1
    exact ⟨fun q hq => by have := h1.1 q hq; omega, by omega⟩
  · exact ⟨fun q hq => (by cases hq), by simp⟩


/-- A reader in block b: these bytes are left; whether something was not there as told. -/
def RdrAt (lo : Nat) (w : World) (b : Nat) (zs : List Int) (bad : Bool) : Prop :=
  ∃ a c, Bw w b 86 [.slice a zs.length c, .bool bad] ∧ zs.length ≤ c ∧ c ≤ 9223372036854775807 ∧ Rd .u8 b w a zs ∧ (∀ b1 o1, a = some ⟨b1, o1, none⟩ → 0 < zs.length → lo ≤ b1)
theorem Rd.turn {k : IntKind} {b : Nat} {w w' : World} {a : Option Addr} {zs : List Int} (h : Rd k b w a zs) (ht : Turn [b] w w') : Rd k b w' a zs := by
  intro j hj
  obtain ⟨b1, o1, e, hB, hc⟩ := h j hj
  refine ⟨b1, o1, e, hB, ?_⟩
  have hl := World.block_lt_of_cell? _ _ hc
  have := ht.block b1 hl (by simp; omega)
  rw [← hc]
  simp only [World.cell?, this]
theorem Rd.rest {k : IntKind} {B : Nat} {w : World} {b o c : Nat} {zs : List Int} {f : Nat} (h : Rd k B w (some ⟨b, o, none⟩) zs) (hf : f ≤ zs.length) (hc : zs.length ≤ c) :
    Rd k B w (if c = f then some ⟨b, o, none⟩ else some ⟨b, o + f, none⟩) (zs.drop f) := by
  by_cases h1 : c = f
  · have : zs.drop f = [] := List.drop_of_length_le (by omega)
    rw [this]
    intro j hj
    simp at hj
  · rw [if_neg h1]
    have h2 := Rd.sub h (f := f) (m := zs.length - f) (by omega)
    rwa [List.take_of_length_le (by simp)] at h2

/-- What is left, and whether it is bad, behind something that was there or not. -/
def restL (ok : Bool) (zs : List Int) (q : Int) : List Int := if ok then zs.drop q.toNat else []
def badB (ok bad : Bool) : Bool := if ok then bad else true

set_option maxHeartbeats 1000000 in
theorem take_any {lo : Nat} (b : Nat) (nx : Int) (ok : Bool) (zs : List Int) (bad : Bool) (w : World) (h : RdrAt lo w b zs bad) (hn : ok = true → 0 < nx ∧ nx ≤ zs.length) :
    Calls Tryd.prog 65 #[.pointer (some ⟨b, 0, none⟩), .int .i64 nx, .bool ok] w fun e w' => (∃ v, e = .returned v) ∧ RdrAt lo w' b (restL ok zs nx) (badB ok bad) ∧ Turn [b] w w' := by
  obtain ⟨a, c, hb, h1, h2, h3, h9⟩ := h
  have y0 := hb.cell 0 _ rfl
  have y1 := hb.cell 1 _ rfl
  have f0 := hb.free 0
  have f1 := hb.free 1
  cases ok with
  | false =>
    have hb2 := (hb.put 0 (.slice none 0 0)).put 1 (.bool true)
    have ht : Turn [b] w ((w.setCell ⟨b, 0, none⟩ (.slice none 0 0)).setCell ⟨b, 1, none⟩ (.bool true)) := Turn.setCell (Turn.setCell (Turn.refl _ _) (by simp) _) (by simp) _
    go_enter Tryd.func65, Tryd.ntmps65
    go_wp2_with fail
    refine bodyPost_ret (results_none rfl _ _ _) rfl ?_
    exact ⟨⟨_, rfl⟩, ⟨none, 0, hb2, Nat.le_refl _, by omega, (fun j hj => absurd hj (Nat.not_lt_zero j)), (fun _ _ h => by cases h)⟩, ht⟩
  | true =>
    obtain ⟨g1, g2⟩ := hn rfl
    obtain ⟨f, hf⟩ : ∃ f : Nat, (f : Int) = nx := ⟨nx.toNat, by omega⟩
    have hfl : f ≤ zs.length := by omega
    obtain ⟨b1, o1, rfl, hB, _⟩ := h3 0 (by omega)
    have hlo := h9 b1 o1 rfl (by omega)
    have hrd := Rd.rest (c := c) h3 hfl h1
    have hfc : f ≤ c := by omega
    have HF : Hid (nx.toNat = f) := by show _ = _; omega
    have HRE : Hid (restL true zs (f : Int) = zs.drop f ∧ badB true bad = bad) := ⟨by simp [restL], rfl⟩
    have HLD : Hid ((zs.drop f).length = zs.length - f) := by show _ = _; simp
    have hb2 := hb.put 0 (.slice (if c = f then some ⟨b1, o1, none⟩ else some ⟨b1, o1 + f, none⟩) (zs.length - f) (c - f))
    have ht : Turn [b] w (w.setCell ⟨b, 0, none⟩ (.slice (if c = f then some ⟨b1, o1, none⟩ else some ⟨b1, o1 + f, none⟩) (zs.length - f) (c - f))) := Turn.setCell (Turn.refl _ _) (by simp) _
    have hrd2 := hrd.turn ht
    subst hf
    clear h3 hrd hn
    by_cases hcf : c = f
    · rw [if_pos hcf] at hb2 ht hrd2
      go_enter Tryd.func65, Tryd.ntmps65
      go_wp2_with fail
      go_end0
      rw [HRE.out.1, HRE.out.2]
      have hc0 : c - f = 0 := by omega
      rw [hc0] at hb2 ht hrd2
      refine ⟨⟨_, rfl⟩, ⟨some ⟨b1, o1, none⟩, 0, ?_, ?_, by omega, ?_, (fun b2 o2 h _ => by simp only [Option.some.injEq, Addr.mk.injEq, and_true] at h; omega)⟩, ht⟩
      · try simp only [if_true, HF.out]
        rw [HLD.out]
        exact hb2
      · try simp only [if_true, HF.out]
        rw [HLD.out]
        omega
      · try simp only [if_true, HF.out]
        exact hrd2
    · rw [if_neg hcf] at hb2 ht hrd2
      go_enter Tryd.func65, Tryd.ntmps65
      go_wp2_with fail
      go_end0
      rw [HRE.out.1, HRE.out.2]
      refine ⟨⟨_, rfl⟩, ⟨some ⟨b1, o1 + f, none⟩, c - f, ?_, ?_, by omega, ?_, (fun b2 o2 h _ => by simp only [Option.some.injEq, Addr.mk.injEq, and_true] at h; omega)⟩, ht⟩
      · try simp only [if_true, HF.out]
        rw [HLD.out]
        exact hb2
      · try simp only [if_true, HF.out]
        rw [HLD.out]
        omega
      · try simp only [if_true, HF.out]
        exact hrd2

set_option maxHeartbeats 1000000 in
theorem rdrNum_any {lo : Nat} (b : Nat) (zs : List Int) (bad : Bool) (n q : Int) (ok : Bool) (w : World) (hg : getNum zs 0 = (n, q, ok)) (h : RdrAt lo w b zs bad) (hb : BytesOk zs) (hlen : zs.length ≤ 140737488351232) :
    Calls Tryd.prog 52 #[.pointer (some ⟨b, 0, none⟩)] w fun e w' => e = .returned (.int .i64 n) ∧ RdrAt lo w' b (restL ok zs q) (badB ok bad) ∧ Turn [b] w w' := by
  have HC := Hid.mk (take_any b q ok zs bad w h (fun ho => by have h1 := getNum_bounds (b := zs) (p := 0) (by rw [hg]; exact ho); rw [hg] at h1; exact ⟨h1.2.2.1, h1.2.2.2⟩))
  obtain ⟨a, c, hbw, h1, h2, h3, _⟩ := h
  have y0 := hbw.cell 0 _ rfl
  have HG := Hid.mk hg
  clear hg
  go_enter Tryd.func52, Tryd.ntmps52
  go_wp2_with fail
  refine (implGetNum_any a _ c zs 0 w b rfl hlen hb h3).mono ?_
  rintro e w1 ⟨rfl, rfl⟩
  rw [HG.out]
  unfold numVal
  go_wp2_with fail
  refine Calls.mono HC.out ?_
  rintro e w2 ⟨⟨v, rfl⟩, hr2, ht2⟩
  have HR2 := Hid.mk hr2
  clear hr2
  go_wp2_with fail
  go_ret
  exact ⟨rfl, HR2.out, ht2⟩

theorem getText_bd {zs : List Int} (h : (getText zs 0).2.2 = true) : 0 < (getText zs 0).2.1 ∧ (getText zs 0).2.1 ≤ zs.length := by
  rcases text_cases zs 0 with ⟨r0, r1, _, h2⟩ | ⟨m, f, _, _, _, _, h2⟩ | ⟨m, f, _, h3, _, h4, h2⟩
  · rw [h2] at h; cases h
  · rw [h2] at h; cases h
  · rw [h2]
    constructor
    · show (0 : Int) < ((f + m : Nat) : Int); omega
    · show ((f + m : Nat) : Int) ≤ zs.length; omega
set_option maxHeartbeats 1000000 in
theorem rdrText_any {lo : Nat} (b : Nat) (zs : List Int) (bad : Bool) (t : List Int) (q : Int) (ok : Bool) (w : World) (hg : getText zs 0 = (t, q, ok)) (h : RdrAt lo w b zs bad) (hb : BytesOk zs) (hlen : zs.length ≤ 140737488351232) :
    Calls Tryd.prog 53 #[.pointer (some ⟨b, 0, none⟩)] w fun e w' => e = .returned (.string (strOfNums t)) ∧ RdrAt lo w' b (restL ok zs q) (badB ok bad) ∧ Turn [b] w w' := by
  have HC := Hid.mk (take_any b q ok zs bad w h (fun ho => by have h1 := getText_bd (zs := zs) (by rw [hg]; exact ho); rw [hg] at h1; exact h1))
  obtain ⟨a, c, hbw, h1, h2, h3, _⟩ := h
  have y0 := hbw.cell 0 _ rfl
  have HG := Hid.mk hg
  clear hg
  go_enter Tryd.func53, Tryd.ntmps53
  go_wp2_with fail
  refine (implGetText_any a _ c zs 0 w b rfl hlen h1 hb h3).mono ?_
  rintro e w1 ⟨rfl, rfl⟩
  rw [HG.out]
  unfold textVal
  go_wp2_with fail
  refine Calls.mono HC.out ?_
  rintro e w2 ⟨⟨v, rfl⟩, hr2, ht2⟩
  have HR2 := Hid.mk hr2
  clear hr2
  go_wp2_with fail
  go_ret
  exact ⟨rfl, HR2.out, ht2⟩

def flagOk (zs : List Int) : Bool := match zs with
  | [] => false
  | c :: _ => decide (c ≤ 1)
def flagOn (zs : List Int) : Bool := match zs with
  | [] => false
  | c :: _ => decide (c = 1)
set_option maxHeartbeats 1000000 in
theorem rdrFlag_any {lo : Nat} (b : Nat) (zs : List Int) (bad : Bool) (w : World) (h : RdrAt lo w b zs bad) (hb : BytesOk zs) :
    Calls Tryd.prog 67 #[.pointer (some ⟨b, 0, none⟩)] w fun e w' => e = .returned (.bool (flagOn zs)) ∧ RdrAt lo w' b (restL (flagOk zs) zs 1) (badB (flagOk zs) bad) ∧ Turn [b] w w' := by
  have HR := Hid.mk h
  obtain ⟨a, c, hbw, h1, h2, h3, _⟩ := h
  have y0 := hbw.cell 0 _ rfl
  cases zs with
  | nil =>
    have HC := Hid.mk (take_any b 1 false [] bad w HR.out (fun h => by cases h))
    simp only [List.length_nil] at y0
    go_enter Tryd.func67, Tryd.ntmps67
    go_wp2_with fail
    refine Calls.mono HC.out ?_
    rintro e w2 ⟨⟨v, rfl⟩, hr2, ht2⟩
    have HR2 := Hid.mk hr2
    clear hr2
    go_wp2_with fail
    go_ret
    exact ⟨rfl, HR2.out, ht2⟩
  | cons x r =>
    obtain ⟨b1, o1, rfl, hB, hc⟩ := h3 0 (by simp)
    simp only [List.getD_cons_zero, Nat.add_zero] at hc
    have hx := hb x (by simp)
    simp only [List.length_cons] at y0 h1
    by_cases g1 : x ≤ 1
    · have HK : Hid (flagOk (x :: r) = true) := decide_eq_true g1
      have HC := Hid.mk (take_any b 1 true (x :: r) bad w HR.out (fun _ => ⟨by omega, by simp only [List.length_cons]; omega⟩))
      by_cases g2 : x = 1
      · have HN : Hid (flagOn (x :: r) = true) := decide_eq_true g2
        have g3 : (x == 1) = true := beq_iff_eq.2 g2
        go_enter Tryd.func67, Tryd.ntmps67
        go_wp2_with fail
        refine Calls.mono HC.out ?_
        rintro e w2 ⟨⟨v, rfl⟩, hr2, ht2⟩
        have HR2 := Hid.mk hr2
        clear hr2
        go_wp2_with fail
        go_ret
        exact ⟨by rw [HN.out]; rfl, by rw [HK.out]; exact HR2.out, ht2⟩
      · have HN : Hid (flagOn (x :: r) = false) := decide_eq_false g2
        have g3 : (x == 1) = false := beq_eq_false_iff_ne.2 g2
        go_enter Tryd.func67, Tryd.ntmps67
        go_wp2_with fail
        refine Calls.mono HC.out ?_
        rintro e w2 ⟨⟨v, rfl⟩, hr2, ht2⟩
        have HR2 := Hid.mk hr2
        clear hr2
        go_wp2_with fail
        go_ret
        exact ⟨by rw [HN.out]; rfl, by rw [HK.out]; exact HR2.out, ht2⟩
    · have HK : Hid (flagOk (x :: r) = false) := decide_eq_false g1
      have HN : Hid (flagOn (x :: r) = false) := decide_eq_false (by omega)
      have HC := Hid.mk (take_any b 1 false (x :: r) bad w HR.out (fun h => by cases h))
      go_enter Tryd.func67, Tryd.ntmps67
      go_wp2_with fail
      refine Calls.mono HC.out ?_
      rintro e w2 ⟨⟨v, rfl⟩, hr2, ht2⟩
      have HR2 := Hid.mk hr2
      clear hr2
      go_wp2_with fail
      go_ret
      exact ⟨by rw [HN.out]; rfl, by rw [HK.out]; exact HR2.out, ht2⟩

end Go.Proofs.YtocgbeoglgkibaaDoor
