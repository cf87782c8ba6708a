/-
  Part 13 of the texts that the proof leans on.
-/
import Derived.Test.YtmedljankefhbaaDoorTbf0
import Derived.Test.YtmedljankefhbaaDoorTbf11
import Derived.Test.YtmedljankefhbaaDoorTbf8
import Derived.Laws.BitsLemmas
import Derived.Maps.Range
import Derived.Deep.RegionWith
import Derived.Laws.BytesArg
import Derived.Test.YtmedljankefhbaaDoorTbf1
import Derived.Test.YtmedljankefhbaaDoorTbf2
set_option linter.unusedVariables false
set_option linter.unusedSimpArgs false
set_option maxRecDepth 10000

namespace Go.Proofs.YtmedljankefhbaaDoor
open Go.RowKit Go.Maps Go.Shelf
abbrev q294_26_5_0 : Oper := ⟨some 24, .build 32 #[], 32, "l05_table.go:193", #[], none⟩
abbrev q294_26_5_1 : Oper := ⟨some 25, .load 55 (.global 1), 55, "l05_table.go:193", #[{ on := 2, ground := Ground.gcOnly Departure.lateStores }], none⟩
abbrev q294_26_5_2 : Oper := ⟨none, .store 32 (.tmp 4) (.tmp 24), 0, "l05_table.go:193", #[⟨0, .data⟩, ⟨0, .phase⟩, { on := 1, ground := Ground.textOnly Departure.lateStores }], none⟩
abbrev q294_26_5_3 : Oper := ⟨some 5, .assign (.tmp 25), 55, "l05_table.go:193", #[⟨1, .data⟩, ⟨2, .chain⟩, ⟨0, .phase⟩, ⟨1, .phase⟩, ⟨2, .phase⟩], none⟩
abbrev q294_26_10_0 : Oper := ⟨some 37, .move (.tmp 0), 22, "l05_table.go:197", #[], none⟩
abbrev q294_26_10_1 : Oper := ⟨some 38, .fieldAddr 80 (.tmp 6) 2, 0, "l05_table.go:197", #[], none⟩
abbrev q294_26_10_2 : Oper := ⟨some 39, .load 3 (.tmp 38), 3, "l05_table.go:197", #[⟨1, .data⟩], none⟩
abbrev q294_26_10_3 : Oper := ⟨some 40, .fieldAddr 80 (.tmp 6) 2, 0, "l05_table.go:197", #[], none⟩
abbrev q294_26_10_4 : Oper := ⟨some 41, .load 3 (.tmp 40), 3, "l05_table.go:197", #[⟨3, .data⟩], none⟩
abbrev q294_26_10_5 : Oper := ⟨some 42, .slice 22 (.tmp 37) none (some (.tmp 39)) (some (.tmp 41)), 22, "l05_table.go:197", #[⟨0, .data⟩, ⟨2, .data⟩, ⟨4, .data⟩], none⟩
abbrev q294_26_10_6 : Oper := ⟨some 43, .fieldAddr 49 (.tmp 9) 1, 0, "l05_table.go:197", #[], none⟩
abbrev q294_26_10_7 : Oper := ⟨some 44, .load 3 (.tmp 43), 3, "l05_table.go:197", #[⟨6, .data⟩], none⟩
abbrev q294_26_10_8 : Oper := ⟨some 45, .move (.tmp 1), 9, "l05_table.go:197", #[], none⟩
abbrev q294_26_10_9 : Oper := ⟨some 46, .call { callee := .value (.func 43), args := #[.tmp 42, .tmp 44, .tmp 45], argTypes := #[22, 3, 9] }, 60, "l05_table.go:197", #[⟨5, .data⟩, ⟨7, .data⟩, ⟨8, .data⟩], none⟩
abbrev q294_26_10_10 : Oper := ⟨some 47, .extract (.tmp 46) 0, 32, "l05_table.go:197", #[⟨9, .data⟩], none⟩
abbrev q294_26_10_11 : Oper := ⟨some 48, .extract (.tmp 46) 1, 55, "l05_table.go:197", #[⟨9, .data⟩], none⟩
abbrev q294_26_10_12 : Oper := ⟨none, .store 32 (.tmp 4) (.tmp 47), 0, "l05_table.go:197", #[⟨10, .data⟩, ⟨9, .chain⟩, ⟨0, .phase⟩, ⟨1, .phase⟩, ⟨2, .phase⟩, ⟨3, .phase⟩, ⟨4, .phase⟩, ⟨5, .phase⟩, ⟨6, .phase⟩, ⟨7, .phase⟩, ⟨8, .phase⟩, ⟨9, .phase⟩, ⟨10, .phase⟩, ⟨11, .phase⟩], none⟩
abbrev q294_26_10_13 : Oper := ⟨some 5, .assign (.tmp 48), 55, "l05_table.go:197", #[⟨11, .data⟩, ⟨12, .chain⟩, ⟨0, .phase⟩, ⟨1, .phase⟩, ⟨2, .phase⟩, ⟨3, .phase⟩, ⟨4, .phase⟩, ⟨5, .phase⟩, ⟨6, .phase⟩, ⟨7, .phase⟩, ⟨8, .phase⟩, ⟨9, .phase⟩, ⟨10, .phase⟩, ⟨11, .phase⟩, ⟨12, .phase⟩], none⟩
abbrev q294_26_12_0 : Oper := ⟨some 50, .build 32 #[], 32, "l05_table.go:200", #[], none⟩
abbrev q294_26_12_1 : Oper := ⟨some 51, .load 55 (.global 1), 55, "l05_table.go:200", #[{ on := 2, ground := Ground.gcOnly Departure.lateStores }], none⟩
abbrev q294_26_12_2 : Oper := ⟨none, .store 32 (.tmp 4) (.tmp 50), 0, "l05_table.go:200", #[⟨0, .data⟩, ⟨0, .phase⟩, { on := 1, ground := Ground.textOnly Departure.lateStores }], none⟩
abbrev q294_26_12_3 : Oper := ⟨some 5, .assign (.tmp 51), 55, "l05_table.go:200", #[⟨1, .data⟩, ⟨2, .chain⟩, ⟨0, .phase⟩, ⟨1, .phase⟩, ⟨2, .phase⟩], none⟩

attribute [local go_sem] Oper.semAt_some

def fpM (ms : List (ByteArray × Int)) (key : ByteArray) : Option (ByteArray × Int) := ms.find? fun m => !kLt m.1 key
def fpO (bl : Int → List MPair) (key : ByteArray) : Option (ByteArray × Int) → Option MPair
  | none => none
  | some m => firstK (bl m.2) key
def fpS (bl : Int → List MPair) (ms : List (ByteArray × Int)) (fl : List Int) (key : ByteArray) : Option MPair := if mayP fl key = true then fpO bl key (fpM ms key) else none
theorem fpS_no {bl : Int → List MPair} {ms : List (ByteArray × Int)} {fl : List Int} {key : ByteArray} (h : mayP fl key = false) : fpS bl ms fl key = none := by unfold fpS; rw [h]; rfl
theorem fpS_yes {bl : Int → List MPair} {ms : List (ByteArray × Int)} {fl : List Int} {key : ByteArray} (h : mayP fl key = true) : fpS bl ms fl key = fpO bl key (fpM ms key) := by unfold fpS; rw [if_pos h]

set_option maxHeartbeats 8000000 in
theorem findPair_any (a : Option Addr) (n cap : Nat) (zs : List Int) (key : ByteArray) (marks : List (ByteArray × Int)) (fl ps : List Int) (bl : Int → List MPair) (pe q : Addr) (w : World) (hx : zs.length = n) (hlen : n ≤ 1048576) (hcap : n ≤ cap) (hcm : cap ≤ 9223372036854775807) (hb : BytesOk zs) (hr : Rd .u8 w.heap.size w a zs) (ht : TabAt w) (hE : ErrAt w pe) (hE2 : Err2 w q) (hks : key.size ≤ 2000000)
    (hix : ixR zs = some ps) (hmx : mxB (unframe zs (rd4 zs (zs.length - 4))).1 = (marks, fl, false))
    (hbl : ∀ m, m ∈ marks → (∃ nx, unframe (zs.take (rd4 zs (zs.length - 4)).toNat) m.2 = (blockB ByteArray.empty (bl m.2), nx, true)) ∧ ∀ x, x ∈ bl m.2 → x.fKey.size ≤ 1000000 ∧ x.fVal.size ≤ 1000000) :
    Calls Tryd.prog 26 #[.slice a n cap, .string key] w (PiPost w q (fpS bl marks fl key)) := by
  have HX := Hid.mk hx
  have HB := Hid.mk hb
  have HR := Hid.mk hr
  have HT := Hid.mk ht
  have HE := Hid.mk hE
  have HE2 := Hid.mk hE2
  have HIX := Hid.mk hix
  have HMX := Hid.mk hmx
  have HBL := Hid.mk hbl
  obtain ⟨wa, hwa⟩ : ∃ x, x = w.alloc (.cells #[.string ⟨#[]⟩, .string ⟨#[]⟩, .bool false] 32) := ⟨_, rfl⟩
  have hba : Below w.heap.size w wa := by rw [hwa]; exact (Below.refl _ _).alloc (Nat.le_refl _) _
  have hza : wa.heap.size = w.heap.size + 1 := by rw [hwa]; simp
  have hR0 : Bw wa w.heap.size 32 [.string ⟨#[]⟩, .string ⟨#[]⟩, .bool false] := by rw [hwa]; exact Bw.new' _ _ _ rfl
  have hCi := readIndex_any a n cap zs pe wa hx hlen hcap hcm hb ((hr.below hba).mono hba.size) (ht.below hba ht.size) (hE.below hba)
  have HWA := Hid.mk hwa
  have HZA := Hid.mk hza
  clear hx hb hr ht hE hE2 hwa hix hmx hbl hza
  go_enter Tryd.func26, Tryd.ntmps26
  go_wp2_with fail
  rw [← HWA.out]
  refine Calls.mono hCi ?_
  rintro e w1 ⟨hb1, ⟨hN, s, rfl⟩ | ⟨ps', marks', vm, vf, hps, hmk, rfl, hrow, hat0, hat1, hml, af, nf, cf, rfl, fl', hmx', hf8, rfl, hfc, hfr, hfb⟩⟩
  · exact absurd (HIX.out.symm.trans hN) (by simp)
  · have hmm := HMX.out.symm.trans hmx'
    simp only [Prod.mk.injEq, and_true] at hmm
    obtain ⟨rfl, rfl⟩ := hmm
    obtain ⟨pt, hpt⟩ : ∃ pt, pt = rd4 zs (zs.length - 4) := ⟨_, rfl⟩
    rw [← hpt] at HBL hat0 hat1 ⊢
    obtain ⟨ptn, rfl⟩ : ∃ x : Nat, pt = (x : Int) := ⟨pt.toNat, by omega⟩
    obtain ⟨cssm, m1, m2, m3, m4⟩ := id hrow
    obtain ⟨am, cm, rfl⟩ := own_slice m4
    have HROW := Hid.mk hrow
    obtain ⟨b0, o0, rfl, hb00, _⟩ := HR.out 0 (by omega)
    have hptn : ptn + 4 ≤ n := by rw [HX.out] at hat1; omega
    rw [Int.toNat_natCast] at HBL
    clear hCi hps hmk hpt hrow m1 m2 m3 m4 cssm hmx' HMX HIX
    obtain ⟨w2, hw2⟩ : ∃ x, x = w1.alloc (.cells #[.slice am marks.length cm, .slice af 8 cf, .int .i64 ptn] 80) := ⟨_, rfl⟩
    have hb12 : Below w1.heap.size w1 w2 := by rw [hw2]; exact (Below.refl _ _).alloc (Nat.le_refl _) _
    have hX2 : Bw w2 w1.heap.size 80 [.slice am marks.length cm, .slice af 8 cf, .int .i64 ptn] := by rw [hw2]; exact Bw.new' _ _ _ rfl
    have hb02 : Below w.heap.size w w2 := hba.trans ((hb1.mono hba.size).trans (hb12.mono (Nat.le_trans hba.size hb1.size)))
    have hR02 := (hR0.under hb1).under hb12
    have hlX : w.heap.size < w1.heap.size := by have := hb1.size; have := HZA.out; omega
    have hCm := implMayHave_any af 8 cf fl key w2 hf8 (by omega) hfb ((hfr.below hb12).mono hb12.size) (by omega) (HT.out.below hb02 HT.out.size)
    have x0 := hX2.cell 0 _ rfl
    have x1 := hX2.cell 1 _ rfl
    have HW2 := Hid.mk hw2
    have HRW2 : Hid (RowR 2 49 rMark 0 w2 w.heap.size (.slice am marks.length cm) marks) := by
      obtain ⟨css, g1, g2, g3, g4⟩ := HROW.out
      exact ⟨css, g1, g2, fun j p q => g3 j p q, own_base (own_below g4 hb12) (by have := HZA.out; omega)⟩
    clear hw2 hfr hfb hf8 HROW hR0
    go_wp2_with fail
    rw [← HW2.out]
    refine Calls.mono hCm ?_
    rintro e w3 ⟨rfl, hb23⟩
    have hb03 : Below w.heap.size w w3 := hb02.trans (hb23.mono hb02.size)
    have hR03 := hR02.under hb23
    have hX3 := hX2.under hb23
    have HRW3 : Hid (RowR 2 49 rMark 0 w3 w.heap.size (.slice am marks.length cm) marks) := by
      obtain ⟨css, g1, g2, g3, g4⟩ := HRW2.out
      exact ⟨css, g1, g2, fun j p q => g3 j p q, own_below g4 hb23⟩
    clear hCm x0 x1 HRW2 HW2
    have HHR := Hid.mk hR03
    have HHX := Hid.mk hX3
    have HB03 := Hid.mk hb03
    have HL3 : Hid (w1.heap.size < w3.heap.size) := hX3.lt
    clear hR02 hX2 hR03 hX3 hb02 hb12 hb23 hb03 hb1 hba
    cases hmay : mayP fl key with
    | false =>
      have HF := Hid.mk (fpS_no (bl := bl) (ms := marks) hmay)
      have y0 : ∀ W, Turn [w.heap.size] w3 W → W.cell? ⟨1, 0, none⟩ = some (.iface 141 (.pointer (some q))) := fun W hW => (hW.cell (World.block_lt_of_cell? _ _ (HE2.out.below HB03.out)) (by have := World.block_lt_of_cell? _ _ HE2.out; simp at this ⊢; omega)).trans (HE2.out.below HB03.out)
      have ud : Below w3.heap.size w3 w3.drew := Below.drew (Below.refl _ _)
      have HQ0 := Hid.mk (HHR.out.under ud)
      have HBB := Hid.mk (HB03.out.trans (ud.mono HB03.out.size))
      clear hmay ud
      go_wp2_with fail
      refine wp_region_held_drew (S := fun W => Turn [w.heap.size] w3 W) (by kernel_rfl) ((Turn.refl _ _).drew) (fun hHeld => ?_)
      obtain ⟨wS, hwS⟩ : ∃ wS, wS = w3.drew := ⟨_, rfl⟩
      rw [← hwS] at hHeld HQ0 HBB ⊢
      clear hwS
      refine tk 0 q294_26_5_0 (some 24) (v := ?v1) rfl rfl (by kernel_rfl) hHeld (by rfl) (fun _ _ _ x => x) (fun w h => ?y1) ?_; (case y1 => (try dsimp only at h); go_simp; try (with_reducible rfl)); try simp only [Act.put, sa, s0, s1]
      refine tk 1 q294_26_5_1 (some 25) (v := ?v2) rfl rfl (by kernel_rfl) hHeld (by rfl) (fun _ _ _ x => x) (fun w h => ?y2) ?_; (case y2 => (try dsimp only at h); go_simp; try (with_reducible rfl)); try simp only [Act.put, sa, s0, s1]
      refine wpAnyH_ready (rs := [2]) (by kernel_rfl) (by simp) ?_
      refine (AllReadyH.cons (o := q294_26_5_2) rfl (fun K hK => ?_) AllReadyH.nil)
      · skip
        have h6 := HQ0.out
        have s0' := h6.cell 0 _ rfl
        have s1' := h6.cell 1 _ rfl
        have s2' := h6.cell 2 _ rfl
        have t0' := h6.free 0
        have t1' := h6.free 1
        have t2' := h6.free 2
        have s4 := h6.lt
        go_simp
        obtain ⟨wE2, hq2⟩ : ∃ x, x = ((wS.setCell ⟨w.heap.size, 0, none⟩ (.string ⟨#[]⟩)).setCell ⟨w.heap.size, 1, none⟩ (.string ⟨#[]⟩)).setCell ⟨w.heap.size, 2, none⟩ (.bool false) := ⟨_, rfl⟩
        have hT2 : Turn [w.heap.size] wS wE2 := by rw [hq2]; exact turn3 _ _ _ _ _
        have HQ0 : Hid (Bw wE2 w.heap.size 32 [.string ⟨#[]⟩, .string ⟨#[]⟩, .bool false]) := by unfold Hid; rw [hq2]; exact ((h6.put 0 _).put 1 _).put 2 _
        have HBB := Hid.mk (HBB.out.trans (hT2.below (fun k hk => by simp at hk; omega) HBB.out.size))
        rw [← hq2]
        clear hq2 s0' s1' s2' t0' t1' t2' s4 h6
        refine hK.out _ _ (hHeld.trans hT2) (fun hHeld => ?_)
        clear hK K
        try simp only [Act.put, sa, s0, s1]
        refine tk 3 q294_26_5_3 (some 5) (v := ?v3) rfl rfl (by kernel_rfl) hHeld (by rfl) (fun _ _ _ x => x) (fun w h => ?y3) ?_; (case y3 => (try dsimp only at h); go_simp; try (with_reducible rfl)); try simp only [Act.put, sa, s0, s1]
        refine wpAnyH_done (by kernel_rfl) ?_ _
        go_wp2_with fail
        have q0 := HQ0.out.cell 0 _ rfl
        have q1 := HQ0.out.cell 1 _ rfl
        have q2 := HQ0.out.cell 2 _ rfl
        refine bodyPost_ret (v := .tuple #[.agg #[.string ⟨#[]⟩, .string ⟨#[]⟩, .bool false], (.iface 141 (.pointer (some q)))]) (by simp [results, Tryd.results26, go_sem, *]) rfl ?_
        exact ⟨by rw [HF.out]; rfl, HBB.out⟩
    | true =>
      have HF := Hid.mk (fpS_yes (bl := bl) (ms := marks) hmay)
      have x0 := HHX.out.cell 0 _ rfl
      clear hmay
      go_wp2_with fail
      go_loopw [29] (fun vi wr => ∃ i : Nat, vi = .int .i64 i ∧ i ≤ marks.length ∧ Hid (fpM marks key = fpM (marks.drop i) key) ∧ Below w3.heap.size w3 wr) (fun vi _ => marks.length - (intOf vi).toNat)
      case atStart => exact ⟨0, rfl, Nat.zero_le _, Hid.mk rfl, Below.refl _ _⟩
      case round =>
        obtain ⟨i, rfl, hi, HFM, hbr⟩ := hrel
        have hb0r : Below w.heap.size w wr := HB03.out.trans (hbr.mono HB03.out.size)
        have hRr := HHR.out.under hbr
        have hXr := HHX.out.under hbr
        by_cases hlt : i < marks.length
        · have hrw : RowR 2 49 rMark 0 wr w.heap.size (.slice am marks.length cm) marks := by
            obtain ⟨css, g1, g2, g3, g4⟩ := HRW3.out
            exact ⟨css, g1, g2, fun j p q => g3 j p q, own_below g4 hbr⟩
          obtain ⟨am', cm', hab, hLM⟩ := RowR.leaf rMark_good hrw (Nat.zero_le _)
          simp only [Value.slice.injEq, true_and] at hab
          obtain ⟨rfl, rfl⟩ := hab
          obtain ⟨b1, o1, rfl, hB1, cs1, hcl1, hcell1, hrM⟩ := hLM.2.2 i hlt
          obtain ⟨mk, hmk⟩ : ∃ mk, mk = marks[i] := ⟨_, rfl⟩
          rw [← hmk] at hrM
          have HP : Hid (marks.drop i = mk :: marks.drop (i + 1)) := by show _ = _; rw [List.drop_eq_getElem_cons hlt, hmk]
          have HMEM : Hid (mk ∈ marks) := by unfold Hid; rw [hmk]; exact List.getElem_mem hlt
          obtain rfl := hrM
          have k0 := hcell1 0 _ rfl
          have k1 := hcell1 1 _ rfl
          rw [Nat.add_zero] at k0
          have hlti : (i : Int) < (marks.length : Int) := by omega
          clear hcell1 hcl1 hLM hmk hrw
          obtain ⟨wm, hwm⟩ : ∃ x, x = wr.alloc (.cells #[.string mk.1, .int .i64 mk.2] 49) := ⟨_, rfl⟩
          have hbm : Below wr.heap.size wr wm := by rw [hwm]; exact (Below.refl _ _).alloc (Nat.le_refl _) _
          have hbxm : Bw wm wr.heap.size 49 [.string mk.1, .int .i64 mk.2] := by rw [hwm]; exact Bw.new' _ _ _ rfl
          have j0 := hbxm.cell 0 _ rfl
          have HWM := Hid.mk hwm
          have hb3m : Below w3.heap.size w3 wm := hbr.trans (hbm.mono hbr.size)
          have hi2 : ¬ (9223372036854775807 : Int) < (i : Int) + 1 := by omega
          by_cases hA : kLt mk.1 key = true
          · have HFN : Hid (fpM marks key = fpM (marks.drop (i + 1)) key) := by
              show _ = _
              rw [HFM.out, HP.out]
              unfold fpM
              rw [List.find?_cons_of_neg (by simp [hA])]
            obtain ⟨e1, e2, e3⟩ := kLt_facts hA
            have hA' : Op.bytesLess mk.1.toList key.toList = true := hA
            clear hwm hRr hXr
            go_wp2_with fail
            rw [← HWM.out]
            go_roundw
            case rel => exact ⟨i + 1, by simp, by omega, HFN, hb3m⟩
            case measure => simp [intOf]; omega
          · have hA2 : kLt mk.1 key = false := Bool.eq_false_iff.2 hA
            have hA' : Op.bytesLess mk.1.toList key.toList = false := hA2
            have HFY : Hid (fpM marks key = some mk) := by
              show _ = _
              rw [HFM.out, HP.out]
              unfold fpM
              rw [List.find?_cons_of_pos (by simp [hA2])]
            obtain ⟨o, ho⟩ : ∃ o, o = firstK (bl mk.2) key := ⟨_, rfl⟩
            obtain ⟨s0, v0, c0, hfc0⟩ : ∃ s v b, fndC o = [.string s, .string v, .bool b] := by cases o with
              | none => exact ⟨_, _, _, rfl⟩
              | some x => exact ⟨_, _, _, rfl⟩
            obtain ⟨ev, hev⟩ : ∃ ev, ev = fndE q o := ⟨_, rfl⟩
            have HPO : Hid (∀ e w', e = .returned (.tuple #[.agg #[.string s0, .string v0, .bool c0], ev]) → Below w.heap.size w w' → PiPost w q (fpS bl marks fl key) e w') := fun e w' h1 h2 => ⟨by rw [h1, HF.out, HFY.out]; show _ = Ending.returned (.tuple #[.agg (fndC (firstK (bl mk.2) key)).toArray, fndE q (firstK (bl mk.2) key)]); rw [← ho, hfc0, hev], h2⟩
            have hb0m : Below w.heap.size w wm := HB03.out.trans (hb3m.mono HB03.out.size)
            have hRm := hRr.under hbm
            have hXm := hXr.under hbm
            have hzl : w.heap.size < wr.heap.size := hRr.lt
            have HCP : Hid (∀ W, Turn [w.heap.size] wm W → Calls Tryd.prog 43 #[.slice (some ⟨b0, o0, none⟩) ptn ptn, .int .i64 mk.2, .string key] W fun e w' => e = .returned (.tuple #[.agg #[.string s0, .string v0, .bool c0], ev]) ∧ Below W.heap.size W w') := fun W hW => by
              have hBW : Below w.heap.size w W := hb0m.trans (hW.below (fun k hk => by simp at hk; omega) hb0m.size)
              obtain ⟨⟨nx, hu⟩, hsz⟩ := HBL.out mk HMEM.out
              refine (pairInBlock_any (some ⟨b0, o0, none⟩) ptn (zs.take ptn) mk.2 key (bl mk.2) nx pe q W (by rw [List.length_take, HX.out]; omega) (by omega) (HB.out.first ptn) (((HR.out.below hBW).mono hBW.size).first ptn) (HT.out.below hBW HT.out.size) (HE.out.below hBW) (HE2.out.below hBW) hu hsz).mono ?_
              rintro e w' ⟨h1, h2⟩
              rw [← ho, hfc0, ← hev] at h1
              exact ⟨h1, h2⟩
            have z1 : ∀ W, Turn [w.heap.size] wm W → W.cell? ⟨w1.heap.size, 2, none⟩ = some (.int .i64 ptn) := fun W hW => (hXm.turn hW (by simp; omega)).cell 2 _ rfl
            have z2 : ∀ W, Turn [w.heap.size] wm W → W.cell? ⟨wr.heap.size, 1, none⟩ = some (.int .i64 mk.2) := fun W hW => (hbxm.turn hW (by simp; omega)).cell 1 _ rfl
            have hp0 : ptn ≤ n := by omega
            have hp1 : ptn ≤ cap := by omega
            have ud : Below wm.heap.size wm wm.drew := Below.drew (Below.refl _ _)
            have HQ0 := Hid.mk (hRm.under ud)
            have HBB := Hid.mk (hb0m.trans (ud.mono hb0m.size))
            clear hwm hRr hXr hRm hXm hev hfc0 ho ud hA
            go_wp2_with fail
            rw [← HWM.out]
            refine wp_region_held_drew (S := fun W => Turn [w.heap.size] wm W) (by kernel_rfl) ((Turn.refl _ _).drew) (fun hHeld => ?_)
            obtain ⟨wS, hwS⟩ : ∃ wS, wS = wm.drew := ⟨_, rfl⟩
            rw [← hwS] at hHeld HQ0 HBB ⊢
            clear hwS
            refine tk 0 q294_26_10_0 (some 37) (v := ?v4) rfl rfl (by kernel_rfl) hHeld (by rfl) (fun _ _ _ x => x) (fun w h => ?y4) ?_; (case y4 => (try dsimp only at h); go_simp; try (with_reducible rfl)); try simp only [Act.put, sa, s0, s1]
            refine tk 1 q294_26_10_1 (some 38) (v := ?v5) rfl rfl (by kernel_rfl) hHeld (by rfl) (fun _ _ _ x => x) (fun w h => ?y5) ?_; (case y5 => (try dsimp only at h); go_simp; try (with_reducible rfl)); try simp only [Act.put, sa, s0, s1]
            refine tk 2 q294_26_10_2 (some 39) (v := ?v6) rfl rfl (by kernel_rfl) hHeld (by rfl) (fun _ _ _ x => x) (fun w h => ?y6) ?_; (case y6 => (try dsimp only at h); go_simp; try (with_reducible rfl)); try simp only [Act.put, sa, s0, s1]
            refine tk 3 q294_26_10_3 (some 40) (v := ?v7) rfl rfl (by kernel_rfl) hHeld (by rfl) (fun _ _ _ x => x) (fun w h => ?y7) ?_; (case y7 => (try dsimp only at h); go_simp; try (with_reducible rfl)); try simp only [Act.put, sa, s0, s1]
            refine tk 4 q294_26_10_4 (some 41) (v := ?v8) rfl rfl (by kernel_rfl) hHeld (by rfl) (fun _ _ _ x => x) (fun w h => ?y8) ?_; (case y8 => (try dsimp only at h); go_simp; try (with_reducible rfl)); try simp only [Act.put, sa, s0, s1]
            refine tk 5 q294_26_10_5 (some 42) (v := ?v9) rfl rfl (by kernel_rfl) hHeld (by rfl) (fun _ _ _ x => x) (fun w h => ?y9) ?_; (case y9 => (try dsimp only at h); go_simp; try (with_reducible rfl)); try simp only [Act.put, sa, s0, s1]
            refine tk 6 q294_26_10_6 (some 43) (v := ?v10) rfl rfl (by kernel_rfl) hHeld (by rfl) (fun _ _ _ x => x) (fun w h => ?y10) ?_; (case y10 => (try dsimp only at h); go_simp; try (with_reducible rfl)); try simp only [Act.put, sa, s0, s1]
            refine tk 7 q294_26_10_7 (some 44) (v := ?v11) rfl rfl (by kernel_rfl) hHeld (by rfl) (fun _ _ _ x => x) (fun w h => ?y11) ?_; (case y11 => (try dsimp only at h); go_simp; try (with_reducible rfl)); try simp only [Act.put, sa, s0, s1]
            refine tk 8 q294_26_10_8 (some 45) (v := ?v12) rfl rfl (by kernel_rfl) hHeld (by rfl) (fun _ _ _ x => x) (fun w h => ?y12) ?_; (case y12 => (try dsimp only at h); go_simp; try (with_reducible rfl)); try simp only [Act.put, sa, s0, s1]
            refine wpAnyH_ready (rs := [9]) (by kernel_rfl) (by simp) ?_
            refine (AllReadyH.cons (o := q294_26_10_9) rfl (fun K hK => ?_) AllReadyH.nil)
            · go_simp
              refine Calls.mono (HCP.out _ hHeld) ?_
              rintro e wE9 ⟨rfl, hop9⟩
              have HQ0 := Hid.mk (HQ0.out.under hop9)
              have HBB := Hid.mk (HBB.out.trans (hop9.mono HBB.out.size))
              go_wp2_with fail
              refine hK.out _ _ (hHeld.trans (Turn.ofBelow hop9)) (fun hHeld => ?_)
              clear hK K
              try simp only [Act.put, sa, s0, s1]
              refine tk 10 q294_26_10_10 (some 47) (v := ?v13) rfl rfl (by kernel_rfl) hHeld (by rfl) (fun _ _ _ x => x) (fun w h => ?y13) ?_; (case y13 => (try dsimp only at h); go_simp; try (with_reducible rfl)); try simp only [Act.put, sa, s0, s1]
              refine tk 11 q294_26_10_11 (some 48) (v := ?v14) rfl rfl (by kernel_rfl) hHeld (by rfl) (fun _ _ _ x => x) (fun w h => ?y14) ?_; (case y14 => (try dsimp only at h); go_simp; try (with_reducible rfl)); try simp only [Act.put, sa, s0, s1]
              refine wpAnyH_ready (rs := [12]) (by kernel_rfl) (by simp) ?_
              refine (AllReadyH.cons (o := q294_26_10_12) rfl (fun K hK => ?_) AllReadyH.nil)
              · skip
                have h6 := HQ0.out
                have s0' := h6.cell 0 _ rfl
                have s1' := h6.cell 1 _ rfl
                have s2' := h6.cell 2 _ rfl
                have t0' := h6.free 0
                have t1' := h6.free 1
                have t2' := h6.free 2
                have s4 := h6.lt
                go_simp
                obtain ⟨wE12, hq2⟩ : ∃ x, x = ((wE9.setCell ⟨w.heap.size, 0, none⟩ (.string s0)).setCell ⟨w.heap.size, 1, none⟩ (.string v0)).setCell ⟨w.heap.size, 2, none⟩ (.bool c0) := ⟨_, rfl⟩
                have hT2 : Turn [w.heap.size] wE9 wE12 := by rw [hq2]; exact turn3 _ _ _ _ _
                have HQ0 : Hid (Bw wE12 w.heap.size 32 [.string s0, .string v0, .bool c0]) := by unfold Hid; rw [hq2]; exact ((h6.put 0 _).put 1 _).put 2 _
                have HBB := Hid.mk (HBB.out.trans (hT2.below (fun k hk => by simp at hk; omega) HBB.out.size))
                rw [← hq2]
                clear hq2 s0' s1' s2' t0' t1' t2' s4 h6
                refine hK.out _ _ (hHeld.trans hT2) (fun hHeld => ?_)
                clear hK K
                try simp only [Act.put, sa, s0, s1]
                refine tk 13 q294_26_10_13 (some 5) (v := ?v15) rfl rfl (by kernel_rfl) hHeld (by rfl) (fun _ _ _ x => x) (fun w h => ?y15) ?_; (case y15 => (try dsimp only at h); go_simp; try (with_reducible rfl)); try simp only [Act.put, sa, s0, s1]
                refine wpAnyH_done (by kernel_rfl) ?_ _
                go_wp2_with fail
                have q0 := HQ0.out.cell 0 _ rfl
                have q1 := HQ0.out.cell 1 _ rfl
                have q2 := HQ0.out.cell 2 _ rfl
                refine bodyPost_ret (v := .tuple #[.agg #[.string s0, .string v0, .bool c0], ev]) (by simp [results, Tryd.results26, go_sem, *]) rfl ?_
                exact HPO.out _ _ rfl HBB.out
        · have hie : ¬ (i : Int) < (marks.length : Int) := by omega
          have HFN : Hid (fpS bl marks fl key = none) := by
            show _ = _
            rw [HF.out, HFM.out, List.drop_of_length_le (by omega)]
            rfl
          have y0 : ∀ W, Turn [w.heap.size] wr W → W.cell? ⟨1, 0, none⟩ = some (.iface 141 (.pointer (some q))) := fun W hW => (hW.cell (World.block_lt_of_cell? _ _ (HE2.out.below hb0r)) (by have := World.block_lt_of_cell? _ _ HE2.out; simp at this ⊢; omega)).trans (HE2.out.below hb0r)
          have ud : Below wr.heap.size wr wr.drew := Below.drew (Below.refl _ _)
          have HQ0 := Hid.mk (hRr.under ud)
          have HBB := Hid.mk (hb0r.trans (ud.mono hb0r.size))
          clear ud hRr hXr
          go_wp2_with fail
          refine wp_region_held_drew (S := fun W => Turn [w.heap.size] wr W) (by kernel_rfl) ((Turn.refl _ _).drew) (fun hHeld => ?_)
          obtain ⟨wS, hwS⟩ : ∃ wS, wS = wr.drew := ⟨_, rfl⟩
          rw [← hwS] at hHeld HQ0 HBB ⊢
          clear hwS
          refine tk 0 q294_26_12_0 (some 50) (v := ?v16) rfl rfl (by kernel_rfl) hHeld (by rfl) (fun _ _ _ x => x) (fun w h => ?y16) ?_; (case y16 => (try dsimp only at h); go_simp; try (with_reducible rfl)); try simp only [Act.put, sa, s0, s1]
          refine tk 1 q294_26_12_1 (some 51) (v := ?v17) rfl rfl (by kernel_rfl) hHeld (by rfl) (fun _ _ _ x => x) (fun w h => ?y17) ?_; (case y17 => (try dsimp only at h); go_simp; try (with_reducible rfl)); try simp only [Act.put, sa, s0, s1]
          refine wpAnyH_ready (rs := [2]) (by kernel_rfl) (by simp) ?_
          refine (AllReadyH.cons (o := q294_26_12_2) rfl (fun K hK => ?_) AllReadyH.nil)
          · skip
            have h6 := HQ0.out
            have s0' := h6.cell 0 _ rfl
            have s1' := h6.cell 1 _ rfl
            have s2' := h6.cell 2 _ rfl
            have t0' := h6.free 0
            have t1' := h6.free 1
            have t2' := h6.free 2
            have s4 := h6.lt
            go_simp
            obtain ⟨wE2, hq2⟩ : ∃ x, x = ((wS.setCell ⟨w.heap.size, 0, none⟩ (.string ⟨#[]⟩)).setCell ⟨w.heap.size, 1, none⟩ (.string ⟨#[]⟩)).setCell ⟨w.heap.size, 2, none⟩ (.bool false) := ⟨_, rfl⟩
            have hT2 : Turn [w.heap.size] wS wE2 := by rw [hq2]; exact turn3 _ _ _ _ _
            have HQ0 : Hid (Bw wE2 w.heap.size 32 [.string ⟨#[]⟩, .string ⟨#[]⟩, .bool false]) := by unfold Hid; rw [hq2]; exact ((h6.put 0 _).put 1 _).put 2 _
            have HBB := Hid.mk (HBB.out.trans (hT2.below (fun k hk => by simp at hk; omega) HBB.out.size))
            rw [← hq2]
            clear hq2 s0' s1' s2' t0' t1' t2' s4 h6
            refine hK.out _ _ (hHeld.trans hT2) (fun hHeld => ?_)
            clear hK K
            try simp only [Act.put, sa, s0, s1]
            refine tk 3 q294_26_12_3 (some 5) (v := ?v18) rfl rfl (by kernel_rfl) hHeld (by rfl) (fun _ _ _ x => x) (fun w h => ?y18) ?_; (case y18 => (try dsimp only at h); go_simp; try (with_reducible rfl)); try simp only [Act.put, sa, s0, s1]
            refine wpAnyH_done (by kernel_rfl) ?_ _
            go_wp2_with fail
            have q0 := HQ0.out.cell 0 _ rfl
            have q1 := HQ0.out.cell 1 _ rfl
            have q2 := HQ0.out.cell 2 _ rfl
            refine bodyPost_ret (v := .tuple #[.agg #[.string ⟨#[]⟩, .string ⟨#[]⟩, .bool false], (.iface 141 (.pointer (some q)))]) (by simp [results, Tryd.results26, go_sem, *]) rfl ?_
            exact ⟨by rw [HFN.out]; rfl, HBB.out⟩

end Go.Proofs.YtmedljankefhbaaDoor

namespace Go.Proofs.YtmedljankefhbaaDoor
open Go.RowKit Go.Maps Go.Shelf Go.Extern.Stop Go.Stop Go.Extern

attribute [local go_sem] Oper.semAt_some

theorem Tryd.noIsE (v : Value) (xT : TypeId) (w : World) : (Instr.typeAssert (.iface 141 v) xT 117 true).run Tryd.prog w = .ok (.tuple #[.nilIface, .bool false]) w := run_typeAssert_lacksB Tryd.underlying117 (by kernel_rfl) (by kernel_rfl) v xT w
theorem Tryd.noUnwrapE (v : Value) (xT : TypeId) (w : World) : (Instr.typeAssert (.iface 141 v) xT 120 true).run Tryd.prog w = .ok (.tuple #[.nilIface, .bool false]) w := run_typeAssert_lacksB Tryd.underlying120 (by kernel_rfl) (by kernel_rfl) v xT w
theorem Tryd.noUnwrapsE (v : Value) (xT : TypeId) (w : World) : (Instr.typeAssert (.iface 141 v) xT 122 true).run Tryd.prog w = .ok (.tuple #[.nilIface, .bool false]) w := run_typeAssert_lacksB Tryd.underlying122 (by kernel_rfl) (by kernel_rfl) v xT w

/-- An error's block, as Go lays it. -/
def ErrB (w : World) (a : Addr) : Prop := ∃ (ca : Array Value) (ta : TypeId), w.heap[a.block]? = some (.cells ca ta (0, 0))
theorem ErrB.below {w w' : World} {a : Addr} (h : ErrB w a) (hb : Below w.heap.size w w') : ErrB w' a := by
  obtain ⟨ca, ta, h⟩ := h
  refine ⟨ca, ta, ?_⟩
  rw [hb.block a.block (by
    by_cases hl : a.block < w.heap.size
    · exact hl
    · rw [Array.getElem?_eq_none (by omega)] at h; cases h)]
  exact h

/-- errors.Is(x, x). -/
theorem is_same (b : Addr) (w : World) :
    Calls Tryd.prog 24 #[errV b, errV b] w fun e w' => e = .returned (.bool true) ∧ w' = w := by
  unfold errV
  obtain ⟨i, hi, hcmp⟩ := Option.map_eq_some_iff.1 Tryd.isComp
  obtain ⟨j, hj, hjs⟩ := Option.map_eq_some_iff.1 Tryd.isSize
  have h8 := @run_callFunc_extern Tryd.prog 41 _ Extern.ReflectliteType.typeOf Tryd.func41 (by kernel_rfl) (by kernel_rfl) (by kernel_rfl) (by kernel_rfl)
  have h32 := @run_callFunc_extern Tryd.prog 91 _ (Extern.ReflectliteType.method fun t => do Extern.Rtype.noPackHeld "Comparable" t; pure (.bool (← typeInfo t).comparable)) Tryd.func91 (by kernel_rfl) (by kernel_rfl) (by kernel_rfl) (by kernel_rfl)
  have tT := Tryd.isTypeOf
  have cT := Tryd.isComparable
  have mC := Tryd.isMethodC
  have heq := fun W => run_eql_iface_ptr_same (P := Tryd.prog) W b Tryd.underlying55 Tryd.underlying141 hi hcmp hj
  go_enter Tryd.func24, Tryd.ntmps24
  go_wp2
  refine wp_loop_rounds 1 ?_
  rw [rounds_succ]
  go_wp2
  go_ret
  exact ⟨rfl, rfl⟩

/-- errors.Is(x, y), two errors of errors.New's make that are not the same. -/
theorem is_other (a b : Addr) (w : World) (hne : a ≠ b) (ha : ErrB w a) (hb : ErrB w b) :
    Calls Tryd.prog 24 #[errV a, errV b] w fun e w' => e = .returned (.bool false) ∧ w' = w := by
  unfold errV
  obtain ⟨ca, ta, ha⟩ := ha
  obtain ⟨cb, tb, hb⟩ := hb
  obtain ⟨i, hi, hcmp⟩ := Option.map_eq_some_iff.1 Tryd.isComp
  obtain ⟨j, hj, hjs⟩ := Option.map_eq_some_iff.1 Tryd.isSize
  have h8 := @run_callFunc_extern Tryd.prog 41 _ Extern.ReflectliteType.typeOf Tryd.func41 (by kernel_rfl) (by kernel_rfl) (by kernel_rfl) (by kernel_rfl)
  have h32 := @run_callFunc_extern Tryd.prog 91 _ (Extern.ReflectliteType.method fun t => do Extern.Rtype.noPackHeld "Comparable" t; pure (.bool (← typeInfo t).comparable)) Tryd.func91 (by kernel_rfl) (by kernel_rfl) (by kernel_rfl) (by kernel_rfl)
  have tT := Tryd.isTypeOf
  have cT := Tryd.isComparable
  have mC := Tryd.isMethodC
  have nE := Tryd.noIsE
  have uE := Tryd.noUnwrapE
  have vE := Tryd.noUnwrapsE
  have heq := run_eql_iface_ptr_other (P := Tryd.prog) w Tryd.underlying55 Tryd.underlying141 hi hcmp hj (by rw [hjs]; decide) hne ha hb
  go_enter Tryd.func24, Tryd.ntmps24
  go_wp2
  refine wp_loop_rounds 1 ?_
  rw [rounds_succ]
  go_wp2
  go_ret
  exact ⟨rfl, rfl⟩

/-- What TableGet says. -/
def getC : Option MPair → Int
  | none => 1
  | some _ => 0
def TgPost (w : World) (o : Option MPair) (e : Ending) (w' : World) : Prop := e = .returned (.tuple #[.agg (fndC o).toArray, .int .i64 (getC o)]) ∧ Below w.heap.size w w'

set_option maxHeartbeats 8000000 in
theorem tableGet_any (a : Option Addr) (n cap : Nat) (zs : List Int) (key : ByteArray) (marks : List (ByteArray × Int)) (fl ps : List Int) (bl : Int → List MPair) (pe q : Addr) (w : World) (hx : zs.length = n) (hlen : n ≤ 1048576) (hcap : n ≤ cap) (hcm : cap ≤ 9223372036854775807) (hb : BytesOk zs) (hr : Rd .u8 w.heap.size w a zs) (ht : TabAt w) (hE : ErrAt w pe) (hE2 : Err2 w q) (hks : key.size ≤ 2000000)
    (hix : ixR zs = some ps) (hmx : mxB (unframe zs (rd4 zs (zs.length - 4))).1 = (marks, fl, false))
    (hbl : ∀ m, m ∈ marks → (∃ nx, unframe (zs.take (rd4 zs (zs.length - 4)).toNat) m.2 = (blockB ByteArray.empty (bl m.2), nx, true)) ∧ ∀ x, x ∈ bl m.2 → x.fKey.size ≤ 1000000 ∧ x.fVal.size ≤ 1000000)
    (hne : q ≠ pe) (hB1 : ErrB w pe) (hB2 : ErrB w q) :
    Calls Tryd.prog 9 #[.slice a n cap, .string key] w (TgPost w (fpS bl marks fl key)) := by
  obtain ⟨wa, hwa⟩ : ∃ x, x = w.alloc (.cells #[.string ⟨#[]⟩, .string ⟨#[]⟩, .bool false] 32) := ⟨_, rfl⟩
  have hba : Below w.heap.size w wa := by rw [hwa]; exact (Below.refl _ _).alloc (Nat.le_refl _) _
  have hR0 : Bw wa w.heap.size 32 [.string ⟨#[]⟩, .string ⟨#[]⟩, .bool false] := by rw [hwa]; exact Bw.new' _ _ _ rfl
  have hCf := findPair_any a n cap zs key marks fl ps bl pe q wa hx hlen hcap hcm hb ((hr.below hba).mono hba.size) (ht.below hba ht.size) (hE.below hba) (hE2.below hba) hks hix hmx hbl
  have HWA := Hid.mk hwa
  have HE := Hid.mk hE
  have HE2 := Hid.mk hE2
  have HB1 := Hid.mk hB1
  have HB2 := Hid.mk hB2
  have HR0 := Hid.mk hR0
  generalize fpS bl marks fl key = o at hCf ⊢
  clear hx hb hr ht hE hE2 hix hmx hbl hwa hB1 hB2 hR0
  go_enter Tryd.func9, Tryd.ntmps9
  go_wp2_with fail
  rw [← HWA.out]
  refine Calls.mono hCf ?_
  rintro e w1 ⟨rfl, hb1⟩
  have hb01 : Below w.heap.size w w1 := hba.trans (hb1.mono hba.size)
  have hR1 := HR0.out.under hb1
  clear hCf
  obtain ⟨w2, hw2⟩ : ∃ x, x = w1.alloc (.cells (fndC o).toArray 32) := ⟨_, rfl⟩
  have hb12 : Below w1.heap.size w1 w2 := by rw [hw2]; exact (Below.refl _ _).alloc (Nat.le_refl _) _
  have hb02 : Below w.heap.size w w2 := hb01.trans (hb12.mono hb01.size)
  have hP2 : Bw w2 w1.heap.size 32 (fndC o) := by rw [hw2]; exact Bw.new' _ _ _ rfl
  have hR2 := hR1.under hb12
  have k0 : w2.cell? ⟨0, 0, none⟩ = some (.iface 141 (.pointer (some pe))) := HE.out.below hb02
  have k1 : w2.cell? ⟨1, 0, none⟩ = some (.iface 141 (.pointer (some q))) := HE2.out.below hb02
  have r0 := hR2.cell 0 _ rfl
  have r1 := hR2.cell 1 _ rfl
  have r2 := hR2.cell 2 _ rfl
  have f0 := hR2.free 0
  have f1 := hR2.free 1
  have f2 := hR2.free 2
  have hl0 := hR2.lt
  have hl1 : w.heap.size < w1.heap.size := hR1.lt
  have HW2 := Hid.mk hw2
  have hBB1 := HB1.out.below hb02
  have hBB2 := HB2.out.below hb02
  cases o with
  | none =>
    have hI1 := is_other q pe w2 hne hBB2 hBB1
    have hI2 := is_same q w2
    unfold errV at hI1 hI2
    clear hw2
    unfold fndC fndE errV
    have j0 : (w1.alloc (.cells #[.string ⟨#[]⟩, .string ⟨#[]⟩, .bool false] 32)).cell? ⟨0, 0, none⟩ = some (.iface 141 (.pointer (some pe))) := by rw [show w1.alloc (.cells #[.string ⟨#[]⟩, .string ⟨#[]⟩, .bool false] 32) = w2 from HW2.out.symm]; exact k0
    go_wp2_with fail
    rw [show w1.alloc (.cells #[.string ⟨#[]⟩, .string ⟨#[]⟩, .bool false] 32) = w2 from HW2.out.symm]
    clear j0
    refine Calls.mono hI1 ?_
    rintro e w3 ⟨rfl, rfl⟩
    go_wp2_with fail
    refine Calls.mono hI2 ?_
    rintro e w3 ⟨rfl, rfl⟩
    go_wp2_with fail
    refine bodyPost_ret (v := .tuple #[.agg #[.string ⟨#[]⟩, .string ⟨#[]⟩, .bool false], .int .i64 1]) (by simp [results, Tryd.results9, go_sem, *]) rfl ?_
    exact ⟨rfl, ((hb02.setCell (Nat.le_refl _) _).setCell (Nat.le_refl _) _).setCell (Nat.le_refl _) _⟩
  | some x =>
    have hI1 := is_nil pe w2
    have hI2 := is_nil q w2
    unfold errV at hI1 hI2
    have p0 := hP2.cell 0 _ rfl
    have p1 := hP2.cell 1 _ rfl
    have p2 := hP2.cell 2 _ rfl
    have hlp := hP2.lt
    clear hw2
    unfold fndC fndE
    have j0 : (w1.alloc (.cells #[.string x.fKey, .string x.fVal, .bool x.fGone] 32)).cell? ⟨0, 0, none⟩ = some (.iface 141 (.pointer (some pe))) := by rw [show w1.alloc (.cells #[.string x.fKey, .string x.fVal, .bool x.fGone] 32) = w2 from HW2.out.symm]; exact k0
    go_wp2_with fail
    rw [show w1.alloc (.cells #[.string x.fKey, .string x.fVal, .bool x.fGone] 32) = w2 from HW2.out.symm]
    clear j0
    refine Calls.mono hI1 ?_
    rintro e w3 ⟨rfl, rfl⟩
    go_wp2_with fail
    refine Calls.mono hI2 ?_
    rintro e w3 ⟨rfl, rfl⟩
    go_wp2_with fail
    refine bodyPost_ret (v := .tuple #[.agg #[.string x.fKey, .string x.fVal, .bool x.fGone], .int .i64 0]) (by simp [results, Tryd.results9, go_sem, *]) rfl ?_
    exact ⟨rfl, ((hb02.setCell (Nat.le_refl _) _).setCell (Nat.le_refl _) _).setCell (Nat.le_refl _) _⟩

end Go.Proofs.YtmedljankefhbaaDoor

namespace Go.Proofs.YtmedljankefhbaaDoor
open Go.RowKit

/-- A cursor over the code lies alone in block g. -/
def Cur (w : World) (g : Nat) (sv : Value) (n : Nat) : Prop :=
  ∃ i h : Int, 0 ≤ i ∧ i ≤ n ∧ w.heap[g]? = some (.cells #[sv, .int .i64 i, .int .i64 h] 67 (0, 0))

theorem and255_i64 (n : Int) : bits .and .i64 n 255 = n % 256 := by
  have h1 : (BitVec.ofInt 64 255).toNat = 2 ^ 8 - 1 := by decide
  have key : (BitVec.ofInt 64 n &&& BitVec.ofInt 64 255).toNat = (n % ((2 ^ 64 : Nat) : Int)).toNat % 2 ^ 8 := by
    rw [BitVec.toNat_and, BitVec.toNat_ofInt, h1, Nat.and_two_pow_sub_one_eq_mod]
  show IntKind.i64.wrap ((BitVec.ofInt 64 n &&& BitVec.ofInt 64 255).toNat : Nat) = n % 256
  rw [key, IntKind.wrap_i64]
  omega

theorem row_set {w : World} {g j : Nat} {cs : Array Value} {e : TypeId} (h : w.heap[g]? = some (.cells cs e (0, 0))) (u : Value) :
    (w.setCell ⟨g, j, none⟩ u).heap[g]? = some (.cells (cs.setIfInBounds j u) e (0, 0)) ∧ w.grownBy (w.setCell ⟨g, j, none⟩ u) (some g) :=
  ⟨heap_setCell_same w g j cs e u h, ⟨rfl, rfl, rfl, by simp, fun k _ hk => heap_setCell_other w ⟨g, j, none⟩ k u (fun e => hk (by simp [e]))⟩⟩

theorem emod_byte (x : Int) : 0 ≤ x % 256 ∧ x % 256 ≤ 255 := by omega

theorem grown_drewN {w w' : World} {r : Option Nat} (h : w.grownBy w' r) (d : Nat) : w.grownBy (w'.drewN d) r := ⟨h.os, h.tape, h.output, h.size, h.block⟩

theorem cur_step1 {w : World} {g n : Nat} {sv : Value} {i h : Int} (hg : w.heap[g]? = some (.cells #[sv, .int .i64 i, .int .i64 h] 67 (0, 0))) (h0 : 0 ≤ i) (h1 : i ≤ n) {h' : Int} (j k : Nat) :
    Cur (((w.setCell ⟨g, 2, none⟩ (.int .i64 h')).drewN j).drewN k) g sv n := ⟨i, h', h0, h1, (row_set (j := 2) hg _).1⟩

theorem cur_grown1 {w : World} {g : Nat} {cs : Array Value} {e : TypeId} (hg : w.heap[g]? = some (.cells cs e (0, 0))) {u : Value} (j k : Nat) :
    w.grownBy (((w.setCell ⟨g, 2, none⟩ u).drewN j).drewN k) (some g) := grown_drewN (grown_drewN (row_set (j := 2) hg u).2 j) k

theorem cur_step2 {w : World} {g n : Nat} {sv : Value} {i h : Int} (hg : w.heap[g]? = some (.cells #[sv, .int .i64 i, .int .i64 h] 67 (0, 0))) (h0 : 0 ≤ i) (h1 : i + 1 ≤ n) (h' : Int) (k : Nat) (i' : Int) (hi' : i' = i + 1) :
    Cur (((w.setCell ⟨g, 2, none⟩ (.int .i64 h')).drewN k).setCell ⟨g, 1, none⟩ (.int .i64 i')) g sv n := by
  subst hi'
  exact ⟨i + 1, h', by omega, h1, (row_set (w := (w.setCell ⟨g, 2, none⟩ (.int .i64 h')).drewN k) (j := 1) (row_set (j := 2) hg (.int .i64 h')).1 (.int .i64 (i + 1))).1⟩

theorem cur_grown2 {w : World} {g : Nat} {cs : Array Value} {e : TypeId} (hg : w.heap[g]? = some (.cells cs e (0, 0))) (u : Value) (k : Nat) (v : Value) :
    w.grownBy (((w.setCell ⟨g, 2, none⟩ u).drewN k).setCell ⟨g, 1, none⟩ v) (some g) :=
  grown_trans (grown_drewN (row_set (j := 2) hg u).2 k) (row_set (w := (w.setCell ⟨g, 2, none⟩ u).drewN k) (j := 1) (row_set (j := 2) hg u).1 v).2

set_option maxHeartbeats 800000 in
theorem l1Byte_any (g n cap B : Nat) (a : Option Addr) (zs : List Int) (w : World) (hx : zs.length = n) (hlen : n ≤ 140737488351232) (hr : Rd .u8 B w a zs) (hBg : B ≤ g) (hc : Cur w g (.slice a n cap) n) :
    Calls Tryd.prog 57 #[.pointer (some ⟨g, 0, none⟩)] w fun e w' => ∃ x : Int, e = .returned (.int .i64 x) ∧ (0 ≤ x ∧ x ≤ 255) ∧ Cur w' g (.slice a n cap) n ∧ w.grownBy w' (some g) := by
  obtain ⟨i, h, hi0, hin, hg⟩ := hc
  have HX : Hid (zs.length = n) := hx
  clear hx
  have c0 : w.cell? ⟨g, 0, none⟩ = some (.slice a n cap) := cell_of_row w g 0 _ _ _ hg
  have c1 : w.cell? ⟨g, 1, none⟩ = some (.int .i64 i) := cell_of_row w g 1 _ _ _ hg
  have c2 : w.cell? ⟨g, 2, none⟩ = some (.int .i64 h) := cell_of_row w g 2 _ _ _ hg
  have f1 : w.frozen? ⟨g, 1, none⟩ = false := frozen_of_row w g 1 _ _ hg
  have f2 : w.frozen? ⟨g, 2, none⟩ = false := frozen_of_row w g 2 _ _ hg
  by_cases hlt : i < n
  · obtain ⟨i, rfl⟩ := Int.eq_ofNat_of_zero_le hi0
    obtain ⟨b1, o1, rfl, hB, hcc⟩ := hr i (by rw [HX.out]; omega)
    have hne : b1 ≠ g := by omega
    have hand := and255_i64
    generalize zs.getD i 0 = c at hcc
    go_enter Tryd.func57, Tryd.ntmps57
    go_wp2
    go_quiet (fail)
    go_wp2
    go_quiet (fail)
    go_wp2
    go_quiet (fail)
    go_wp2
    go_ret
    exact ⟨_, rfl, emod_byte _, cur_step2 hg hi0 (by omega) _ _ _ rfl, (cur_grown2 hg _ _ _)⟩
  · have hand := and255_i64
    go_enter Tryd.func57, Tryd.ntmps57
    go_wp2
    go_quiet (fail)
    go_wp2
    go_quiet (fail)
    go_wp2
    go_ret
    exact ⟨_, rfl, emod_byte _, cur_step1 hg hi0 hin _ _, cur_grown1 hg _ _⟩


/-- A cursor at block g over bytes that lie below it. -/
def CurOk (w : World) (g : Nat) : Prop :=
  ∃ a n cap B, ∃ zs : List Int, zs.length = n ∧ n ≤ 140737488351232 ∧ B ≤ g ∧ Rd .u8 B w a zs ∧ Cur w g (.slice a n cap) n ∧ g < w.heap.size

theorem CurOk.lt {w : World} {g : Nat} (h : CurOk w g) : g < w.heap.size := by obtain ⟨_, _, _, _, _, _, _, _, _, _, h⟩ := h; exact h

theorem CurOk.grown {w w' : World} {g : Nat} {r : Option Nat} (h : CurOk w g) (hg : w.grownBy w' r) (hr : ∀ k, r = some k → g < k) : CurOk w' g := by
  obtain ⟨a, n, cap, B, zs, h1, h2, h3, h4, ⟨i, q, h5, h6, h7⟩, h8⟩ := h
  refine ⟨a, n, cap, B, zs, h1, h2, h3, h4.grown hg (fun k hk => by have := hr k hk; omega), ⟨i, q, h5, h6, ?_⟩, Nat.lt_of_lt_of_le h8 hg.size⟩
  rw [hg.block g h8 (fun e => by have := hr g e.symm; omega)]
  exact h7

theorem CurOk.below {w w' : World} {g : Nat} (h : CurOk w g) (hb : Below w.heap.size w w') : CurOk w' g := by
  obtain ⟨a, n, cap, B, zs, h1, h2, h3, h4, ⟨i, q, h5, h6, h7⟩, h8⟩ := h
  refine ⟨a, n, cap, B, zs, h1, h2, h3, h4.below (hb.mono (by omega)), ⟨i, q, h5, h6, ?_⟩, Nat.lt_of_lt_of_le h8 hb.size⟩
  rw [hb.block g h8]
  exact h7

theorem CurOk.drewN {w : World} {g : Nat} (h : CurOk w g) (d : Nat) : CurOk (w.drewN d) g := h

theorem l1Byte_ok {g : Nat} {w : World} (hc : CurOk w g) :
    Calls Tryd.prog 57 #[.pointer (some ⟨g, 0, none⟩)] w fun e w' => ∃ x : Int, e = .returned (.int .i64 x) ∧ (0 ≤ x ∧ x ≤ 255) ∧ CurOk w' g ∧ w.grownBy w' (some g) := by
  obtain ⟨a, n, cap, B, zs, h1, h2, h3, h4, h5, h8⟩ := hc
  refine (l1Byte_any g n cap B a zs w h1 h2 h4 h3 h5).mono ?_
  rintro e w' ⟨x, rfl, hx, hcur, hg⟩
  exact ⟨x, rfl, hx, ⟨a, n, cap, B, zs, h1, h2, h3, h4.grown hg (fun k hk => by simp at hk; omega), hcur, Nat.lt_of_lt_of_le h8 hg.size⟩, hg⟩

theorem emod_le {a b : Int} (ha : 0 ≤ a) (hb : 0 < b) : a % b ≤ a := by
  have h1 := Int.emod_add_mul_ediv a b
  have h2 := Int.mul_nonneg (show 0 ≤ b by omega) (Int.ediv_nonneg ha (show 0 ≤ b by omega))
  omega

set_option maxHeartbeats 400000 in
theorem l1Below_ok {g : Nat} {w : World} (q : Int) (hc : CurOk w g) :
    Calls Tryd.prog 44 #[.pointer (some ⟨g, 0, none⟩), .int .i64 q] w fun e w' => ∃ x : Int, e = .returned (.int .i64 x) ∧ (0 ≤ x ∧ x < 16777216 ∧ (0 < q → x < q) ∧ (q ≤ 0 → x = 0)) ∧ CurOk w' g ∧ w.grownBy w' (some g) := by
  by_cases h0 : q ≤ 0
  · go_enter Tryd.func44, Tryd.ntmps44
    go_wp2_with fail
    go_ret
    exact ⟨0, rfl, by omega, hc, World.grownBy.refl _ _⟩
  · by_cases h1 : q ≤ 256
    · go_enter Tryd.func44, Tryd.ntmps44
      go_wp2_with fail
      refine (l1Byte_ok hc).mono ?_
      rintro e w1 ⟨x, rfl, hx, hc1, hg1⟩
      have hq0 : (q == 0) = false := by simp; omega
      have hm := Int.emod_lt_of_pos x (show 0 < q by omega)
      have hm0 := Int.emod_nonneg x (show q ≠ 0 by omega)
      go_wp2_with fail
      go_ret
      exact ⟨_, rfl, by omega, hc1, hg1⟩
    · go_enter Tryd.func44, Tryd.ntmps44
      go_wp2_with fail
      refine (l1Byte_ok hc).mono ?_
      rintro e w1 ⟨x, rfl, hx, hc1, hg1⟩
      go_wp2_with fail
      refine (l1Byte_ok hc1).mono ?_
      rintro e w2 ⟨y, rfl, hy, hc2, hg2⟩
      go_wp2_with fail
      refine (l1Byte_ok hc2).mono ?_
      rintro e w3 ⟨z, rfl, hz, hc3, hg3⟩
      have hq0 : (q == 0) = false := by simp; omega
      have hm := Int.emod_lt_of_pos (x * 65536 + y * 256 + z) (show 0 < q by omega)
      have hm0 := Int.emod_nonneg (x * 65536 + y * 256 + z) (show q ≠ 0 by omega)
      have hm1 := emod_le (a := x * 65536 + y * 256 + z) (b := q) (by omega) (by omega)
      go_wp2_with fail
      go_ret
      exact ⟨_, rfl, by omega, hc3, grown_trans hg1 (grown_trans hg2 hg3)⟩


set_option maxRecDepth 100000 in
set_option maxHeartbeats 400000 in
theorem l1New_any (a : Option Addr) (n cap : Nat) (zs : List Int) (w : World) (hx : zs.length = n) (hlen : n ≤ 140737488351232) (hr : Rd .u8 w.heap.size w a zs) :
    Calls Tryd.prog 15 #[.slice a n cap] w fun e w' => e = .returned (.pointer (some ⟨w.heap.size, 0, none⟩)) ∧ CurOk w' w.heap.size ∧ Below w.heap.size w w' := by
  have HX : Hid (zs.length = n) := hx
  clear hx
  go_enter Tryd.func15, Tryd.ntmps15
  go_wp2
  go_loop [3, 4] (fun h i => ∃ (k : Nat) (H : Int), k ≤ n ∧ i = .int .i64 k ∧ h = .int .i64 H) (fun _ i => n - (intOf i).toNat)
  case atStart => exact ⟨0, _, Nat.zero_le _, rfl, rfl⟩
  case round =>
    obtain ⟨k, H, hk, rfl, rfl⟩ := hrel
    have fin : ∀ H : Int, CurOk (w.alloc (.cells #[.slice a n cap, .int .i64 0, .int .i64 H] 67)) w.heap.size := fun H =>
      ⟨a, n, cap, w.heap.size, zs, HX.out, hlen, Nat.le_refl _, hr.below ((Below.refl _ _).alloc (Nat.le_refl _) _), ⟨0, H, by omega, by omega, heap_alloc_new w _⟩, by simp⟩
    by_cases hlt : k < n
    · by_cases h4 : k < 4000
      · obtain ⟨b1, o1, rfl, _, hc1⟩ := hr k (by rw [HX.out]; exact hlt)
        generalize zs.getD k 0 = c at hc1
        clear fin hr
        go_wp2
        go_round
        case rel => exact ⟨k + 1, _, by omega, by go_num, rfl⟩
        case measure => simp [intOf]; omega
      · go_wp2
        go_ret
        exact ⟨rfl, fin _, (Below.refl _ _).alloc (Nat.le_refl _) _⟩
    · go_wp2
      go_ret
      exact ⟨rfl, fin _, (Below.refl _ _).alloc (Nat.le_refl _) _⟩


structure MNode where
  fP : MPair
  fTower : Int

def rNode : Rep MNode := fun B w cs m => cs = [.string m.fP.fKey, .string m.fP.fVal, .bool m.fP.fGone, .int .i64 m.fTower] ∧ m.fP.fKey.size ≤ 9223372036854775807 ∧ m.fP.fVal.size ≤ 9223372036854775807 ∧ True ∧ (Lit.int .i64 m.fTower).wf = true ∧ True

theorem rNode_good : rNode.Good :=
  ⟨fun ⟨h, h0, h1, h2, h3, _⟩ hb => ⟨h, h0, h1, h2, h3, trivial⟩, fun ⟨h, h0, h1, h2, h3, _⟩ hB => ⟨h, h0, h1, h2, h3, trivial⟩⟩

def oNode : ORep MNode := fun w cs m F => cs = [.string m.fP.fKey, .string m.fP.fVal, .bool m.fP.fGone, .int .i64 m.fTower] ∧ m.fP.fKey.size ≤ 9223372036854775807 ∧ m.fP.fVal.size ≤ 9223372036854775807 ∧ True ∧ (Lit.int .i64 m.fTower).wf = true ∧ F = []

theorem oNode_good : oNode.Good rNode 4 := by
  refine ⟨?_, ?_, ?_, ?_⟩
  · rintro w w' cs m F ⟨rfl, h0, h1, h2, h3, rfl⟩ hb
    exact ⟨rfl, h0, h1, h2, h3, rfl⟩
  · rintro w cs m F ⟨rfl, h0, h1, h2, h3, rfl⟩ k hk
    cases hk
  · rintro w cs m F ⟨rfl, h0, h1, h2, h3, rfl⟩
    exact ⟨rfl, h0, h1, h2, h3, trivial⟩
  · rintro w cs m F ⟨rfl, h0, h1, h2, h3, rfl⟩
    rfl

def wNode (m : MNode) : Nat := m.fP.fKey.size + m.fP.fVal.size

structure MMem where
  fNodes : List MNode

def rMem : Rep MMem := fun B w cs m => ∃ a0 : Option Addr, ∃ c0 : Nat, cs = [.slice a0 m.fNodes.length c0] ∧ LeafL 4 rNode B w a0 c0 m.fNodes ∧ True

def wMem (m : MMem) : Nat := (m.fNodes.length + sumW wNode m.fNodes)


theorem Bx.grown {w w' : World} {b : Nat} {vs : List Value} {r : Option Nat} (h : Bx w b vs) (hg : w.grownBy w' r) (hr : r ≠ some b) : Bx w' b vs :=
  ⟨Nat.lt_of_lt_of_le h.1 hg.size, fun i u hu => hg.cell (h.2 i u hu) (by simpa using fun e => hr e.symm)⟩
theorem grown_alloc {w w' : World} {r : Option Nat} (h : w.grownBy w' r) (o : Obj) : w.grownBy (w'.alloc o) r := grown_trans h (World.grownBy_alloc _ _ _)

set_option maxHeartbeats 400000 in
theorem l1Str_ok {g : Nat} {w : World} (b n : Nat) (ss : List ByteArray) (hc : CurOk w g) (hb : Bx w b (ss.map Value.string)) (hne : b ≠ g) (hn : ss.length = n) (h0 : 0 < n) (h1 : n ≤ 1000000) :
    Calls Tryd.prog 63 #[.pointer (some ⟨g, 0, none⟩), .slice (some ⟨b, 0, none⟩) n n] w fun e w' => ∃ s, (s ∈ ss ∧ e = .returned (.string s)) ∧ CurOk w' g ∧ w.grownBy w' (some g) := by
  have HN := Hid.mk hn
  clear hn
  go_enter Tryd.func63, Tryd.ntmps63
  go_wp2_with fail
  refine (l1Below_ok _ hc).mono ?_
  rintro e w1 ⟨x, rfl, hx, hc1, hg1⟩
  obtain ⟨x, rfl⟩ := Int.eq_ofNat_of_zero_le hx.1
  have hxm : x < n := by omega
  have hxs : x < ss.length := by rw [HN.out]; exact hxm
  have hcell := (hb.grown hg1 (fun e => hne (Option.some.inj e).symm)).2 x (.string ss[x]) (by simp [hxs])
  have HM := Hid.mk (List.getElem_mem hxs)
  generalize ss[x] = s at *
  clear hx
  go_wp2_with fail
  go_ret
  exact ⟨s, ⟨HM.out, rfl⟩, hc1, hg1⟩

set_option maxHeartbeats 400000 in
theorem l1Once_ok {g : Nat} {w : World} (q : Int) (hc : CurOk w g) :
    Calls Tryd.prog 62 #[.pointer (some ⟨g, 0, none⟩), .int .i64 q] w fun e w' => ∃ x : Bool, e = .returned (.bool x) ∧ CurOk w' g ∧ w.grownBy w' (some g) := by
  go_enter Tryd.func62, Tryd.ntmps62
  go_wp2_with fail
  refine (l1Below_ok _ hc).mono ?_
  rintro e w1 ⟨x, rfl, hx, hc1, hg1⟩
  go_wp2_with fail
  go_ret
  exact ⟨_, rfl, hc1, hg1⟩

def keysL : List ByteArray := [⟨#[97]⟩, ⟨#[97, 98]⟩, ⟨#[97, 98, 99]⟩, ⟨#[98]⟩, ⟨#[98, 97]⟩, ⟨#[99]⟩, ⟨#[100]⟩, ⟨#[107, 101, 121, 49]⟩, ⟨#[107, 101, 121, 49, 48]⟩, ⟨#[107, 101, 121, 50]⟩, ⟨#[122]⟩]
theorem keysL_short : ∀ s, s ∈ keysL → s.size ≤ 20 := by decide

theorem grown_setCell {w w' : World} {r : Option Nat} (h : w.grownBy w' r) {p : Addr} (hp : w.heap.size ≤ p.block) (u : Value) : w.grownBy (w'.setCell p u) r :=
  ⟨h.os, h.tape, h.output, by have := h.size; simpa [World.setCell] using this, fun k hk hr => by rw [Below.heap_setCell _ _ _ _ (by omega)]; exact h.block k hk hr⟩
theorem CurOk.setCell {w : World} {g : Nat} (h : CurOk w g) {p : Addr} (hp : g < p.block) (u : Value) : CurOk (w.setCell p u) g := by
  obtain ⟨a, n, cap, B, zs, h1, h2, h3, h4, ⟨i, q, h5, h6, h7⟩, h8⟩ := h
  refine ⟨a, n, cap, B, zs, h1, h2, h3, h4.below ((Below.refl _ _).setCell (by omega) u), ⟨i, q, h5, h6, ?_⟩, by simpa [World.setCell] using h8⟩
  rw [Below.heap_setCell _ _ _ _ (by omega)]
  exact h7
theorem CurOk.alloc {w : World} {g : Nat} (h : CurOk w g) (o : Obj) : CurOk (w.alloc o) g := h.below ((Below.refl _ _).alloc (Nat.le_refl _) _)
theorem Bw.grown {w w' : World} {b : Nat} {t : TypeId} {vs : List Value} {r : Option Nat} (h : Bw w b t vs) (hg : w.grownBy w' r) (hr : r ≠ some b) : Bw w' b t vs :=
  (hg.block b h.lt (fun e => hr e.symm)).trans h

def valsL : List ByteArray := [⟨#[]⟩, ⟨#[49]⟩, ⟨#[50]⟩, ⟨#[120, 121, 122]⟩, ⟨#[0]⟩]
theorem valsL_short : ∀ s, s ∈ valsL → s.size ≤ 21 := by decide

end Go.Proofs.YtmedljankefhbaaDoor
