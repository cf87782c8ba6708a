/-
  Slices of slices of pairs as arguments of the exact laws: read, weighed, copied, compared, marked.
-/
import Derived.Test.YtjaaaopbidmknaaDoorPairL
namespace Go.Proofs.YtjaaaopbidmknaaDoor
open Go.RowKit
set_option linter.unusedVariables false
set_option linter.unusedSimpArgs false
set_option maxRecDepth 10000

def rPr : Rep (List MPair) := fun B w cs l => ∃ a c, cs = [.slice a l.length c] ∧ LeafL 3 rPair B w a c l
theorem rPr_good : rPr.Good := ⟨fun ⟨a, c, e, h⟩ hb => ⟨a, c, e, h.below rPair_good hb⟩, fun ⟨a, c, e, h⟩ hB => ⟨a, c, e, LeafL.mono rPair_good h hB⟩⟩
def oPr : ORep (List MPair) := fun w cs l F => ∃ v, cs = [v] ∧ ownS 3 45 oPair w v l F
theorem oPr_good : oPr.Good rPr 1 := by
  refine ⟨?_, ?_, ?_, ?_⟩
  · rintro w w' cs m F ⟨v, rfl, h⟩ hb
    exact ⟨v, rfl, ownS.frame oPair_good h hb⟩
  · rintro w cs m F ⟨v, rfl, h⟩ k hk
    exact ownS.lt oPair_good h k hk
  · rintro w cs m F ⟨v, rfl, h⟩
    obtain ⟨a, c, rfl, hl⟩ := ownS.read oPair_good h
    exact ⟨a, c, rfl, hl⟩
  · rintro w cs m F ⟨v, rfl, h⟩
    rfl
def rdPss (B : Nat) (w : World) (v : Value) (l : List (List MPair)) : Prop := ∃ a c, v = .slice a l.length c ∧ LeafL 1 rPr B w a c l
theorem rdPss.below {B : Nat} {w w' : World} {v : Value} {l : List (List MPair)} (h : rdPss B w v l) (hb : Below B w w') : rdPss B w' v l := by
  obtain ⟨a, c, e, h1⟩ := h
  exact ⟨a, c, e, h1.below rPr_good hb⟩
theorem rdPss.mono {B B' : Nat} {w : World} {v : Value} {l : List (List MPair)} (h : rdPss B w v l) (hB : B ≤ B') : rdPss B' w v l := by
  obtain ⟨a, c, e, h1⟩ := h
  exact ⟨a, c, e, LeafL.mono rPr_good h1 hB⟩
theorem rdPss_own {e : TypeId} {w : World} {v : Value} {l : List (List MPair)} {F : List Nat} (h : ownS 1 e oPr w v l F) : rdPss w.heap.size w v l := ownS.read oPr_good h
def wPss (l : List (List MPair)) : Nat := l.length + sumW wPs l
def cntPr (l : List MPair) : Nat := sumW cntPair l
theorem tcntPss_le (l : List (List MPair)) : sumW cntPr l ≤ 32 * wPss l := by
  have h : ∀ l : List (List MPair), sumW cntPr l ≤ 32 * sumW wPs l := by
    intro l
    induction l with
    | nil => exact Nat.le_refl _
    | cons x l ih =>
      have h1 := tcntPs_le x
      simp only [sumW, cntPr] at *
      omega
  have := h l
  unfold wPss
  omega
theorem wPss_mem {l : List (List MPair)} {k : Nat} (h : k < l.length) : wPs l[k] ≤ wPss l := by
  have h1 := sumW_le (f := wPs) h
  unfold wPss
  omega

set_option maxHeartbeats 400000 in
theorem eqPairSS_yes_r (v1 v2 : Value) (l : List (List MPair)) (w : World) (h1 : rdPss w.heap.size w v1 l) (h2 : rdPss w.heap.size w v2 l) (hsz : wPss l ≤ 1099511627776) :
    Calls Tryd.prog 49 #[v1, v2] w fun e w' => e = .returned (.bool true) ∧ Below w.heap.size w w' := by
  obtain ⟨a, ca, rfl, ha⟩ := h1
  obtain ⟨b, cb, rfl, hb⟩ := h2
  have hel := fun k (hk : k < l.length) => wPss_mem hk
  have hnl : l.length ≤ 1099511627776 := by unfold wPss at hsz; omega
  obtain ⟨n, hn⟩ : ∃ n, l.length = n := ⟨_, rfl⟩
  have HX := Hid.mk hn
  rw [hn] at hnl ⊢
  clear hn
  replace ha := ha.2.2
  replace hb := hb.2.2
  go_enter Tryd.func49, Tryd.ntmps49
  go_wp2_with fail
  go_loopw [5] (fun i wr => ∃ k : Nat, k ≤ n ∧ i = .int .i64 k ∧ Below w.heap.size w wr) (fun i _ => n - (intOf i).toNat)
  case atStart => exact ⟨0, Nat.zero_le _, rfl, Below.refl _ _⟩
  case round =>
    obtain ⟨k, hk, rfl, hbk⟩ := hrel
    by_cases hlt : k < n
    · have hkl : k < l.length := by rw [HX.out]; exact hlt
      have hzk := hel k hkl
      obtain ⟨b1, o1, rfl, hB1, cs1, _, hc1, a1, c1, rfl, l1⟩ := (ha.below rPr_good hbk) k hkl
      obtain ⟨b2, o2, rfl, hB2, cs2, _, hc2, a2, c2, rfl, l2⟩ := (hb.below rPr_good hbk) k hkl
      have k1 := hc1 0 _ rfl
      have k2 := hc2 0 _ rfl
      simp only [Nat.mul_one, Nat.add_zero] at k1 k2
      generalize l[k] = m at *
      have l1' := LeafL.mono rPair_good l1 hbk.size
      have l2' := LeafL.mono rPair_good l2 hbk.size
      have hC := fun (W : World) (hb : Below wr.heap.size wr W) => eqPairS_yes_r _ _ m W ⟨a1, c1, rfl, LeafL.mono rPair_good (l1'.below rPair_good hb) hb.size⟩ ⟨a2, c2, rfl, LeafL.mono rPair_good (l2'.below rPair_good hb) hb.size⟩ (by omega)
      clear ha hb hc1 hc2 l1 l2 l1' l2'
      go_wp2_with fail
      go_region_with (go_at_call 32; refine Calls.mono (hC _ (Below.drew (Below.refl _ _))) ?_; rintro e w1 ⟨rfl, hx1⟩)
      all_goals
        go_wp2_with fail
        go_roundw
        case rel => exact ⟨k + 1, by omega, by go_num, hbk.trans ((bthen (Below.drew (Below.refl _ _)) hx1).mono hbk.size)⟩
        case measure => simp [intOf]; omega
    · go_wp2_with fail
      go_ret
      exact ⟨rfl, hbk⟩

def hdPr (l : List MPair) (q q' : Int) : Prop := hdS hdPair l q q'
set_option maxHeartbeats 1000000 in
theorem markPairSS_row (g cap n : Nat) (l : List (List MPair)) (cur : Array Value) (Fs : List (List Nat)) (q : Int) (w : World) (hx : l.length = n) (hq : 0 ≤ q) (hq2 : q + sumW cntPr l ≤ 70368744177664) (ho : OwnRow 1 39 oPr w g cap l cur Fs) :
    Calls Tryd.prog 50 #[.slice (some ⟨g, 0, none⟩) n cap, .int .i64 q] w fun e w' => e = .returned (.int .i64 (q + sumW cntPr l)) ∧ ∃ l' cur', OwnRow 1 39 oPr w' g cap l' cur' Fs ∧ l'.length = n ∧ Turn (g :: Fs.flatten) w w' := by
  have HX := Hid.mk hx
  clear hx
  have hcap : n ≤ 9223372036854775807 := by have h1 := ho.le; have h2 := ho.max; have h3 := HX.out; unfold maxLen at h2; omega
  have HO := Hid.mk ho
  clear ho
  go_enter Tryd.func50, Tryd.ntmps50
  go_wp2_with fail
  go_loopw [1, 5] (fun kv i wr => ∃ (k : Nat) (kk : Int) (l' : List (List MPair)) (cur' : Array Value), k ≤ n ∧ i = .int .i64 k ∧ kv = .int .i64 kk ∧ kk = q + sumW cntPr (l.take k) ∧ l'.length = k ∧ OwnRow 1 39 oPr wr g cap (l' ++ l.drop k) cur' Fs ∧ Turn (g :: Fs.flatten) w wr) (fun _ i _ => n - (intOf i).toNat)
  case atStart => exact ⟨0, q, [], cur, Nat.zero_le _, rfl, rfl, by simp [sumW], rfl, by simpa using HO.out, Turn.refl _ _⟩
  case round =>
    obtain ⟨k, kk, l', cur', hk, rfl, rfl, hkk, hl', hok, htk⟩ := hrel
    by_cases hlt : k < n
    · have hkl : k < l.length := by rw [HX.out]; exact hlt
      have hlen2 : k < (l' ++ l.drop k).length := by rw [List.length_append, hl', List.length_drop]; omega
      have hw1 := sumW_take_succ (f := cntPr) hkl
      have hw2 := sumW_take_le cntPr l (k + 1)
      have hel := hok.each k hlen2
      rw [get_mid hl' hkl hlen2] at hel
      obtain ⟨hgF, hFN⟩ := hok.part hlen2
      have hE0 := Edit.start hok k (Fs.getD k [])
      generalize hcs : seg 1 cur' k = cs at hel hE0
      clear hcs
      have HOE := Hid.mk (fun w' cs' m' he ho => OwnRow.edit (w' := w') (cs := cs') (m' := m') oPr_good hok hlen2 he ho)
      have HS := Hid.mk (fun m' => set_mid hl' hkl m')
      have HL' := Hid.mk hl'
      have HT := Hid.mk htk
      generalize hm0 : l[k] = m at *
      generalize Fs.getD k [] = Fk at *
      have HKK := Hid.mk hkk
      have HW1 := Hid.mk hw1
      have hcm : cntPr m = sumW cntPair m := rfl
      have hlo : 0 ≤ kk := by omega
      have hup : kk + sumW cntPair m ≤ 70368744177664 := by omega
      clear hm0 hok hl' htk hlen2 hkk hw1 hw2 hcm
      obtain ⟨v1, rfl, h1⟩ := hel
      obtain ⟨a1, c1, rfl, _⟩ := ownS.read oPair_good h1
      have q0 := hE0.cellAt (i := 0) (by omega) rfl
      simp only [Nat.mul_one, Nat.add_zero] at q0
      have hC := markPairS_any _ m Fk kk wr hlo hup h1 hFN
      go_wp2_with fail
      refine Calls.mono hC ?_
      clear hC
      rintro e w1 ⟨rfl, m2, hown1, hml, hhd, ht1⟩
      have hE1 := hE0.keep ht1 hgF
      clear q0
      go_wp2_with fail
      go_roundw
      case rel =>
        have hed := HOE.out _ _ m2 hE1 ⟨_, rfl, hown1⟩
        obtain ⟨⟨cur2, hrow2⟩, ht2⟩ := hed
        rw [HS.out] at hrow2
        refine ⟨k + 1, _, l' ++ [m2], cur2, by omega, by go_num, rfl, ?_, by simp [HL'.out], hrow2, HT.out.trans ht2⟩
        rw [HW1.out]
        have h1 := HKK.out
        have h2 : cntPr m = sumW cntPair m := rfl
        omega
      case measure => simp [intOf]; omega
    · have hkn : k = n := by omega
      have HT1 : Hid (l.take k = l) := List.take_of_length_le (by rw [HX.out]; omega)
      have HT2 : Hid (l.drop k = []) := List.drop_of_length_le (by rw [HX.out]; omega)
      rw [HT1.out] at hkk
      rw [HT2.out, List.append_nil] at hok
      have hk2 : 0 ≤ kk := by omega
      subst hkk
      go_wp2_with fail
      go_ret
      exact ⟨rfl, l', cur', hok, by rw [hl', hkn], htk⟩

set_option maxHeartbeats 400000 in
theorem markPairSS_nil (q : Int) (w : World) :
    Calls Tryd.prog 50 #[.slice none 0 0, .int .i64 q] w fun e w' => e = .returned (.int .i64 q) ∧ w' = w := by
  go_enter Tryd.func50, Tryd.ntmps50
  go_wp2
  refine wp_loop_rounds 1 ?_
  rw [rounds_succ]
  go_wp2
  go_ret
  exact ⟨rfl, rfl⟩
theorem markPairSS_r (v : Value) (l : List (List MPair)) (F : List Nat) (q : Int) (w : World) (hq : 0 ≤ q) (hq2 : q + sumW cntPr l ≤ 70368744177664) (ho : ownS 1 39 oPr w v l F) (hN : F.Nodup) :
    Calls Tryd.prog 50 #[v, .int .i64 q] w fun e w' => ∃ (m' : List (List MPair)) (q' : Int), e = .returned (.int .i64 q') ∧ q ≤ q' ∧ q' ≤ 70368744177664 ∧ ownS 1 39 oPr w' v m' F ∧ True ∧ Turn F w w' := by
  rcases ho.open hN with ⟨rfl, rfl, rfl⟩ | ⟨g, cap, cur, Fs, rfl, hrow, rfl⟩
  · refine (markPairSS_nil q w).mono ?_
    rintro e w' ⟨rfl, rfl⟩
    exact ⟨[], q, rfl, by omega, by simpa [sumW] using hq2, ho, trivial, Turn.refl _ _⟩
  · refine (markPairSS_row g cap _ l cur Fs q w rfl hq hq2 hrow).mono ?_
    rintro e w' ⟨rfl, l', cur', hr', hl', ht⟩
    have h := hr'.shut
    rw [hl'] at h
    exact ⟨l', _, rfl, by omega, hq2, h, trivial, ht⟩

set_option maxHeartbeats 1000000 in
theorem szPairSS_r (v : Value) (l : List (List MPair)) (left : Int) (w : World) (g0 : 0 ≤ left) (g1 : left ≤ 1048576) (hr : rdPss w.heap.size w v l) :
    Calls Tryd.prog 45 #[v, .int .i64 left] w fun e w' => e = .returned (.int .i64 (szRes left (wPss l))) ∧ Below w.heap.size w w' := by
  obtain ⟨a, c, rfl, hL⟩ := hr
  have hn : l.length ≤ 9223372036854775807 := Nat.le_trans hL.1 hL.2.1
  obtain ⟨n, hx⟩ : ∃ n, l.length = n := ⟨_, rfl⟩
  have HX := Hid.mk hx
  have HW : Hid (wPss l = n + sumW wPs l) := by rw [← hx]; rfl
  rw [hx] at hn ⊢
  clear hx
  replace hL := hL.2.2
  by_cases h : (n : Int) ≤ left
  · go_enter Tryd.func45, Tryd.ntmps45
    go_wp2_with fail
    go_loopw [1, 5] (fun x i wr => ∃ k : Nat, k ≤ n ∧ i = .int .i64 k ∧ x = .int .i64 (left - n - sumW wPs (l.take k)) ∧ ((n + sumW wPs (l.take k) : Nat) : Int) ≤ left ∧ Below w.heap.size w wr) (fun _ i _ => n - (intOf i).toNat)
    case atStart => exact ⟨0, Nat.zero_le _, rfl, by simp [sumW], by simpa [sumW] using h, Below.refl _ _⟩
    case round =>
      obtain ⟨k, hk, rfl, rfl, hle, hbk⟩ := hrel
      by_cases hlt : k < n
      · have hkl : k < l.length := by rw [HX.out]; exact hlt
        have HS := Hid.mk (sumW_take_succ (f := wPs) hkl)
        have HLe := Hid.mk (sumW_take_le wPs l (k + 1))
        obtain ⟨b1, o1, rfl, hB, cs, _, hcell, a1, c1, rfl, l1⟩ := (hL.below rPr_good hbk) k hkl
        have k0 := hcell 0 _ rfl
        simp only [Nat.mul_one, Nat.add_zero] at k0
        generalize l[k] = m at *
        generalize sumW wPs (l.take k) = t at *
        have hC := szPairS_r _ m (left - n - t) wr (by omega) (by omega) ⟨a1, c1, rfl, LeafL.mono rPair_good l1 hbk.size⟩
        clear hL hcell l1
        go_wp2_with fail
        refine Calls.mono hC ?_
        rintro e w1 ⟨rfl, hb1⟩
        have hb2 := hbk.trans (hb1.mono hbk.size)
        generalize wPs m = d at *
        by_cases hd : (d : Int) ≤ left - n - t
        · rw [szRes_yes hd]
          go_wp2_with fail
          go_roundw
          case rel => exact ⟨k + 1, by omega, by go_num, by rw [HS.out]; go_num, by rw [HS.out]; omega, hb2⟩
          case measure => simp [intOf]; omega
        · rw [szRes_no hd]
          have HV : Hid (szRes left (wPss l) = -1) := szRes_no (by have h1 := HS.out; have h2 := HLe.out; have h3 := HW.out; omega)
          go_wp2_with fail
          go_ret
          exact ⟨by rw [HV.out]; rfl, hb2⟩
      · have HT : Hid (l.take k = l) := List.take_of_length_le (by rw [HX.out]; omega)
        rw [HT.out] at hle ⊢
        have HV : Hid (szRes left (wPss l) = left - n - sumW wPs l) := by unfold Hid; rw [szRes_yes (by have := HW.out; omega), HW.out]; omega
        go_wp2_with fail
        go_ret
        exact ⟨by rw [HV.out]; rfl, hbk⟩
  · have HV : Hid (szRes left (wPss l) = -1) := szRes_no (by have := HW.out; omega)
    go_enter Tryd.func45, Tryd.ntmps45
    go_wp2_with fail
    go_ret
    exact ⟨by rw [HV.out]; rfl, Below.refl _ _⟩

theorem Tryd.infoPrS : (Tryd.prog.info? 39).map (fun i => (i.zero, i.size, i.bytes)) = some (some (.slice none 0 0), 1, 24) := by kernel_rfl
set_option maxHeartbeats 1000000 in
theorem toPairSS_r (v : Value) (l : List (List MPair)) (w : World) (hr : rdPss w.heap.size w v l) (hsz : wPss l ≤ 1048576) :
    Calls Tryd.prog 47 #[v] w fun e w' => ∃ (v' : Value) (F : List Nat), e = .returned v' ∧ ownS 1 39 oPr w' v' l F ∧ F.Nodup ∧ (∀ b, b ∈ F → w.heap.size ≤ b) ∧ Below w.heap.size w w' := by
  obtain ⟨a, c, rfl, hL⟩ := hr
  obtain ⟨i0, hi, hz0, hz1, hz2⟩ := info_parts Tryd.infoPrS
  obtain ⟨n, hx⟩ : ∃ n, l.length = n := ⟨_, rfl⟩
  have HX := Hid.mk hx
  have hel := fun k (hk : k < l.length) => wPss_mem hk
  have hnn : n ≤ 1048576 := by unfold wPss at hsz; omega
  rw [hx]
  clear hx
  replace hL := hL.2.2
  go_enter Tryd.func47, Tryd.ntmps47
  go_wp2_with (at_make; refine wpList_make_full _ rfl _ _ 59 rfl w.heap.size 39 i0 (.slice none 0 0) 1 Tryd.underlying59 hi hz0 hz1 .i64 .i64 _ _ n rfl rfl rfl rfl (by rw [hz2]; omega) (by unfold maxLen; omega) (Nat.le_refl _) ?_)
  intro w0 hown hgr
  have hb0 : Below w.heap.size w w0 := (Below.refl _ _).grown hgr (Nat.le_refl _) (fun k h => by cases h)
  have hg0 : w.heap.size < w0.heap.size := (hown.lt w.heap.size rfl).2
  have hF0 : Fill 1 39 oPr w0 w.heap.size n l 0 [] := Fill.start hown
  clear hgr hi hz0 hz1 hz2 hown
  go_wp2_with fail
  go_loopw [4] (fun i wr => ∃ (k : Nat) (Fs : List (List Nat)), k ≤ n ∧ i = .int .i64 k ∧ Fill 1 39 oPr wr w.heap.size n l k Fs ∧ w.heap.size < wr.heap.size ∧ Below w.heap.size w wr) (fun i _ => n - (intOf i).toNat)
  case atStart => exact ⟨0, [], Nat.zero_le _, rfl, hF0, hg0, hb0⟩
  case round =>
    obtain ⟨k, Fs, hk, rfl, hFk, hgk, hbk⟩ := hrel
    clear hF0 hg0 hb0
    by_cases hlt : k < n
    · have hkl : k < l.length := by rw [HX.out]; exact hlt
      have hwk := hel k hkl
      obtain ⟨b1, o1, rfl, hB, cs, _, hcell, a1, c1, rfl, l1⟩ := (hL.below rPr_good hbk) k hkl
      have hstep := fun (w1 : World) (hb : Below wr.heap.size wr w1) (cs : List Value) (F : List Nat) ho hF hN => Fill.step (w1 := w1) oPr_good hFk hgk hkl hlt hb (cs := cs) (F := F) ho hF hN
      have k0 := hcell 0 _ rfl
      simp only [Nat.mul_one, Nat.add_zero] at k0
      generalize l[k] = m at *
      have hC := toPairS_r _ m wr ⟨a1, c1, rfl, LeafL.mono rPair_good l1 hbk.size⟩ (by omega)
      clear hcell l1
      go_wp2_with fail
      refine Calls.mono hC ?_
      rintro e w1 ⟨v1, F1, rfl, ho1, hn1, hl1, hb1⟩
      have hst := hstep w1 hb1 [v1] F1 ⟨v1, rfl, ho1⟩ hl1 hn1
      have hF1 := hFk.keep oPr_good hgk hb1
      have hB1 := hbk.trans (hb1.mono hbk.size)
      have hg1 : w.heap.size < w1.heap.size := Nat.lt_of_lt_of_le hgk hb1.size
      obtain ⟨ax1, cx1, rfl, _⟩ := ownS.read oPair_good ho1
      obtain ⟨u0, q0⟩ := hF1.cells hlt 0 (by omega)
      have r0 := hF1.free (k * 1 + 0)
      simp only [Nat.mul_one, Nat.add_zero] at q0 r0
      clear hstep hF1 hFk hl1 hn1 hC
      go_wp2_with fail
      go_roundw
      case rel => exact ⟨k + 1, Fs ++ [F1], by omega, by go_num, by simpa [World.setCells] using hst, by simpa using hg1, hB1.setCell (Nat.le_refl _) _⟩
      case measure => simp [intOf]; omega
    · have hkn : k = n := by omega
      subst hkn
      have hd := hFk.done HX.out (by unfold maxLen; omega)
      go_wp2_with fail
      go_ret
      refine ⟨_, _, rfl, hd.1, hd.2, ?_, hbk⟩
      intro b hb
      rcases List.mem_cons.1 hb with rfl | hb
      · exact Nat.le_refl _
      · have := (hFk.over b hb).1; omega

end Go.Proofs.YtjaaaopbidmknaaDoor
