/-
  Slices of slices of bytes as answers of the exact laws: read, compared, marked, found again.
-/
import Derived.Test.YtiahmcclmlmgpaaDoorByteL
namespace Go.Proofs.YtiahmcclmlmgpaaDoor
open Go.RowKit
set_option linter.unusedVariables false
set_option linter.unusedSimpArgs false
set_option maxRecDepth 10000

def rBy : Rep (List Int) := fun B w cs zs => ∃ a c, cs = [.slice a zs.length c] ∧ LeafB B w a c zs
theorem rBy_good : rBy.Good := ⟨fun ⟨a, c, e, h⟩ hb => ⟨a, c, e, h.below hb⟩, fun ⟨a, c, e, h⟩ hB => ⟨a, c, e, LeafB.mono h hB⟩⟩
def oBy : ORep (List Int) := fun w cs zs F => ∃ v, cs = [v] ∧ ownB 5 w v zs F
theorem oBy_good : oBy.Good rBy 1 := by
  refine ⟨?_, ?_, ?_, ?_⟩
  · rintro w w' cs m F ⟨v, rfl, h⟩ hb
    exact ⟨v, rfl, h.frame hb⟩
  · rintro w cs m F ⟨v, rfl, h⟩ k hk
    exact h.lt k hk
  · rintro w cs m F ⟨v, rfl, h⟩
    obtain ⟨a, c, rfl, hl⟩ := h.read
    exact ⟨a, c, rfl, hl⟩
  · rintro w cs m F ⟨v, rfl, h⟩
    rfl
def rdBs (B : Nat) (w : World) (v : Value) (l : List (List Int)) : Prop := ∃ a c, v = .slice a l.length c ∧ LeafL 1 rBy B w a c l
theorem rdBs.below {B : Nat} {w w' : World} {v : Value} {l : List (List Int)} (h : rdBs B w v l) (hb : Below B w w') : rdBs B w' v l := by
  obtain ⟨a, c, e, h1⟩ := h
  exact ⟨a, c, e, h1.below rBy_good hb⟩
theorem rdBs.mono {B B' : Nat} {w : World} {v : Value} {l : List (List Int)} (h : rdBs B w v l) (hB : B ≤ B') : rdBs B' w v l := by
  obtain ⟨a, c, e, h1⟩ := h
  exact ⟨a, c, e, LeafL.mono rBy_good h1 hB⟩
theorem rdBs_own {e : TypeId} {w : World} {v : Value} {l : List (List Int)} {F : List Nat} (h : ownS 1 e oBy w v l F) : rdBs w.heap.size w v l := ownS.read oBy_good h
def wBs (l : List (List Int)) : Nat := l.length + sumW List.length l
def cntBy (m : List Int) : Nat := m.length
theorem hdB_end (m : List Int) (q q' : Int) (h : hdB m q q') : q' = q + cntBy m := h.2
theorem wBs_mem {l : List (List Int)} {k : Nat} (h : k < l.length) : l[k].length ≤ wBs l := by
  have h1 := sumW_le (f := List.length) h
  unfold wBs
  omega

set_option maxHeartbeats 400000 in
theorem eqByteSS_yes_r (v1 v2 : Value) (l : List (List Int)) (w : World) (h1 : rdBs w.heap.size w v1 l) (h2 : rdBs w.heap.size w v2 l) (hsz : wBs l ≤ 1099511627776) :
    Calls Tryd.prog 27 #[v1, v2] w fun e w' => e = .returned (.bool true) ∧ Below w.heap.size w w' := by
  obtain ⟨a, ca, rfl, ha⟩ := h1
  obtain ⟨b, cb, rfl, hb⟩ := h2
  have hel := fun k (hk : k < l.length) => wBs_mem hk
  have hnl : l.length ≤ 1099511627776 := by unfold wBs at hsz; omega
  obtain ⟨n, hn⟩ : ∃ n, l.length = n := ⟨_, rfl⟩
  have HX := Hid.mk hn
  rw [hn] at hnl ⊢
  clear hn
  replace ha := ha.2.2
  replace hb := hb.2.2
  go_enter Tryd.func27, Tryd.ntmps27
  go_wp2_with fail
  go_loopw [5] (fun i wr => ∃ k : Nat, k ≤ n ∧ i = .int .i64 k ∧ Below w.heap.size w wr) (fun i _ => n - (intOf i).toNat)
  case atStart => exact ⟨0, Nat.zero_le _, rfl, Below.refl _ _⟩
  case round =>
    obtain ⟨k, hk, rfl, hbk⟩ := hrel
    by_cases hlt : k < n
    · have hkl : k < l.length := by rw [HX.out]; exact hlt
      have hzk := hel k hkl
      obtain ⟨b1, o1, rfl, hB1, cs1, _, hc1, a1, c1, rfl, l1⟩ := (ha.below rBy_good hbk) k hkl
      obtain ⟨b2, o2, rfl, hB2, cs2, _, hc2, a2, c2, rfl, l2⟩ := (hb.below rBy_good hbk) k hkl
      have k1 := hc1 0 _ rfl
      have k2 := hc2 0 _ rfl
      simp only [Nat.mul_one, Nat.add_zero] at k1 k2
      generalize l[k] = m at *
      have l1' := LeafB.mono l1 hbk.size
      have l2' := LeafB.mono l2 hbk.size
      have hC := fun (W : World) (hb : Below wr.heap.size wr W) => eqByteS_yes_r _ _ m W ⟨a1, c1, rfl, LeafB.mono (l1'.below hb) hb.size⟩ ⟨a2, c2, rfl, LeafB.mono (l2'.below hb) hb.size⟩ (by omega)
      clear ha hb hc1 hc2 l1 l2 l1' l2'
      go_wp2_with fail
      go_region_with (go_at_call 28; refine Calls.mono (hC _ (Below.drew (Below.refl _ _))) ?_; rintro e w1 ⟨rfl, hx1⟩)
      all_goals
        go_wp2_with fail
        go_roundw
        case rel => exact ⟨k + 1, by omega, by go_num, hbk.trans ((bthen (Below.drew (Below.refl _ _)) hx1).mono hbk.size)⟩
        case measure => simp [intOf]; omega
    · go_wp2_with fail
      go_ret
      exact ⟨rfl, hbk⟩

set_option maxHeartbeats 1000000 in
theorem markByteSS_row (g cap n : Nat) (l : List (List Int)) (cur : Array Value) (Fs : List (List Nat)) (q : Int) (w : World) (hx : l.length = n) (hq : 0 ≤ q) (hq2 : q + sumW cntBy l ≤ 70368744177664) (ho : OwnRow 1 22 oBy w g cap l cur Fs) :
    Calls Tryd.prog 30 #[.slice (some ⟨g, 0, none⟩) n cap, .int .i64 q] w fun e w' => e = .returned (.int .i64 (q + sumW cntBy l)) ∧ ∃ l' cur', OwnRow 1 22 oBy w' g cap l' cur' Fs ∧ l'.length = n ∧ hdS hdB l' q (q + sumW cntBy l) ∧ Turn (g :: Fs.flatten) w w' := by
  have HX := Hid.mk hx
  clear hx
  have hcap : n ≤ 9223372036854775807 := by have h1 := ho.le; have h2 := ho.max; have h3 := HX.out; unfold maxLen at h2; omega
  have HO := Hid.mk ho
  clear ho
  go_enter Tryd.func30, Tryd.ntmps30
  go_wp2_with fail
  go_loopw [1, 5] (fun kv i wr => ∃ (k : Nat) (kk : Int) (l' : List (List Int)) (cur' : Array Value), k ≤ n ∧ i = .int .i64 k ∧ kv = .int .i64 kk ∧ kk = q + sumW cntBy (l.take k) ∧ l'.length = k ∧ OwnRow 1 22 oBy wr g cap (l' ++ l.drop k) cur' Fs ∧ hdS hdB l' q kk ∧ Turn (g :: Fs.flatten) w wr) (fun _ i _ => n - (intOf i).toNat)
  case atStart => exact ⟨0, q, [], cur, Nat.zero_le _, rfl, rfl, by simp [sumW], rfl, by simpa using HO.out, rfl, Turn.refl _ _⟩
  case round =>
    obtain ⟨k, kk, l', cur', hk, rfl, rfl, hkk, hl', hok, hh, htk⟩ := hrel
    by_cases hlt : k < n
    · have hkl : k < l.length := by rw [HX.out]; exact hlt
      have hlen2 : k < (l' ++ l.drop k).length := by rw [List.length_append, hl', List.length_drop]; omega
      have hw1 := sumW_take_succ (f := cntBy) hkl
      have hw2 := sumW_take_le cntBy l (k + 1)
      have hel := hok.each k hlen2
      rw [get_mid hl' hkl hlen2] at hel
      obtain ⟨hgF, hFN⟩ := hok.part hlen2
      have hE0 := Edit.start hok k (Fs.getD k [])
      generalize hcs : seg 1 cur' k = cs at hel hE0
      clear hcs
      have HOE := Hid.mk (fun w' cs' m' he ho => OwnRow.edit (w' := w') (cs := cs') (m' := m') oBy_good hok hlen2 he ho)
      have HS := Hid.mk (fun m' => set_mid hl' hkl m')
      have HH := Hid.mk (fun x q2 hx => hdS_snoc (x := x) (q2 := q2) hh hx)
      have HL' := Hid.mk hl'
      have HT := Hid.mk htk
      generalize hm0 : l[k] = m at *
      generalize Fs.getD k [] = Fk at *
      have HKK := Hid.mk hkk
      have HW1 := Hid.mk hw1
      have hcm : cntBy m = m.length := rfl
      have hlo : 0 ≤ kk := by omega
      have hup : kk + m.length ≤ 70368744177664 := by omega
      clear hm0 hok hh hl' htk hlen2 hkk hw1 hw2 hcm
      obtain ⟨v1, rfl, h1⟩ := hel
      obtain ⟨a1, c1, rfl, _⟩ := h1.read
      have q0 := hE0.cellAt (i := 0) (by omega) rfl
      simp only [Nat.mul_one, Nat.add_zero] at q0
      have hC := markByteS_r _ m Fk kk wr hlo hup h1 hFN
      go_wp2_with fail
      refine Calls.mono hC ?_
      clear hC
      rintro e w1 ⟨m2, q2, rfl, hqa, hqb, hown1, hhd, ht1⟩
      have hE1 := hE0.keep ht1 hgF
      clear q0
      go_wp2_with fail
      go_roundw
      case rel =>
        have hed := HOE.out _ _ m2 hE1 ⟨_, rfl, hown1⟩
        obtain ⟨⟨cur2, hrow2⟩, ht2⟩ := hed
        rw [HS.out] at hrow2
        have hml : m2.length = m.length := by
          obtain ⟨_, _, e1, _⟩ := hown1.read
          simp only [Value.slice.injEq] at e1
          exact e1.2.1.symm
        refine ⟨k + 1, q2, l' ++ [m2], cur2, by omega, by go_num, rfl, ?_, by simp [HL'.out], hrow2, HH.out _ _ hhd, HT.out.trans ht2⟩
        rw [HW1.out]
        have h1 := HKK.out
        have h2 : cntBy m = m.length := rfl
        have h3 := hhd.2
        omega
      case measure => simp [intOf]; omega
    · have hkn : k = n := by omega
      have HT1 : Hid (l.take k = l) := List.take_of_length_le (by rw [HX.out]; omega)
      have HT2 : Hid (l.drop k = []) := List.drop_of_length_le (by rw [HX.out]; omega)
      rw [HT1.out] at hkk
      rw [HT2.out, List.append_nil] at hok
      have hk2 : 0 ≤ kk := by omega
      subst hkk
      go_wp2_with fail
      go_ret
      exact ⟨rfl, l', cur', hok, by rw [hl', hkn], hh, htk⟩

set_option maxHeartbeats 400000 in
theorem markByteSS_nil (q : Int) (w : World) :
    Calls Tryd.prog 30 #[.slice none 0 0, .int .i64 q] w fun e w' => e = .returned (.int .i64 q) ∧ w' = w := by
  go_enter Tryd.func30, Tryd.ntmps30
  go_wp2
  refine wp_loop_rounds 1 ?_
  rw [rounds_succ]
  go_wp2
  go_ret
  exact ⟨rfl, rfl⟩

theorem markByteSS_r (v : Value) (l : List (List Int)) (F : List Nat) (q : Int) (w : World) (hq : 0 ≤ q) (hq2 : q + sumW cntBy l ≤ 70368744177664) (ho : ownS 1 22 oBy w v l F) (hN : F.Nodup) :
    Calls Tryd.prog 30 #[v, .int .i64 q] w fun e w' => ∃ (m' : List (List Int)) (q' : Int), e = .returned (.int .i64 q') ∧ q ≤ q' ∧ q' ≤ 70368744177664 ∧ ownS 1 22 oBy w' v m' F ∧ hdS hdB m' q q' ∧ Turn F w w' := by
  rcases ho.open hN with ⟨rfl, rfl, rfl⟩ | ⟨g, cap, cur, Fs, rfl, hrow, rfl⟩
  · refine (markByteSS_nil q w).mono ?_
    rintro e w' ⟨rfl, rfl⟩
    exact ⟨[], q, rfl, by omega, by simpa [sumW] using hq2, ho, rfl, Turn.refl _ _⟩
  · refine (markByteSS_row g cap _ l cur Fs q w rfl hq hq2 hrow).mono ?_
    rintro e w' ⟨rfl, l', cur', hr', hl', hh, ht⟩
    have h := hr'.shut
    rw [hl'] at h
    exact ⟨l', _, rfl, by omega, hq2, h, hh, ht⟩

set_option maxHeartbeats 1000000 in
theorem heldByteSS_r (v : Value) (l : List (List Int)) (q q' : Int) (w : World) (hr : rdBs w.heap.size w v l) (hh : hdS hdB l q q') (hq : 0 ≤ q) (hq' : q' ≤ 70368744177664) :
    Calls Tryd.prog 31 #[v, .int .i64 q] w fun e w' => e = .returned (.int .i64 q') ∧ Below w.heap.size w w' := by
  obtain ⟨a, cap, rfl, hL⟩ := hr
  obtain ⟨n, hn⟩ : ∃ n, l.length = n := ⟨_, rfl⟩
  have HX := Hid.mk hn
  have hcap : n ≤ 9223372036854775807 := by have h1 := hL.1; have h2 := hL.2.1; omega
  rw [hn]
  clear hn
  replace hL := hL.2.2
  have HH := Hid.mk hh
  clear hh
  go_enter Tryd.func31, Tryd.ntmps31
  go_wp2_with fail
  go_loopw [1, 5] (fun kv i wr => ∃ (k : Nat) (kk : Int), k ≤ n ∧ i = .int .i64 k ∧ kv = .int .i64 kk ∧ 0 ≤ kk ∧ hdS hdB (l.drop k) kk q' ∧ Below w.heap.size w wr) (fun _ i _ => n - (intOf i).toNat)
  case atStart => exact ⟨0, q, Nat.zero_le _, rfl, rfl, hq, by simpa using HH.out, Below.refl _ _⟩
  case round =>
    obtain ⟨k, kk, hk, rfl, rfl, hk0, hh, hbk⟩ := hrel
    by_cases hlt : k < n
    · have hkl : k < l.length := by rw [HX.out]; exact hlt
      rw [List.drop_eq_getElem_cons hkl] at hh
      obtain ⟨q1, hh1, hh2⟩ := hh
      have hqe := hdS_end hdB_end hh2
      obtain ⟨b1, o1, rfl, hB, cs, _, hcell, a1, c1, rfl, l1⟩ := (hL.below rBy_good hbk) k hkl
      have k0 := hcell 0 _ rfl
      simp only [Nat.mul_one, Nat.add_zero] at k0
      generalize l[k] = m at *
      have hq1 : q1 = kk + m.length := hh1.2
      have hC := heldByteS_r _ m kk q1 wr ⟨a1, c1, rfl, LeafB.mono l1 hbk.size⟩ hh1 hk0 (by omega)
      have HR := Hid.mk hh2
      have hq10 : 0 ≤ q1 := by omega
      clear hh2 hqe HH hL hcell hh1 l1 hq1
      go_wp2_with fail
      refine Calls.mono hC ?_
      rintro e w1 ⟨rfl, hx1⟩
      go_wp2_with fail
      go_roundw
      case rel => exact ⟨k + 1, q1, by omega, by go_num, rfl, hq10, HR.out, hbk.trans (hx1.mono hbk.size)⟩
      case measure => simp [intOf]; omega
    · have HT2 : Hid (l.drop k = []) := List.drop_of_length_le (by rw [HX.out]; omega)
      rw [HT2.out] at hh
      have hqk : q' = kk := hh
      subst hqk
      go_wp2_with fail
      go_ret
      exact ⟨rfl, hbk⟩

end Go.Proofs.YtiahmcclmlmgpaaDoor
