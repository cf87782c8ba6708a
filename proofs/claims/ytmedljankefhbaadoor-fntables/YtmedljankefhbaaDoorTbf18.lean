/-
  Part 19 of the texts that the proof leans on.
-/
import Derived.Test.YtmedljankefhbaaDoorTbf0
import Derived.Test.YtmedljankefhbaaDoorTbf12
import Derived.Test.YtmedljankefhbaaDoorTbf17
import Derived.Test.YtmedljankefhbaaDoorTbf11
set_option linter.unusedVariables false
set_option linter.unusedSimpArgs false
set_option maxRecDepth 10000

namespace Go.Proofs.YtmedljankefhbaaDoor
open Go.RowKit Go.Maps
abbrev q318_3_13_0 : Oper := ⟨some 66, .move (.tmp 10), 3, "laws.go:372", #[], none⟩
abbrev q318_3_13_1 : Oper := ⟨some 67, .binOp .neq 3 (.tmp 66) (.const (.int .i64 0)) 3, 4, "laws.go:372", #[⟨0, .data⟩], none⟩
abbrev q318_3_13_2 : Oper := ⟨some 68, .move (.tmp 67), 4, "laws.go:372", #[⟨1, .data⟩], none⟩
abbrev q318_3_13_3 : Oper := ⟨some 69, .load 32 (.tmp 9), 32, "laws.go:372", #[⟨2, .guard⟩], some (2, false)⟩
abbrev q318_3_13_4 : Oper := ⟨some 70, .move (.tmp 3), 24, "laws.go:372", #[⟨2, .guard⟩], some (2, false)⟩
abbrev q318_3_13_5 : Oper := ⟨some 71, .move (.tmp 8), 3, "laws.go:372", #[⟨2, .guard⟩], some (2, false)⟩
abbrev q318_3_13_6 : Oper := ⟨some 72, .indexAddr 24 (.tmp 70) (.tmp 71), 0, "laws.go:372", #[⟨4, .data⟩, ⟨5, .data⟩, ⟨2, .guard⟩], some (2, false)⟩
abbrev q318_3_13_7 : Oper := ⟨some 73, .load 32 (.tmp 72), 32, "laws.go:372", #[⟨6, .data⟩, ⟨2, .guard⟩], some (2, false)⟩
abbrev q318_3_13_8 : Oper := ⟨some 74, .binOp .neq 32 (.tmp 69) (.tmp 73) 32, 4, "laws.go:372", #[⟨3, .data⟩, ⟨7, .data⟩, ⟨2, .guard⟩], some (2, false)⟩
abbrev q318_3_13_9 : Oper := ⟨some 75, .pick (.tmp 68) (.const (.bool true)) (.tmp 74), 4, "laws.go:372", #[⟨2, .data⟩, ⟨8, .data⟩], none⟩

set_option maxHeartbeats 400000 in
theorem bigT_any (a : Option Addr) (n cap : Nat) (w : World) :
    Calls Tryd.prog 4 #[.slice a n cap] w fun e w' => e = .returned (.bool (decide (1048576 < (n : Int)))) ∧ w' = w := by
  go_enter Tryd.func4, Tryd.ntmps4
  go_wp2_with fail
  go_ret
  exact ⟨rfl, rfl⟩
set_option maxHeartbeats 400000 in
theorem atT_any (a : Option Addr) (n cap i : Nat) (zs : List Int) (w : World) (hx : zs.length = n) (hlen : n ≤ 1048576) (hi : i ≤ 1000) (hb : BytesOk zs) (hr : Rd .u8 w.heap.size w a zs) :
    Calls Tryd.prog 13 #[.slice a n cap, .int .i64 i] w fun e w' => ∃ x : Nat, (e = .returned (.int .i64 x) ∧ x ≤ 255) ∧ w' = w := by
  have HX := Hid.mk hx
  clear hx
  by_cases hlt : i < n
  · obtain ⟨b1, o1, rfl, _, hc1⟩ := hr i (by rw [HX.out]; exact hlt)
    have hbd := hb.getD i
    generalize zs.getD i 0 = z at hc1 hbd
    go_enter Tryd.func13, Tryd.ntmps13
    go_wp2_with fail
    go_ret
    obtain ⟨x, rfl⟩ := Int.eq_ofNat_of_zero_le hbd.1
    exact ⟨x, ⟨by go_num, by omega⟩, rfl⟩
  · go_enter Tryd.func13, Tryd.ntmps13
    go_wp2_with fail
    go_ret
    exact ⟨(i * 31 + n * 7) % 256, ⟨by go_num, by omega⟩, rfl⟩
theorem BytesOk.put {zs : List Int} (h : BytesOk zs) (j : Nat) {c : Int} (hc : 0 ≤ c ∧ c ≤ 255) : BytesOk (zs.set j c) := by
  intro z hz
  rcases List.mem_or_eq_of_mem_set hz with h1 | rfl
  · exact h z h1
  · exact hc
theorem turn_fin : ∀ (z : Fin 256) (r : Fin 8), (0 ≤ bits .xor .u8 ((z.val : Nat) : Int) (2 ^ r.val % 256) ∧ bits .xor .u8 ((z.val : Nat) : Int) (2 ^ r.val % 256) ≤ 255) ∧ bits .xor .u8 ((z.val : Nat) : Int) (2 ^ r.val % 256) ≠ ((z.val : Nat) : Int) := by decide +kernel
theorem turn_bit {z : Int} {r : Nat} (h0 : 0 ≤ z) (h1 : z ≤ 255) (hr : r < 8) : ∃ c : Int, bits .xor .u8 z (2 ^ r % 256) = c ∧ (0 ≤ c ∧ c ≤ 255) ∧ c ≠ z := by
  obtain ⟨k, rfl⟩ := Int.eq_ofNat_of_zero_le h0
  exact ⟨_, rfl, turn_fin ⟨k, by omega⟩ ⟨r, hr⟩⟩

/-- What stands in a world while the law goes on. -/
def TgAt (zs : List Int) (a : Option Addr) (l : List MPair) (al : Option Addr) (cl : Nat) (b : List Int) (ab : Option Addr) (pe q : Addr) (W : World) : Prop :=
  Rd .u8 W.heap.size W a zs ∧ LeafL 3 rPair W.heap.size W al cl l ∧ Rd .u8 W.heap.size W ab b ∧ Tabs2 W ∧ ErrAt W pe ∧ Err2 W q ∧ ErrB W pe ∧ ErrB W q
theorem TgAt.below {zs : List Int} {a : Option Addr} {l : List MPair} {al : Option Addr} {cl : Nat} {b : List Int} {ab : Option Addr} {pe q : Addr} {W W' : World} (h : TgAt zs a l al cl b ab pe q W) (hb : Below W.heap.size W W') : TgAt zs a l al cl b ab pe q W' :=
  ⟨(h.1.below hb).mono hb.size, (h.2.1.below rPair_good hb).mono rPair_good hb.size, (h.2.2.1.below hb).mono hb.size, h.2.2.2.1.below hb h.2.2.2.1.size, h.2.2.2.2.1.below hb, h.2.2.2.2.2.1.below hb, h.2.2.2.2.2.2.1.below hb, h.2.2.2.2.2.2.2.below hb⟩

/-- TableGet of a key of the table, and of one that is none. -/
theorem get_yes {zs : List Int} {a : Option Addr} {l : List MPair} {al : Option Addr} {cl cb : Nat} {ab : Option Addr} {pe q : Addr} (hok : tabOk l = true) (hne : q ≠ pe) (hcb : (tabB l).length ≤ cb) (hcm : cb ≤ 9223372036854775807) (W : World) (h : TgAt zs a l al cl (tabB l) ab pe q W) (k : Nat) (hk : k < l.length) :
    Calls Tryd.prog 9 #[.slice ab (tabB l).length cb, .string l[k].fKey] W fun e w' => e = .returned (.tuple #[.agg #[.string l[k].fKey, .string l[k].fVal, .bool l[k].fGone], .int .i64 0]) ∧ Below W.heap.size W w' := by
  have hs := tabOk_sizes hok l[k] (List.getElem_mem hk)
  have := tableGet_any ab _ cb (tabB l) l[k].fKey (mksOf l (nBlk l)) (flt (keysP l)) (plc l (nBlk l)) (blOf l) pe q W rfl (tab_small hok) hcb hcm (tab_bytes hok) h.2.2.1 h.2.2.2.1.2 h.2.2.2.2.1 h.2.2.2.2.2.1 (by omega) (ixR_tab hok).1 (mxB_of hok) (bl_good hok) hne h.2.2.2.2.2.2.1 h.2.2.2.2.2.2.2
  rw [fps_yes hok hk] at this
  exact this
theorem get_none {zs : List Int} {a : Option Addr} {l : List MPair} {al : Option Addr} {cl cb : Nat} {ab : Option Addr} {pe q : Addr} (hok : tabOk l = true) (hne : q ≠ pe) (hcb : (tabB l).length ≤ cb) (hcm : cb ≤ 9223372036854775807) (W : World) (h : TgAt zs a l al cl (tabB l) ab pe q W) (key : ByteArray) (hs : key.size ≤ 2000000) (hk : ∀ x, x ∈ l → x.fKey ≠ key) :
    Calls Tryd.prog 9 #[.slice ab (tabB l).length cb, .string key] W fun e w' => e = .returned (.tuple #[.agg #[.string ⟨#[]⟩, .string ⟨#[]⟩, .bool false], .int .i64 1]) ∧ Below W.heap.size W w' := by
  have := tableGet_any ab _ cb (tabB l) key (mksOf l (nBlk l)) (flt (keysP l)) (plc l (nBlk l)) (blOf l) pe q W rfl (tab_small hok) hcb hcm (tab_bytes hok) h.2.2.1 h.2.2.2.1.2 h.2.2.2.2.1 h.2.2.2.2.2.1 hs (ixR_tab hok).1 (mxB_of hok) (bl_good hok) hne h.2.2.2.2.2.2.1 h.2.2.2.2.2.2.2
  rw [fps_none hk] at this
  exact this

theorem tilde_size (s : ByteArray) : (tildeK s).size = s.size + 1 := by unfold tildeK; rw [ByteArray.size_append]; rfl

theorem frs_take_le (bs : List (List Int)) (i : Nat) : (frs (bs.take i)).length ≤ (frs bs).length := by
  have h := congrArg (fun x => (frs x).length) (List.take_append_drop i bs)
  simp only [frs_app, List.length_append] at h
  omega

def SafeF (bods : List (List Int)) (j i : Nat) : Prop := ∀ i', (hi : i' < bods.length) → i' < i → (frs (bods.take i')).length + 4 ≤ j → (frs (bods.take i')).length + 4 + (putNum (bods[i'].length : Int)).length ≤ j
/-- Where the walk over the frames stands. -/
def TgL (bods : List (List Int)) (j : Nat) (wo : World) (fv : Value) (wq : World) : Prop := ∃ (i p0 : Nat), i ≤ bods.length ∧ fv = .int .i64 p0 ∧ p0 = (frs (bods.take i)).length ∧ Below wo.heap.size wo wq ∧ SafeF bods j i

/-- What the law asks of the table's bytes, plainly. -/
def TgF (l : List MPair) (b : List Int) (m : Nat) (bods : List (List Int)) : Prop :=
  b.length = m ∧ BytesOk b ∧ (frs bods).length + 4 = m ∧ (∀ i, (hi : i < bods.length) → unframe b ((frs (bods.take i)).length : Nat) = (bods[i], (((frs (bods.take (i + 1))).length : Nat) : Int), true)) ∧
  (∀ i, (hi : i < bods.length) → (frs (bods.take (i + 1))).length = (frs (bods.take i)).length + 4 + (putNum (bods[i].length : Int)).length + bods[i].length) ∧
  (∀ k c, k < m - 4 → (0 ≤ c ∧ c ≤ 255) → c ≠ b.getD k 0 → (∀ i, (hi : i < bods.length) → (frs (bods.take i)).length + 4 ≤ k → (frs (bods.take i)).length + 4 + (putNum (bods[i].length : Int)).length ≤ k) → (tpS (b.set k c)).2 = false)
theorem tab_f {l : List MPair} (hok : tabOk l = true) : TgF l (tabB l) (tabB l).length (bodA l) := by
  have hl : (frs (bodA l)).length + 4 = (tabB l).length := by rw [tab_frs l, List.length_append, four_length]
  refine ⟨rfl, tab_bytes hok, hl, fun i hi => ?_, fun i hi => ?_, fun k c hk hc hne hs => tp_turned hok hk hc hne hs⟩
  · rw [tab_frs l]; exact frs_at (bodA l) _ (bodA_ok hok) hi
  · rw [List.take_succ_eq_append_getElem hi, frs_app, frs, frs, List.append_nil, List.length_append, frame_size (bodA_ok hok _ (List.getElem_mem hi)).2]
    omega

set_option maxHeartbeats 8000000 in
theorem law_FnTables_r (a : Option Addr) (n cap : Nat) (zs : List Int) (pe q : Addr) (w : World) (hx : zs.length = n) (hbz : BytesOk zs) (hr : Rd .u8 w.heap.size w a zs) (hT : Tabs2 w) (hE : ErrAt w pe) (hE2 : Err2 w q) (hne : q ≠ pe) (hB1 : ErrB w pe) (hB2 : ErrB w q) :
    Calls Tryd.prog 3 #[.slice a n cap] w fun e w' => e = .returned (.bool true) ∧ Below w.heap.size w w' := by
  obtain ⟨i0, hi, hz0, hz1, hz2⟩ := info_parts Tryd.info5
  obtain ⟨iS, hiS, hzS0, hzS1, hzS2⟩ := info_parts Tryd.infoOfStr
  have HI8 : Hid (_ ∧ _ ∧ _ ∧ _) := ⟨hi, hz0, hz1, hz2⟩
  have HIS : Hid (_ ∧ _ ∧ _ ∧ _) := ⟨hiS, hzS0, hzS1, hzS2⟩
  clear hi hz0 hz1 hz2 hiS hzS0 hzS1 hzS2
  have hsz := hT.size
  have HX := Hid.mk hx
  have HBZ := Hid.mk hbz
  have HRZ := Hid.mk hr
  have HT := Hid.mk hT
  have HE := Hid.mk hE
  have HE2 := Hid.mk hE2
  have HB1 := Hid.mk hB1
  have HB2 := Hid.mk hB2
  have HNE := Hid.mk hne
  clear hx hbz hr hT hE hE2 hB1 hB2 hne
  go_enter Tryd.func3, Tryd.ntmps3
  go_wp2_with fail
  refine (bigT_any a n cap w).mono ?_
  rintro e w0 ⟨rfl, hw0⟩
  have hw0' := hw0.symm
  clear hw0
  subst hw0'
  by_cases hbig : 1048576 < (n : Int)
  · rw [decide_eq_true hbig]
    go_wp2_with fail
    go_ret
    exact ⟨rfl, Below.refl _ _⟩
  rw [decide_eq_false hbig]
  go_wp2_with fail
  refine (drawPairs_ok a n cap zs w HX.out (by omega) HRZ.out).mono ?_
  rintro e w1 ⟨al, cl, l, rfl, hL, hok, htl, hb1⟩
  have hw1 := tabOk_w hok
  have hln := (tabOk_len hok).2
  have hT1 := HT.out.below hb1 hsz
  go_wp2_with fail
  refine (implPutTable_any al l.length cl l w1 rfl (by omega) hL (by omega) hT1.1 hT1.2).mono ?_
  rintro e w2 ⟨v2, rfl, hown2, hb2⟩
  have hrb := rdB_own (tab_own (by omega) hown2)
  rw [show tabP l = tabB l from by unfold tabP; rw [if_pos hok]] at hrb
  obtain ⟨ab, cb, rfl, hcb, hcm, hRb, _⟩ := hrb
  have HF := Hid.mk (tab_f hok)
  have hTG : TgAt zs a l al cl (tabB l) ab pe q w2 := by
    have hb12 := bthen hb1 hb2
    exact ⟨(HRZ.out.below hb12).mono hb12.size, (hL.below rPair_good hb2).mono rPair_good hb2.size, hRb, HT.out.below hb12 hsz, HE.out.below hb12, HE2.out.below hb12, HB1.out.below hb12, HB2.out.below hb12⟩
  have HG1 := Hid.mk (fun W h k hk => get_yes (zs := zs) (a := a) (al := al) (cl := cl) (ab := ab) hok HNE.out hcb hcm W h k hk)
  have HG2 := Hid.mk (fun W h key hs hk => get_none (zs := zs) (a := a) (al := al) (cl := cl) (ab := ab) hok HNE.out hcb hcm W h key hs hk)
  have HTS := Hid.mk (tpS_yes hok rfl)
  have HKS := Hid.mk (tabOk_sizes hok)
  have HTL := Hid.mk htl
  have HB02 := Hid.mk (bthen hb1 hb2)
  have hm1 := tab_long hok
  have hm2 := tab_small hok
  generalize bodA l = bods at *
  generalize tabB l = b at *
  obtain ⟨m, hm⟩ : ∃ m, b.length = m := ⟨_, rfl⟩
  rw [hm] at HF HG1 HG2 hcb hm1 hm2 ⊢
  clear hm hown2 hL hok htl hw1 hT1 hRb hb1 hb2
  have HTG := Hid.mk hTG
  have HTI := Hid.mk (fun W (h : TgAt zs a l al cl b ab pe q W) => implTab_any ab m cb b pe W HF.out.1 hm2 hcb hcm HF.out.2.1 h.2.2.1 h.2.2.2.1 h.2.2.2.2.1)
  rw [HTS.out] at HTI
  clear hTG
  go_wp2_with fail
  refine Calls.mono (HTI.out w2 HTG.out) ?_
  rintro e w3 ⟨v3, F3, rfl, ho3, hN3, hge3, hb3⟩
  obtain ⟨a3, c3, rfl, hL3⟩ := rdPs_own ho3
  have HT3 := Hid.mk (HTG.out.below hb3)
  have HB03 := Hid.mk (bthen HB02.out hb3)
  clear ho3 hN3 hge3 hb3
  go_wp2_with fail
  refine Calls.mono (samePairs_yes a3 al c3 cl l w3 hL3 HT3.out.2.1) ?_
  rintro e w4 ⟨rfl, hb4⟩
  have HT4 := Hid.mk (HT3.out.below hb4)
  have HB04 := Hid.mk (bthen HB03.out hb4)
  clear hL3 hb4
  have hmz : ((m : Nat) : Int) ≠ 0 := by omega
  obtain ⟨w5, hw5⟩ : ∃ x, x = w4.alloc (.cells #[] 9) := ⟨_, rfl⟩
  have hx5 : Below w4.heap.size w4 w5 := by rw [hw5]; exact (Below.refl _ _).alloc (Nat.le_refl _) _
  have ho5 : w5.ownsRow w4.heap.size 9 1 (.slice (some ⟨w4.heap.size, 0, none⟩) 0 0) 0 [] := by rw [hw5]; exact World.ownsRow_lit w4 #[] 0 (Nat.le_refl _) (by decide) rfl
  go_wp2_with (rw [← hw5])
  try rw [← hw5]
  clear hw5
  have hmb : (((m : Nat) : Int) == 0) = false := by simp; omega
  simp only [hmb]
  go_loopw [7, 8] (fun kv iv wr => ∃ k : Nat, k ≤ l.length ∧ iv = .int .i64 k ∧ wr.ownsRow w4.heap.size 9 1 kv k ((keysP (l.take k)).map Value.string) ∧ Below w4.heap.size w4 wr) (fun _ iv _ => l.length - (intOf iv).toNat)
  case atStart => exact ⟨0, Nat.zero_le _, rfl, ho5, hx5⟩
  case round =>
    obtain ⟨k, hk, rfl, hown, hbk⟩ := hrel
    clear ho5 hx5
    have HAT := Hid.mk (HT4.out.below hbk)
    by_cases hlt : k < l.length
    · have hG1 := HG1.out wr HAT.out k hlt
      have hG2 := fun W h => HG2.out W h (tildeK l[k].fKey) (by have := (HKS.out l[k] (List.getElem_mem hlt)).1; rw [tilde_size]; omega) (fun x hx => HTL.out x hx l[k] (List.getElem_mem hlt))
      have hks := (HKS.out l[k] (List.getElem_mem hlt)).1
      have HST := Hid.mk (keys_step hlt)
      obtain ⟨b1, o1, rfl, u0, u1, u2⟩ := pair_cells HAT.out.2.1 (Below.refl _ _) hlt
      have HU := Hid.mk (And.intro u0 (And.intro u1 u2))
      generalize l[k] = x at *
      have z0 := u0 _ (Below.refl _ _)
      have z1 := u1 _ (Below.refl _ _)
      have z2 := u2 _ (Below.refl _ _)
      clear u0 u1 u2
      have HG2' := Hid.mk hG2
      clear hG2
      go_wp2_with fail
      refine Calls.mono hG1 ?_
      clear hG1
      rintro e w6 ⟨rfl, hb6⟩
      obtain ⟨w7, hw7⟩ : ∃ W7, W7 = w6.alloc (.cells #[.string x.fKey, .string x.fVal, .bool x.fGone] 32) := ⟨_, rfl⟩
      have hx7 : Below w6.heap.size w6 w7 := by rw [hw7]; exact (Below.refl _ _).alloc (Nat.le_refl _) _
      have hbp : Bw w7 w6.heap.size 32 [.string x.fKey, .string x.fVal, .bool x.fGone] := by rw [hw7]; exact Bw.new _ _ _
      have hr7 := bthen hb6 hx7
      have q0 : ∀ W, Below w7.heap.size w7 W → W.cell? ⟨w6.heap.size, 0, none⟩ = some (.string x.fKey) := fun W h => (hbp.under h).cell 0 _ rfl
      have q1 : ∀ W, Below w7.heap.size w7 W → W.cell? ⟨w6.heap.size, 1, none⟩ = some (.string x.fVal) := fun W h => (hbp.under h).cell 1 _ rfl
      have q2 : ∀ W, Below w7.heap.size w7 W → W.cell? ⟨w6.heap.size, 2, none⟩ = some (.bool x.fGone) := fun W h => (hbp.under h).cell 2 _ rfl
      replace z0 : ∀ W, Below w7.heap.size w7 W → W.cell? ⟨b1, o1 + k * 3, none⟩ = some (.string x.fKey) := fun W h => HU.out.1 W (bthen hr7 h)
      replace z1 : ∀ W, Below w7.heap.size w7 W → W.cell? ⟨b1, o1 + k * 3 + 1, none⟩ = some (.string x.fVal) := fun W h => HU.out.2.1 W (bthen hr7 h)
      replace z2 : ∀ W, Below w7.heap.size w7 W → W.cell? ⟨b1, o1 + k * 3 + 2, none⟩ = some (.bool x.fGone) := fun W h => HU.out.2.2 W (bthen hr7 h)
      have HR7 := Hid.mk hr7
      clear hb6 hx7 hbp hr7
      go_wp2_with (rw [← hw7])
      try rw [← hw7]
      clear hw7
      refine wp_region_held_drew (S := fun W => Below w7.heap.size w7 W) (by kernel_rfl) (Below.drew (Below.refl _ _)) (fun hHeld => ?_)
      refine tk 0 q318_3_13_0 (some 66) (v := ?v1) rfl rfl (by kernel_rfl) hHeld (by rfl) (fun _ _ _ x => x) (fun w h => ?y1) ?_; (case y1 => (try dsimp only at h); go_simp; try (with_reducible rfl)); try simp only [Act.put, sa, s0, s1]
      refine tk 1 q318_3_13_1 (some 67) (v := ?v2) rfl rfl (by kernel_rfl) hHeld (by rfl) (fun _ _ _ x => x) (fun w h => ?y2) ?_; (case y2 => (try dsimp only at h); go_simp; try (with_reducible rfl)); try simp only [Act.put, sa, s0, s1]
      refine tk 2 q318_3_13_2 (some 68) (v := ?v3) rfl rfl (by kernel_rfl) hHeld (by rfl) (fun _ _ _ x => x) (fun w h => ?y3) ?_; (case y3 => (try dsimp only at h); go_simp; try (with_reducible rfl)); try simp only [Act.put, sa, s0, s1]
      refine tk 3 q318_3_13_3 (some 69) (v := ?v4) rfl rfl (by kernel_rfl) hHeld (by rfl) (fun _ _ _ x => x) (fun w h => ?y4) ?_; (case y4 => (try dsimp only at h); go_simp; try (with_reducible rfl)); try simp only [Act.put, sa, s0, s1]
      refine tk 4 q318_3_13_4 (some 70) (v := ?v5) rfl rfl (by kernel_rfl) hHeld (by rfl) (fun _ _ _ x => x) (fun w h => ?y5) ?_; (case y5 => (try dsimp only at h); go_simp; try (with_reducible rfl)); try simp only [Act.put, sa, s0, s1]
      refine tk 5 q318_3_13_5 (some 71) (v := ?v6) rfl rfl (by kernel_rfl) hHeld (by rfl) (fun _ _ _ x => x) (fun w h => ?y6) ?_; (case y6 => (try dsimp only at h); go_simp; try (with_reducible rfl)); try simp only [Act.put, sa, s0, s1]
      refine tk 6 q318_3_13_6 (some 72) (v := ?v7) rfl rfl (by kernel_rfl) hHeld (by rfl) (fun _ _ _ x => x) (fun w h => ?y7) ?_; (case y7 => (try dsimp only at h); go_simp; try (with_reducible rfl)); try simp only [Act.put, sa, s0, s1]
      refine tk 7 q318_3_13_7 (some 73) (v := ?v8) rfl rfl (by kernel_rfl) hHeld (by rfl) (fun _ _ _ x => x) (fun w h => ?y8) ?_; (case y8 => (try dsimp only at h); go_simp; try (with_reducible rfl)); try simp only [Act.put, sa, s0, s1]
      refine tk 8 q318_3_13_8 (some 74) (v := ?v9) rfl rfl (by kernel_rfl) hHeld (by rfl) (fun _ _ _ x => x) (fun w h => ?y9) ?_; (case y9 => (try dsimp only at h); go_simp; try (with_reducible rfl)); try simp only [Act.put, sa, s0, s1]
      refine tk 9 q318_3_13_9 (some 75) (v := ?v10) rfl rfl (by kernel_rfl) hHeld (by rfl) (fun _ _ _ x => x) (fun w h => ?y10) ?_; (case y10 => (try dsimp only at h); go_simp; try (with_reducible rfl)); try simp only [Act.put, sa, s0, s1]
      refine wpAnyH_done (by kernel_rfl) ?_ _
      have HAT8 := Hid.mk (HAT.out.below (bthen HR7.out hHeld))
      have HR8 := Hid.mk (bthen HR7.out hHeld)
      replace z0 := z0 _ hHeld
      clear z1 z2 q0 q1 q2 hHeld
      have hts : ¬ 9223372036854775807 < x.fKey.size + 1 := by omega
      go_wp2_with fail
      refine Calls.mono (HG2'.out _ HAT8.out) ?_
      rintro e w9 ⟨rfl, hb9⟩
      clear z0
      obtain ⟨w10, hw10⟩ : ∃ W7, W7 = w9.alloc (.cells #[.string ⟨#[]⟩, .string ⟨#[]⟩, .bool false] 32) := ⟨_, rfl⟩
      have hx10 : Below w9.heap.size w9 w10 := by rw [hw10]; exact (Below.refl _ _).alloc (Nat.le_refl _) _
      have hr10 := bthen HR8.out (bthen hb9 hx10)
      have z0 := HU.out.1 w10 hr10
      have HR10 := Hid.mk hr10
      have hown10 := own_below hown hr10
      obtain ⟨w11, hw11⟩ : ∃ W7, W7 = w10.alloc (.cells #[.string x.fKey] 9) := ⟨_, rfl⟩
      have hx11 : Below w10.heap.size w10 w11 := by rw [hw11]; exact (Below.refl _ _).alloc (Nat.le_refl _) _
      have hbx : Bx w11 (w9.heap.size + 1) [.string x.fKey] := by rw [show w9.heap.size + 1 = w10.heap.size from by rw [hw10]; simp, hw11]; exact Bx.new _ _ _
      have hz9 : w9.heap.size + 1 ≤ w10.heap.size := by rw [hw10]; simp
      have hown11 := own_below hown10 hx11
      rw [hw10] at z0
      have hbw : Below w4.heap.size w4 wr := hbk
      have hz6 : w4.heap.size ≤ w9.heap.size := by have h1 := hbk.size; have h2 := HR8.out.size; have h3 := hb9.size; omega
      have hzw : w4.heap.size ≤ wr.heap.size := hbk.size
      have hz11 := hx11.size
      have hz10 := hr10.size
      obtain ⟨xs, HXS⟩ : ∃ xs, Hid (xs = (keysP (l.take k)).map Value.string) := ⟨_, rfl⟩
      rw [← HXS.out] at hown11
      have hb11 := bthen hr10 hx11
      have HW := Hid.mk (And.intro hw10 hw11)
      clear hb9 hx10 hown hown10 hr10 hw10 hw11
      go_wp2_with (at_builtin; rw [← HW.out.1, ← HW.out.2]; refine wpList_append_own_at _ rfl _ _ 30 rfl w4.heap.size 9 iS (.string ByteArray.empty) 1 16 Tryd.underlying30 HIS.out.1 HIS.out.2.1 HIS.out.2.2.1 HIS.out.2.2.2 rfl (by decide) _ _ _ rfl hown11 ⟨w9.heap.size + 1, 0, none⟩ 1 1 [.string x.fKey] rfl rfl (bx_news hbx) (by intro u hu; simp at hu; subst hu; rfl) (by unfold maxLen; omega) (by omega) (by omega) ?_; intro v' w12 hown12 hgrow12 hnil hloc)
      have hT12 := Turn.after hb11 (turnOwn hgrow12)
      have hge : ∀ k, k ∈ (Value.ownBlock _).toList → w4.heap.size ≤ k := fun k hk => (hown11.lt k (by simpa using hk)).1
      go_roundw
      case rel =>
        exact ⟨k + 1, by omega, by go_num, own_congr hown12 rfl (by rw [HST.out, HXS.out]), Turn.under hbw hT12 (fun k hk => hge k hk)⟩
      case measure => simp [intOf]; omega
    · have hke : k = l.length := by omega
      have HTK : Hid (l.take k = l) := List.take_of_length_le (by omega)
      rw [HTK.out] at hown
      subst hke
      have hkl : (keysP l).length = l.length := by unfold keysP; rw [List.length_map]
      obtain ⟨ks, HKP⟩ : ∃ ks, Hid (keysP l = ks) := ⟨_, Hid.mk rfl⟩
      have HKM : Hid (∀ j, (h : j < ks.length) → (ks[j].size ≤ 20 ∧ ks[j] ∈ ks)) := by
        rw [← HKP.out]
        intro j h
        refine ⟨?_, List.getElem_mem h⟩
        obtain ⟨p, hp, e⟩ := List.mem_map.1 (List.getElem_mem h)
        rw [← e]
        exact (HKS.out p hp).1
      rw [HKP.out] at hown hkl
      have hksz : ∀ s, s ∈ ks → s.size ≤ 140737488351232 := fun s hs => by
        obtain ⟨j, hj, e⟩ := List.mem_iff_getElem.1 hs
        have := (HKM.out j hj).1
        rw [e] at this
        omega
      obtain ⟨ak, ck, rfl, hck, hcm2, hRk⟩ := rdT_own (F := _) (l := ks) ⟨own_base (own_congr hown hkl.symm rfl) (Nat.zero_le _), rfl⟩
      clear hown
      have hkl20 : ks.length ≤ 200 := by omega
      clear hkl
      go_wp2_with fail
      refine Calls.mono (implFilter_any ak ks.length ck ks wr rfl (by omega) hksz hRk HAT.out.2.2.2.1.2) ?_
      rintro e w6 ⟨v6, rfl, hown6, hb6⟩
      obtain ⟨a6, c6, rfl, hc6, hR6⟩ := own_rd (by rw [flt_length]) hown6
      have hRk6 : RdT w6.heap.size w6 ak ks := fun j h => by obtain ⟨b, o, e, hB, hc⟩ := (hRk.below hb6) j h; exact ⟨b, o, e, Nat.lt_of_lt_of_le hB hb6.size, hc⟩
      have HR6 := Hid.mk hR6
      have HRK := Hid.mk hRk6
      have HAT6 := Hid.mk (HAT.out.below hb6)
      have HB06 := Hid.mk (bthen HB04.out (bthen hbk hb6))
      have HFO : Hid (BytesOk (flt ks)) := flt_ok ks
      have HMY : Hid (∀ j, (h : j < ks.length) → mayP (flt ks) ks[j] = true) := fun j h => may_all (List.getElem_mem h)
      clear hown6 hR6 hRk hRk6 hb6 HAT hksz hbk
      go_wp2_with fail
      go_loopw [14] (fun iv wr => ∃ k : Nat, k ≤ ks.length ∧ iv = .int .i64 k ∧ Below w6.heap.size w6 wr) (fun iv _ => ks.length - (intOf iv).toNat)
      case atStart => exact ⟨0, Nat.zero_le _, rfl, Below.refl _ _⟩
      case round =>
        obtain ⟨k, hk, rfl, hbk⟩ := hrel
        by_cases hlt : k < ks.length
        · obtain ⟨b2, o2, rfl, hB2, hc2⟩ := HRK.out k hlt
          have hc2' : wr.cell? ⟨b2, o2 + k, none⟩ = some (.string ks[k]) := (hbk.cell (p := ⟨b2, o2 + k, none⟩) hB2).trans hc2
          have hm2 := HMY.out k hlt
          have hsk := (HKM.out k hlt).1
          have hta := HAT6.out.below hbk
          have hRf := (HR6.out.below hbk).mono hbk.size
          generalize ks[k] = s at *
          have g1 := mk1_bd s
          have g2 := mk2_bd s
          have hM := implMark_any s wr (by omega) hta.2.2.2.1.2
          generalize mk1 s = x1 at *
          generalize mk2 s = x2 at *
          clear hta hc2
          go_wp2_with fail
          refine Calls.mono hM ?_
          rintro e w7 ⟨rfl, hb7⟩
          have hb67 := bthen hbk hb7
          have hc3 : w7.cell? ⟨b2, o2 + k, none⟩ = some (.string s) := (hb7.cell (p := ⟨b2, o2 + k, none⟩) (World.block_lt_of_cell? _ _ hc2')).trans hc2'
          have hMH := implMayHave_any a6 8 c6 (flt ks) s w7 (flt_length ks) (by omega) HFO.out ((HR6.out.below hb67).mono hb67.size) (by omega) (HAT6.out.below hb67).2.2.2.1.2
          rw [hm2] at hMH
          clear hM hb7 hc2' hRf
          go_wp2_with fail
          refine Calls.mono hMH ?_
          rintro e w8 ⟨rfl, hb8⟩
          clear hMH
          go_wp2_with fail
          go_roundw
          case rel => exact ⟨k + 1, by omega, by go_num, bthen hb67 hb8⟩
          case measure => simp [intOf]; omega
        · have HATr := Hid.mk (HAT6.out.below hbk)
          have HB0r := Hid.mk (bthen HB06.out hbk)
          clear hbk
          go_wp2_with fail
          generalize wr = wo at *
          refine Calls.mono (atT_any a n cap 2 zs wo HX.out (by omega) (by omega) HBZ.out HATr.out.1) ?_
          rintro e w9 ⟨x2, ⟨rfl, hx2⟩, hw9⟩
          have hw9' := hw9.symm
          clear hw9
          subst hw9'
          go_wp2_with fail
          refine Calls.mono (atT_any a n cap 3 zs wo HX.out (by omega) (by omega) HBZ.out HATr.out.1) ?_
          rintro e w9 ⟨x3, ⟨rfl, hx3⟩, hw9⟩
          have hw9' := hw9.symm
          clear hw9
          subst hw9'
          obtain ⟨kk, hkk⟩ : ∃ kk : Nat, ((x2 : Int) * 256 + (x3 : Int)) % (8 * (m : Int)) = (kk : Int) := ⟨(x2 * 256 + x3) % (8 * m), by push_cast; rfl⟩
          have hkm : kk < 8 * m := by have := Int.emod_lt_of_pos ((x2 : Int) * 256 + (x3 : Int)) (b := 8 * (m : Int)) (by omega); omega
          obtain ⟨j, hj⟩ : ∃ j, j = kk / 8 := ⟨_, rfl⟩
          obtain ⟨r, hr⟩ : ∃ r, r = kk % 8 := ⟨_, rfl⟩
          have hjm : j < m := by omega
          have hr8 : r < 8 := by omega
          have hjq : (kk : Int) / 8 = (j : Int) := by omega
          have hrq : (kk : Int) % 8 = (r : Int) := by omega
          clear hj hr
          go_wp2_with fail
          simp only [hkk]
          go_loopw [18] (fun fv wq => TgL bods j wo fv wq) (fun fv _ => m - (intOf fv).toNat)
          case atStart => exact ⟨0, 0, Nat.zero_le _, rfl, by simp [frs], Below.refl _ _, fun i' _ h => absurd h (Nat.not_lt_zero _)⟩
          case round =>
            obtain ⟨i, p0, hile, rfl, hp, hbq, hsf⟩ := hrel
            have HP := Hid.mk hp
            have HSF := Hid.mk hsf
            clear hp hsf
            by_cases hil : i < bods.length
            · have hun := HF.out.2.2.2.1 i hil
              have hle1 := frs_take_le bods (i + 1)
              have hst := HF.out.2.2.2.2.1 i hil
              have hfm := HF.out.2.2.1
              obtain ⟨p1, hp1⟩ : ∃ p1, p1 = (frs (bods.take (i + 1))).length := ⟨_, rfl⟩
              have HP1 := Hid.mk hp1
              rw [← HP.out, ← hp1] at hun hst
              rw [← hp1] at hle1
              have HS2 : ∀ pl, pl = (putNum (bods[i].length : Int)).length → (p0 + 4 ≤ j → p0 + 4 + pl ≤ j) → Hid (SafeF bods j (i + 1)) := fun pl hpl hh => Hid.mk (by
                intro i' hi' hlt' h4
                by_cases e : i' = i
                · subst e
                  rw [← HP.out] at h4 ⊢
                  rw [← hpl]
                  exact hh h4
                · exact HSF.out i' hi' (by omega) h4)
              obtain ⟨pl, hpl⟩ : ∃ pl, pl = (putNum (bods[i].length : Int)).length := ⟨_, rfl⟩
              have HS3 := Hid.mk (HS2 pl hpl)
              rw [← hpl] at hst
              clear HS2 hpl hp1
              have hU := implUnframe_any ab m cb b p0 _ HF.out.1 (by omega) hcb HF.out.2.1 (HATr.out.below hbq).2.2.1 (HATr.out.below hbq).2.2.2.1.2
              rw [hun] at hU
              obtain ⟨bl, hbl⟩ : ∃ bl, bl = bods[i].length := ⟨_, rfl⟩
              have hU2 : Calls Tryd.prog 14 #[.slice ab m cb, .int .i64 (p0 : Int)] _ (fun e w' => ∃ ax cx, e = .returned (.tuple #[.slice ax bl cx, .int .i64 (p1 : Int), .bool true]) ∧ Below _ _ w') := hU.mono (by
                rintro e w' ⟨v, rfl, ho, hb⟩
                obtain ⟨ax, cx, rfl, _, _⟩ := own_rd rfl ho
                exact ⟨ax, cx, by rw [hbl], hb⟩)
              rw [← hbl] at hst
              clear hU hun hbl
              have hpm : p1 + 4 ≤ m := by omega
              have hg1 : (p0 : Int) < (m : Int) - 4 := by omega
              have hcs : j < p0 + 4 ∨ (p0 + 4 ≤ j ∧ j < p0 + 4 + pl ∧ (j : Int) < (p1 : Int) - (bl : Int)) ∨ (p0 + 4 ≤ j ∧ p0 + 4 + pl ≤ j ∧ ¬ ((j : Int) < (p1 : Int) - (bl : Int))) := by omega
              have hpp : p0 < p1 := by omega
              have hbp : bl ≤ p1 := by omega
              clear hst hfm
              go_wp2_with fail
              refine Calls.mono hU2 ?_
              clear hU2
              rintro e w10 ⟨ax, cx, rfl, hb10⟩
              have hbq2 := bthen hbq hb10
              rcases hcs with h1 | ⟨h1, h2, d2⟩ | ⟨h1, h2, d2⟩
              · have d1 : ¬ ((p0 : Int) + 4 ≤ (j : Int)) := by omega
                have HN := HS3.out (fun h => absurd h (by omega))
                go_wp2_with fail
                go_roundw
                case rel => exact ⟨i + 1, p1, by omega, rfl, HP1.out, hbq2, HN.out⟩
                case measure => simp [intOf]; omega
              · have d1 : ((p0 : Int) + 4 ≤ (j : Int)) := by omega
                go_wp2_with fail
                go_ret
                exact ⟨rfl, bthen HB0r.out hbq2⟩
              · have d1 : ((p0 : Int) + 4 ≤ (j : Int)) := by omega
                have HN := HS3.out (fun _ => h2)
                go_wp2_with fail
                go_roundw
                case rel => exact ⟨i + 1, p1, by omega, rfl, HP1.out, hbq2, HN.out⟩
                case measure => simp [intOf]; omega
            · have hie : i = bods.length := by omega
              subst hie
              have hfm := HF.out.2.2.1
              have hpe : p0 + 4 = m := by rw [HP.out, List.take_of_length_le (Nat.le_refl _)]; exact hfm
              have hg1 : ¬ ((p0 : Int) < (m : Int) - 4) := by omega
              have HTU := Hid.mk (fun c hk hc hne => HF.out.2.2.2.2.2 j c hk hc hne (fun i' hi' => HSF.out i' hi' hi'))
              have HATq := Hid.mk (HATr.out.below hbq)
              have HB0q := Hid.mk (bthen HB0r.out hbq)
              clear hbq HSF HP hfm
              have hbB := HF.out.2.1
              have hbm := HF.out.1
              have hR27 := HATq.out.2.2.1
              have HCJ : Hid ((b.map (Value.int .u8))[j]? = some (.int .u8 (b.getD j 0))) := by
                have h : j < b.length := by rw [hbm]; exact hjm
                show _ = _
                simp [h]
              have ho8 : (wr.alloc (.cells #[] 5)).ownsRow wr.heap.size 5 1 (.slice (some ⟨wr.heap.size, 0, none⟩) 0 0) 0 [] := World.ownsRow_lit wr #[] 0 (Nat.le_refl _) (by decide) rfl
              have hb8 : Below wr.heap.size wr (wr.alloc (.cells #[] 5)) := (Below.refl _ _).alloc (Nat.le_refl _) _
              have hR8 := hR27.below hb8
              go_wp2_with (first | (at_builtin; refine wpList_append_src _ rfl _ _ 22 22 rfl wr.heap.size 5 i0 (.int .u8 0) 1 1 Tryd.underlying22 HI8.out.1 HI8.out.2.1 HI8.out.2.2.1 HI8.out.2.2.2 rfl _ _ _ rfl ho8 m (b.map (Value.int .u8)) (Src.rd Tryd.underlying22 hbm hR8) (by unfold maxLen; omega) (by omega) hb8.size ?_; intro v9 w9 hown9 hgr9; have hb9 := hb8.grown hgr9 hb8.size (fun k h => (ho8.lt k h).1); have ho9 := own_congr (n' := m) (ys := b.map (Value.int .u8)) hown9 (by omega) (by simp); clear hown9 hgr9; obtain ⟨g9, cap9, rfl⟩ : ∃ g c, v9 = .slice (some ⟨g, 0, none⟩) m c := (by rcases ho9.2 with ⟨_, h0⟩ | ⟨g, cap, cur, rfl, _⟩; (exact absurd h0 (by omega)); exact ⟨g, cap, rfl⟩); have hcj : w9.cell? ⟨g9, j, none⟩ = some (.int .u8 (b.getD j 0)) := (ho9.cellAt j (by omega)).trans (HCJ.out); have hfj := ho9.frozenAt j))
              have hjb : j < b.length := by rw [hbm]; exact hjm
              have hgd : b.getD j 0 = b[j] := by simp [hjb]
              have hbj := hbB b[j] (List.getElem_mem hjb)
              obtain ⟨c, hcd, hcb2, hcn⟩ := turn_bit (z := b[j]) (r := r) hbj.1 hbj.2 hr8
              rw [hcd]
              have hst := ho9.stored j (.int .u8 c)
              obtain ⟨w10, hw10⟩ : ∃ x, x = w9.setCell ⟨g9, j, none⟩ (.int .u8 c) := ⟨_, rfl⟩
              rw [← hw10] at hst ⊢
              have ho10 := own_congr (n' := m) (ys := (b.set j c).map (Value.int .u8)) hst.1 rfl (by simp [List.map_set])
              have hb10 : Below wr.heap.size wr w10 := hb9.grown hst.2 hb9.size (fun k e => by cases e; exact (ho9.lt g9 rfl).1)
              have hR10 := Rd.own (by simp [hbm]) ho10
              have hc10 : m ≤ cap9 ∧ cap9 ≤ 9223372036854775807 := by rcases ho10.2 with ⟨_, h0⟩ | ⟨g, cp, cur, he, _, _, hh, hh2, _⟩; (exact absurd h0 (by omega)); (cases he; exact ⟨hh, by simpa [maxLen] using hh2⟩)
              have hA10 := HATq.out.below hb10
              have HBAD : Hid (j < m - 4 → (tpS (b.set j c)).2 = false) := fun h => HTU.out c h hcb2 (by rw [hgd]; exact hcn)
              have hI := implTab_any (some ⟨g9, 0, none⟩) m cap9 (b.set j c) pe w10 (by rw [List.length_set]; exact hbm) hm2 hc10.1 hc10.2 (hbB.put j hcb2) hR10 hA10.2.2.2.1 hA10.2.2.2.2.1
              generalize tpS (b.set j c) = R at *
              clear hst hw10 ho9 hcj hfj hb9 hcd hcn ho10 hA10 hR10 hR8 ho8 hb8 hbj hgd
              refine Calls.mono hI ?_
              clear hI
              rintro e w11 ⟨v11, F11, rfl, ho11, _, _, hb11⟩
              clear ho11
              have HEND := Hid.mk (bthen HB0q.out (bthen hb10 hb11))
              obtain ⟨l2, bad⟩ := R
              by_cases hj4 : j < m - 4
              · have hbad : bad = false := HBAD.out hj4
                subst hbad
                go_wp2_with fail
                go_ret
                exact ⟨rfl, HEND.out⟩
              · have d4 : (m : Int) - 4 ≤ (j : Int) := by omega
                cases bad with
                | false =>
                  go_wp2_with fail
                  go_ret
                  exact ⟨rfl, HEND.out⟩
                | true =>
                  go_wp2_with fail
                  go_ret
                  exact ⟨rfl, HEND.out⟩

/-- The tables of utf8, that of the sum, and two errors that are not the same are as laid. -/
def Tabs4 (w : World) : Prop := Tabs2 w ∧ ∃ pe q, ErrAt w pe ∧ Err2 w q ∧ q ≠ pe ∧ ErrB w pe ∧ ErrB w q
theorem law_FnTables (cs0 : Value) (m0 : List Int) (w : World) (hr0 : rdB w.heap.size w cs0 m0) (hT : Tabs4 w) :
    Calls Tryd.prog 3 #[cs0] w fun e w' => e = .returned (.bool true) ∧ Below w.heap.size w w' := by
  obtain ⟨a, c, rfl, h⟩ := hr0
  obtain ⟨h2, pe, q, h3, h4, h5, h6, h7⟩ := hT
  exact law_FnTables_r a m0.length c m0 pe q w rfl h.2.2.2 h.2.2.1 h2 h3 h4 h5 h6 h7

end Go.Proofs.YtmedljankefhbaaDoor
