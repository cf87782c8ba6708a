/-
  Part 19 of the texts that the proof leans on.
-/
import Derived.Test.YtegonncmopecnaaGreatDoorMnd0
import Derived.Test.YtegonncmopecnaaGreatDoorMnd4
import Derived.Test.YtegonncmopecnaaGreatDoorMnd17
set_option linter.unusedVariables false
set_option linter.unusedSimpArgs false
set_option maxRecDepth 10000

namespace Go.Proofs.YtegonncmopecnaaGreatDoor
open Go.RowKit
abbrev q13c_16_6_0 : Oper := ⟨some 19, .fieldAddr 27 (.tmp 5) 1, 0, "l02_files.go:285", #[], none⟩
abbrev q13c_16_6_2 : Oper := ⟨some 21, .move (.tmp 0), 41, "l02_files.go:285", #[], none⟩
abbrev q13c_16_6_4 : Oper := ⟨some 23, .move (.tmp 0), 41, "l02_files.go:285", #[], none⟩
abbrev q13c_16_6_3 : Oper := ⟨some 22, .call { callee := .value (.func 43), args := #[.tmp 21], argTypes := #[41] }, 9, "l02_files.go:285", #[⟨2, .data⟩], none⟩
abbrev q13c_16_6_1 : Oper := ⟨some 20, .load 25 (.tmp 19), 25, "l02_files.go:285", #[⟨0, .data⟩], none⟩
abbrev q13c_16_6_5 : Oper := ⟨some 24, .call { callee := .value (.func 35), args := #[.tmp 23, .const (.int .i64 4)], argTypes := #[41, 3] }, 3, "l02_files.go:285", #[⟨4, .data⟩, ⟨3, .chain⟩], none⟩
abbrev q13c_16_6_6 : Oper := ⟨some 25, .build 74 #[(0, .tmp 22), (1, .tmp 24)], 74, "l02_files.go:285", #[⟨3, .data⟩, ⟨5, .data⟩], none⟩
abbrev q13c_16_6_7 : Oper := ⟨some 26, .buildSlice 25 1 #[(0, .tmp 25)], 25, "l02_files.go:285", #[⟨6, .data⟩], none⟩
abbrev q13c_16_6_8 : Oper := ⟨some 27, .call { callee := .builtin .append, args := #[.tmp 20, .tmp 26], argTypes := #[25, 25] }, 25, "l02_files.go:285", #[⟨1, .data⟩, ⟨7, .data⟩, ⟨5, .chain⟩], none⟩
abbrev q13c_16_6_9 : Oper := ⟨some 28, .fieldAddr 27 (.tmp 5) 1, 0, "l02_files.go:285", #[⟨0, .phase⟩, ⟨1, .phase⟩, ⟨2, .phase⟩, ⟨3, .phase⟩, ⟨4, .phase⟩, ⟨5, .phase⟩, ⟨6, .phase⟩, ⟨7, .phase⟩, ⟨8, .phase⟩], none⟩
abbrev q13c_16_6_10 : Oper := ⟨none, .store 25 (.tmp 28) (.tmp 27), 0, "l02_files.go:285", #[⟨9, .data⟩, ⟨8, .data⟩, ⟨8, .chain⟩, ⟨0, .phase⟩, ⟨1, .phase⟩, ⟨2, .phase⟩, ⟨3, .phase⟩, ⟨4, .phase⟩, ⟨5, .phase⟩, ⟨6, .phase⟩, ⟨7, .phase⟩, ⟨8, .phase⟩], none⟩
abbrev q13c_16_11_0 : Oper := ⟨some 38, .fieldAddr 27 (.tmp 5) 0, 0, "l02_files.go:290", #[], none⟩
abbrev q13c_16_11_2 : Oper := ⟨some 40, .move (.tmp 0), 41, "l02_files.go:290", #[], none⟩
abbrev q13c_16_11_3 : Oper := ⟨some 41, .buildSlice 72 3 #[(0, .const (.int .i64 (-1))), (1, .const (.int .i64 0)), (2, .const (.int .i64 100))], 72, "l02_files.go:290", #[], none⟩
abbrev q13c_16_11_1 : Oper := ⟨some 39, .load 24 (.tmp 38), 24, "l02_files.go:290", #[⟨0, .data⟩], none⟩
abbrev q13c_16_11_4 : Oper := ⟨some 42, .call { callee := .value (.func 42), args := #[.tmp 40, .tmp 41], argTypes := #[41, 72] }, 3, "l02_files.go:290", #[⟨2, .data⟩, ⟨3, .data⟩], none⟩
abbrev q13c_16_11_5 : Oper := ⟨some 43, .indexAddr 24 (.tmp 39) (.const (.int .i64 0)), 0, "l02_files.go:290", #[⟨1, .data⟩, ⟨0, .phase⟩, ⟨1, .phase⟩, ⟨2, .phase⟩, ⟨3, .phase⟩, ⟨4, .phase⟩], none⟩
abbrev q13c_16_11_6 : Oper := ⟨some 44, .fieldAddr 50 (.tmp 43) 2, 0, "l02_files.go:290", #[⟨5, .data⟩, ⟨0, .phase⟩, ⟨1, .phase⟩, ⟨2, .phase⟩, ⟨3, .phase⟩, ⟨4, .phase⟩], none⟩
abbrev q13c_16_11_7 : Oper := ⟨none, .store 3 (.tmp 44) (.tmp 42), 0, "l02_files.go:290", #[⟨6, .data⟩, ⟨4, .data⟩, ⟨4, .chain⟩, ⟨0, .phase⟩, ⟨1, .phase⟩, ⟨2, .phase⟩, ⟨3, .phase⟩, ⟨4, .phase⟩], none⟩
def DiskDrawn (w : World) (g : Nat) (e : Ending) (w' : World) : Prop :=
 ∃ (cs : List Value) (m : MDisk), e = .returned (.agg cs.toArray) /\ rDisk w'.heap.size w' cs m /\ wDisk m <= 1048576 /\ CurOk w' g /\ Turn [g] w w'
theorem DSt.below {w : World} {g br bd : Nat} {W W' : World} {cs : List Value} {m : MDisk} (h : DSt w g br bd W cs m) (hx : Below W.heap.size W W') : DSt w g br bd W' cs m := by
 refine ⟨h.d.under hx, h.r.under hx, ?_, h.f, h.c.below hx, h.t.trans (Turn.ofBelow hx)⟩
 obtain ⟨F, ho, hF⟩ := h.o
 exact ⟨F, oDisk_good.frame ho (fun b hb => hx.block b (oDisk_good.lt ho b hb)), hF⟩
theorem ints4 (j : Nat) (h : j < 4) : (Lit.int .i64 (([0, 1, 1000000, 1000001] : List Int).getD j 0)).wf = true := by
 match j, h with
 | 0, _ => rfl
 | 1, _ => rfl
 | 2, _ => rfl
 | 3, _ => rfl
theorem ints3 (j : Nat) (h : j < 3) : (Lit.int .i64 (([-1, 0, 100] : List Int).getD j 0)).wf = true := by
 match j, h with
 | 0, _ => rfl
 | 1, _ => rfl
 | 2, _ => rfl
theorem Src.entry {P : Program} {w : World} {g tx e' : Nat} {s : ByteArray} {x : Int} (hk : P.underlying tx = some (.slice e')) (hb : Bx w g [.string s, .int .i64 x]) : Src P 2 tx (.slice (some ⟨g, 0, none⟩) 1 1) 1 [.string s, .int .i64 x] w :=
 Src.ofSlice w hk ⟨g, 0, none⟩ 1 1 _ rfl (bx_news hb) (by intro u hu; simp at hu; rcases hu with rfl | rfl <;> rfl)
set_option maxHeartbeats 8000000 in
theorem l2DrawAny_ok {g : Nat} {w : World} (q : Int) (hc : CurOk w g) (hq : q <= 100) :
  Calls Tryz.prog 16 #[.pointer (some ⟨g, 0, none⟩), .int .i64 q] w fun e w' => DiskDrawn w g e w' := by
 obtain ⟨iT, hiT, hz0, hz1, hz2⟩ := info_parts Tryz.infoOfEntry
 have hgl := hc.lt
 have HC := Hm hc
 clear hc
 go_enter Tryz.func16, Tryz.ntmps16
 go_wp2_with fail
 obtain ⟨wq, hwq⟩ : ∃ wq, wq = w.alloc (.cells #[.slice none 0 0, .slice none 0 0, .slice none 0 0, .int .i64 0] 27) := ⟨_, rfl⟩
 have hbq : Below w.heap.size w wq := by rw [hwq]; exact rB.alloc rN _
 have hqs : w.heap.size < wq.heap.size := by rw [hwq]; simp
 have hbr : Bw wq w.heap.size 27 dZ := by rw [hwq]; exact Bw.new _ _ _
 rw [<- hwq]
 clear hwq
 refine (l2Draw_ok q (HC.out.below hbq) hq).mono ?_
 rintro e w1 ⟨cs1, m, rfl, ho1, hf1, hc1, ht1⟩
 obtain ⟨a0, n0, c0, a1, n1, c1, a2, n2, c2, z, hcs⟩ := odisk_four ho1
 subst hcs
 have HO1 := Hm ho1
 clear ho1
 have hbr1 := hbr.turn ht1 (by simp; omega)
 have hz1' := ht1.size
 have ht2 : Turn [g] w w1 := (Turn.ofBelow hbq).trans ht1
 go_wp2_with fail
 obtain ⟨w2, hw2⟩ : ∃ x, x = w1.alloc (.cells #[.slice a0 n0 c0, .slice a1 n1 c1, .slice a2 n2 c2, .int .i64 z] 27) := ⟨_, rfl⟩
 have hx2 : Below w1.heap.size w1 w2 := by rw [hw2]; exact rB.alloc rN _
 have hbd : Bw w2 w1.heap.size 27 [.slice a0 n0 c0, .slice a1 n1 c1, .slice a2 n2 c2, .int .i64 z] := by rw [hw2]; exact Bw.new _ _ _
 rw [<- hw2]
 obtain ⟨bd, hbdq⟩ : ∃ x, x = w1.heap.size := ⟨_, rfl⟩
 rw [<- hbdq] at hbd ⊢
 obtain ⟨br, hbrq⟩ : ∃ x, x = w.heap.size := ⟨_, rfl⟩
 have HST : Hid (DSt w g br bd w2 [.slice a0 n0 c0, .slice a1 n1 c1, .slice a2 n2 c2, .int .i64 z] m) := by
  rw [hbrq]
  obtain ⟨F, ho, hF⟩ := HO1.out
  refine ⟨hbd, hbr1.under hx2, ⟨F, oDisk_good.frame ho (fun b hb => hx2.block b (oDisk_good.lt ho b hb)), fun b hb => ?_⟩, hf1, hc1.below hx2, ht2.trans (Turn.ofBelow hx2)⟩
  have h1 := hF b hb
  have h2 := oDisk_good.lt ho b hb
  omega
 have HPL : Hid (DPl w g br bd) := ⟨hgl, by omega, by omega, by omega⟩
 rw [<- hbrq]
 clear hw2 hx2 hbd hbdq hbrq hbr hbr1 hbq hqs hgl HC HO1 hf1 hc1 ht1 ht2 hz1' hq
 refine (l1Below_ok 12 HST.out.c).mono ?_
 rintro e w3 ⟨y, rfl, hy, hc3, hg3⟩
 have hy0 := hy.1
 have hy12 : y < 12 := hy.2.2.1 (by omega)
 replace HST := Hm (HST.out.cur HPL.out hg3 hc3)
 clear hy hc3 hg3
 have hgl := HST.out.c.lt
 by_cases y0 : y = 0
 ·subst y0
  have hba : Below w3.heap.size w3 (w3.alloc (.cells (([0, 1, 1000000, 1000001] : List Int).map (Value.int .i64)).toArray 3)) := rB.alloc rN _
  have HSA := Hm (HST.out.below hba)
  have hrd := rd_lit .i64 w3 [0, 1, 1000000, 1000001] 3
  have HCA := Hm (l1Int_ok _ 4 4 [0, 1, 1000000, 1000001] HSA.out.c rfl (by omega) (by omega) _ hrd (by intro b o h; simp at h; omega))
  clear hrd hba HST
  go_wp2_with fail
  refine HCA.out.mono ?_
  rintro e w4 ⟨k, ⟨hk, rfl⟩, hc4, hg4⟩
  have hwf := ints4 k hk
  generalize ([0, 1, 1000000, 1000001] : List Int).getD k 0 = jv at *
  have HS4 := Hm (HSA.out.cur HPL.out hg4 hc4)
  clear HCA HSA hc4 hg4 hk
  have hbo := HS4.out.d
  have o3 := hbo.cell 3 _ rfl
  have f3 := hbo.free 3
  have lo := hbo.lt
  obtain ⟨WW, hWW⟩ : ∃ x, x = w4.setCell ⟨bd, 3, none⟩ (.int .i64 jv) := ⟨_, rfl⟩
  have HE : Hid (ESt w g br bd WW [.slice a0 n0 c0, .slice a1 n1 c1, .slice a2 n2 c2, .int .i64 jv] { m with fNext := jv }) := by
   unfold Hid
   rw [hWW]
   exact ESt.put HPL.out hbo HS4.out.r (HS4.out.next hwf).1 (HS4.out.next hwf).2 HS4.out.c HS4.out.t rfl
  clear hbo HS4
  have hbe := HE.out.d
  have hre := HE.out.r
  obtain ⟨p0, p1, p2, p3⟩ := hbe.c4
  obtain ⟨q0, q1, q2, q3⟩ := hre.c4
  obtain ⟨e0, e1, e2, e3⟩ := hre.f4
  have le := hre.lt
  have HP := Hm (fun W (hT : Turn [br] WW W) (hz : W.heap.size = WW.heap.size) => HE.out.leave HPL.out hT hz)
  clear hbe hre HE
  rw [hWW] at p0 p1 p2 p3 q0 q1 q2 q3 e0 e1 e2 e3 le HP
  clear hWW
  go_wp2_with fail
  refine bodyPost_ret (v := .agg #[.slice a0 n0 c0, .slice a1 n1 c1, .slice a2 n2 c2, .int .i64 jv]) (by simp [results, Tryz.results16, go_sem, *]) rfl (show DiskDrawn w g _ _ from ⟨[.slice a0 n0 c0, .slice a1 n1 c1, .slice a2 n2 c2, .int .i64 jv], _, rfl, HP.out _ (turn4 _ _ _ _ _ _) (by simp)⟩)
 by_cases y1 : y = 1
 ·subst y1
  clear y0 hy0 hy12
  go_wp2_with fail
  refine wp_region_held_drew (S := fun W => True) (by kernel_rfl) (trivial) (fun hZ => ?_)
  obtain ⟨wS, hwS⟩ : ∃ wS, wS = w3.drew := ⟨_, rfl⟩
  have HDS : Hid (DSt w g br bd wS [.slice a0 n0 c0, .slice a1 n1 c1, .slice a2 n2 c2, .int .i64 z] m) := by unfold Hid; rw [hwS]; exact HST.out.drew
  rw [<- hwS]
  clear hwS HST hgl
  refine uq 0 q13c_16_6_0 19 hZ ?_
  refine uq 2 q13c_16_6_2 21 hZ ?_
  refine uq 4 q13c_16_6_4 23 hZ ?_
  refine arR [1, 3] ?_
  refine (AllReadyH.cons (o := q13c_16_6_1) rfl (fun K hK => ?_) (AllReadyH.cons (o := q13c_16_6_3) rfl (fun K hK => ?_) AllReadyH.nil))
  ·go_simp
   have hD : DSt w g br bd wS [.slice a0 n0 c0, .slice a1 n1 c1, .slice a2 n2 c2, .int .i64 z] m := by first | exact HD7.out | exact HD5.out | exact HD3.out | exact HDS.out
   have p1 := hD.d.cell 1 _ rfl
   go_simp
   obtain ⟨wE1, hqL⟩ : ∃ x, x = wS := ⟨_, rfl⟩
   have HD1 : Hid (DSt w g br bd wE1 [.slice a0 n0 c0, .slice a1 n1 c1, .slice a2 n2 c2, .int .i64 z] m) := by unfold Hid; rw [hqL]; exact hD
   have hop1 : True := trivial
   (try rw [<- hqL] at HB7)
   rw [<- hqL]
   clear hqL p1 hD
   refine hK.out _ _ (trivial) (fun hZ => ?_)
   clear hK K
   try simp only[Act.put,sa,s0,s1]
   refine ar1 3 q13c_16_6_3 fun K hK => ?_
   ·go_simp
    have hD : DSt w g br bd wE1 [.slice a0 n0 c0, .slice a1 n1 c1, .slice a2 n2 c2, .int .i64 z] m := by first | exact HD1.out | exact HDS.out
    refine (l2NameAny_ok hD.c).mono ?_
    rintro e wE3 ⟨s, ⟨rfl, hs20⟩, hcx, hgx⟩
    have HD3 := Hm (hD.cur HPL.out hgx hcx)
    clear hD hgx hcx
    go_wp2_with fail
    refine hK.out _ _ (trivial) (fun hZ => ?_)
    clear hK K
    try simp only[Act.put,sa,s0,s1]
    refine ar1 5 q13c_16_6_5 fun K hK => ?_
    ·go_simp
     have hD : DSt w g br bd wE3 [.slice a0 n0 c0, .slice a1 n1 c1, .slice a2 n2 c2, .int .i64 z] m := by first | exact HD3.out | exact HD1.out
     refine (l1Below_ok 4 hD.c).mono ?_
     rintro e wE5 ⟨xv, rfl, hxv, hcx, hgx⟩
     have hxw : (Lit.int .i64 xv).wf = true := WalkArith.wf_i64 (by omega)
     have HD5 := Hm (hD.cur HPL.out hgx hcx)
     clear hD hgx hcx hxv
     go_wp2_with fail
     refine hK.out _ _ (trivial) (fun hZ => ?_)
     clear hK K
     try simp only[Act.put,sa,s0,s1]
     refine uq 6 q13c_16_6_6 25 hZ ?_
     refine ar1 7 q13c_16_6_7 fun K hK => ?_
     ·go_simp
      have hD : DSt w g br bd wE5 [.slice a0 n0 c0, .slice a1 n1 c1, .slice a2 n2 c2, .int .i64 z] m := by first | exact HD5.out | exact HD1.out
      obtain ⟨wE7, hq7⟩ : ∃ x, x = wE5.alloc (.cells (List.toArray [.string s, .int .i64 xv]) 74) := ⟨_, rfl⟩
      have hx7 : Below wE5.heap.size wE5 wE7 := by rw [hq7]; exact rB.alloc rN _
      have HD7 := Hm (hD.below hx7)
      have HB7 : Hid (Bx wE7 wE5.heap.size [.string s, .int .i64 xv]) := by unfold Hid; rw [hq7]; exact Bx.new _ _ _
      obtain ⟨g7, HG7⟩ : ∃ x, Hid (x = wE5.heap.size) := ⟨_, Hm rfl⟩
      rw [<- HG7.out] at HB7 ⊢
      rw [<- hq7]
      clear hq7 hx7 hD
      refine hK.out _ _ (trivial) (fun hZ => ?_)
      clear hK K
      try simp only[Act.put,sa,s0,s1]
      refine ar1 8 q13c_16_6_8 fun K hK => ?_
      ·skip
       have hD : DSt w g br bd wE7 [.slice a0 n0 c0, .slice a1 n1 c1, .slice a2 n2 c2, .int .i64 z] m := by first | exact HD7.out | exact HD1.out
       obtain ⟨hn1, xs, hxs, hpush⟩ := hD.push HPL.out
       have HPU := Hm hpush
       clear hpush
       refine step_append_two _ rfl _ _ 25 25 rfl 0 74 iT (.agg #[.string ByteArray.empty, .int .i64 0]) 2 24 Tryz.underlying25 hiT hz0 hz1 hz2 rfl (.slice a1 n1 c1) n1 xs rfl hxs (.slice (some ⟨g7, 0, none⟩) 1 1) rfl 1 [.string s, .int .i64 xv] (Src.entry Tryz.underlying25 HB7.out) (by omega) (by unfold maxLen; omega) (by omega) (Nat.zero_le _) ?_
       intro v8 wE8 ho8 hgr8 hat8 htw8
       obtain ⟨r8, q8, m8, rfl, hd8, hr8, hk8, hs8, hc8, ht8⟩ := HPU.out v8 wE8 s xv hs20 hxw ho8 hgr8 hat8 htw8
       have HD8 := Hm hd8
       have HR8 := Hm hr8
       have HK8 := Hm hk8
       have HS8 := Hm hs8
       have HC8 := Hm hc8
       have HT8 := Hm ht8
       clear ho8 hgr8 hat8 htw8 hxs hD hd8 hr8 hk8 hs8 hc8 ht8
       refine hK.out _ _ (trivial) (fun hZ => ?_)
       clear hK K
       try simp only[Act.put,sa,s0,s1]
       refine uq 9 q13c_16_6_9 28 hZ ?_
       refine ar1 10 q13c_16_6_10 fun K hK => ?_
       ·skip
        have hbo := HD8.out
        have o1 := hbo.cell 1 _ rfl
        have f1 := hbo.free 1
        have lo := hbo.lt
        go_simp
        obtain ⟨wE10, hq10⟩ : ∃ x, x = wE8.setCell ⟨bd, 1, none⟩ (.slice r8 (n1 + 1) q8) := ⟨_, rfl⟩
        have HE : Hid (ESt w g br bd wE10 [.slice a0 n0 c0, .slice r8 (n1 + 1) q8, .slice a2 n2 c2, .int .i64 z] m8) := by unfold Hid; rw [hq10]; exact ESt.put HPL.out hbo HR8.out HK8.out HS8.out HC8.out HT8.out rfl
        rw [<- hq10]
        clear hq10 hbo o1 f1 lo
        refine hK.out _ _ (trivial) (fun hZ => ?_)
        clear hK K
        try simp only[Act.put,sa,s0,s1]
        refine wpAnyH_done (by kernel_rfl) ?_ _
        have hbe := HE.out.d
        have hre := HE.out.r
        obtain ⟨p0, p1, p2, p3⟩ := hbe.c4
        obtain ⟨q0, q1, q2, q3⟩ := hre.c4
        obtain ⟨e0, e1, e2, e3⟩ := hre.f4
        have le := hre.lt
        have HP := Hm (fun W (hT : Turn [br] wE10 W) (hz : W.heap.size = wE10.heap.size) => HE.out.leave HPL.out hT hz)
        clear hbe hre HE
        go_wp2_with fail
        refine bodyPost_ret (v := .agg #[.slice a0 n0 c0, .slice r8 (n1 + 1) q8, .slice a2 n2 c2, .int .i64 z]) (by simp [results, Tryz.results16, go_sem, *]) rfl (show DiskDrawn w g _ _ from ⟨[.slice a0 n0 c0, .slice r8 (n1 + 1) q8, .slice a2 n2 c2, .int .i64 z], _, rfl, HP.out _ (turn4 _ _ _ _ _ _) (by simp)⟩)
  ·go_simp
   have hD : DSt w g br bd wS [.slice a0 n0 c0, .slice a1 n1 c1, .slice a2 n2 c2, .int .i64 z] m := by first | exact HD1.out | exact HDS.out
   refine (l2NameAny_ok hD.c).mono ?_
   rintro e wE3 ⟨s, ⟨rfl, hs20⟩, hcx, hgx⟩
   have HD3 := Hm (hD.cur HPL.out hgx hcx)
   clear hD hgx hcx
   go_wp2_with fail
   refine hK.out _ _ (trivial) (fun hZ => ?_)
   clear hK K
   try simp only[Act.put,sa,s0,s1]
   refine arR [1, 5] ?_
   refine (AllReadyH.cons (o := q13c_16_6_1) rfl (fun K hK => ?_) (AllReadyH.cons (o := q13c_16_6_5) rfl (fun K hK => ?_) AllReadyH.nil))
   ·go_simp
    have hD : DSt w g br bd wE3 [.slice a0 n0 c0, .slice a1 n1 c1, .slice a2 n2 c2, .int .i64 z] m := by first | exact HD7.out | exact HD5.out | exact HD3.out | exact HDS.out
    have p1 := hD.d.cell 1 _ rfl
    go_simp
    obtain ⟨wE1, hqL⟩ : ∃ x, x = wE3 := ⟨_, rfl⟩
    have HD1 : Hid (DSt w g br bd wE1 [.slice a0 n0 c0, .slice a1 n1 c1, .slice a2 n2 c2, .int .i64 z] m) := by unfold Hid; rw [hqL]; exact hD
    have hop1 : True := trivial
    (try rw [<- hqL] at HB7)
    rw [<- hqL]
    clear hqL p1 hD
    refine hK.out _ _ (trivial) (fun hZ => ?_)
    clear hK K
    try simp only[Act.put,sa,s0,s1]
    refine ar1 5 q13c_16_6_5 fun K hK => ?_
    ·go_simp
     have hD : DSt w g br bd wE1 [.slice a0 n0 c0, .slice a1 n1 c1, .slice a2 n2 c2, .int .i64 z] m := by first | exact HD3.out | exact HD1.out
     refine (l1Below_ok 4 hD.c).mono ?_
     rintro e wE5 ⟨xv, rfl, hxv, hcx, hgx⟩
     have hxw : (Lit.int .i64 xv).wf = true := WalkArith.wf_i64 (by omega)
     have HD5 := Hm (hD.cur HPL.out hgx hcx)
     clear hD hgx hcx hxv
     go_wp2_with fail
     refine hK.out _ _ (trivial) (fun hZ => ?_)
     clear hK K
     try simp only[Act.put,sa,s0,s1]
     refine uq 6 q13c_16_6_6 25 hZ ?_
     refine ar1 7 q13c_16_6_7 fun K hK => ?_
     ·go_simp
      have hD : DSt w g br bd wE5 [.slice a0 n0 c0, .slice a1 n1 c1, .slice a2 n2 c2, .int .i64 z] m := by first | exact HD5.out | exact HD1.out
      obtain ⟨wE7, hq7⟩ : ∃ x, x = wE5.alloc (.cells (List.toArray [.string s, .int .i64 xv]) 74) := ⟨_, rfl⟩
      have hx7 : Below wE5.heap.size wE5 wE7 := by rw [hq7]; exact rB.alloc rN _
      have HD7 := Hm (hD.below hx7)
      have HB7 : Hid (Bx wE7 wE5.heap.size [.string s, .int .i64 xv]) := by unfold Hid; rw [hq7]; exact Bx.new _ _ _
      obtain ⟨g7, HG7⟩ : ∃ x, Hid (x = wE5.heap.size) := ⟨_, Hm rfl⟩
      rw [<- HG7.out] at HB7 ⊢
      rw [<- hq7]
      clear hq7 hx7 hD
      refine hK.out _ _ (trivial) (fun hZ => ?_)
      clear hK K
      try simp only[Act.put,sa,s0,s1]
      refine ar1 8 q13c_16_6_8 fun K hK => ?_
      ·skip
       have hD : DSt w g br bd wE7 [.slice a0 n0 c0, .slice a1 n1 c1, .slice a2 n2 c2, .int .i64 z] m := by first | exact HD7.out | exact HD1.out
       obtain ⟨hn1, xs, hxs, hpush⟩ := hD.push HPL.out
       have HPU := Hm hpush
       clear hpush
       refine step_append_two _ rfl _ _ 25 25 rfl 0 74 iT (.agg #[.string ByteArray.empty, .int .i64 0]) 2 24 Tryz.underlying25 hiT hz0 hz1 hz2 rfl (.slice a1 n1 c1) n1 xs rfl hxs (.slice (some ⟨g7, 0, none⟩) 1 1) rfl 1 [.string s, .int .i64 xv] (Src.entry Tryz.underlying25 HB7.out) (by omega) (by unfold maxLen; omega) (by omega) (Nat.zero_le _) ?_
       intro v8 wE8 ho8 hgr8 hat8 htw8
       obtain ⟨r8, q8, m8, rfl, hd8, hr8, hk8, hs8, hc8, ht8⟩ := HPU.out v8 wE8 s xv hs20 hxw ho8 hgr8 hat8 htw8
       have HD8 := Hm hd8
       have HR8 := Hm hr8
       have HK8 := Hm hk8
       have HS8 := Hm hs8
       have HC8 := Hm hc8
       have HT8 := Hm ht8
       clear ho8 hgr8 hat8 htw8 hxs hD hd8 hr8 hk8 hs8 hc8 ht8
       refine hK.out _ _ (trivial) (fun hZ => ?_)
       clear hK K
       try simp only[Act.put,sa,s0,s1]
       refine uq 9 q13c_16_6_9 28 hZ ?_
       refine ar1 10 q13c_16_6_10 fun K hK => ?_
       ·skip
        have hbo := HD8.out
        have o1 := hbo.cell 1 _ rfl
        have f1 := hbo.free 1
        have lo := hbo.lt
        go_simp
        obtain ⟨wE10, hq10⟩ : ∃ x, x = wE8.setCell ⟨bd, 1, none⟩ (.slice r8 (n1 + 1) q8) := ⟨_, rfl⟩
        have HE : Hid (ESt w g br bd wE10 [.slice a0 n0 c0, .slice r8 (n1 + 1) q8, .slice a2 n2 c2, .int .i64 z] m8) := by unfold Hid; rw [hq10]; exact ESt.put HPL.out hbo HR8.out HK8.out HS8.out HC8.out HT8.out rfl
        rw [<- hq10]
        clear hq10 hbo o1 f1 lo
        refine hK.out _ _ (trivial) (fun hZ => ?_)
        clear hK K
        try simp only[Act.put,sa,s0,s1]
        refine wpAnyH_done (by kernel_rfl) ?_ _
        have hbe := HE.out.d
        have hre := HE.out.r
        obtain ⟨p0, p1, p2, p3⟩ := hbe.c4
        obtain ⟨q0, q1, q2, q3⟩ := hre.c4
        obtain ⟨e0, e1, e2, e3⟩ := hre.f4
        have le := hre.lt
        have HP := Hm (fun W (hT : Turn [br] wE10 W) (hz : W.heap.size = wE10.heap.size) => HE.out.leave HPL.out hT hz)
        clear hbe hre HE
        go_wp2_with fail
        refine bodyPost_ret (v := .agg #[.slice a0 n0 c0, .slice r8 (n1 + 1) q8, .slice a2 n2 c2, .int .i64 z]) (by simp [results, Tryz.results16, go_sem, *]) rfl (show DiskDrawn w g _ _ from ⟨[.slice a0 n0 c0, .slice r8 (n1 + 1) q8, .slice a2 n2 c2, .int .i64 z], _, rfl, HP.out _ (turn4 _ _ _ _ _ _) (by simp)⟩)
   ·go_simp
    have hD : DSt w g br bd wE3 [.slice a0 n0 c0, .slice a1 n1 c1, .slice a2 n2 c2, .int .i64 z] m := by first | exact HD3.out | exact HD1.out
    refine (l1Below_ok 4 hD.c).mono ?_
    rintro e wE5 ⟨xv, rfl, hxv, hcx, hgx⟩
    have hxw : (Lit.int .i64 xv).wf = true := WalkArith.wf_i64 (by omega)
    have HD5 := Hm (hD.cur HPL.out hgx hcx)
    clear hD hgx hcx hxv
    go_wp2_with fail
    refine hK.out _ _ (trivial) (fun hZ => ?_)
    clear hK K
    try simp only[Act.put,sa,s0,s1]
    refine uq 6 q13c_16_6_6 25 hZ ?_
    refine arR [1, 7] ?_
    refine (AllReadyH.cons (o := q13c_16_6_1) rfl (fun K hK => ?_) (AllReadyH.cons (o := q13c_16_6_7) rfl (fun K hK => ?_) AllReadyH.nil))
    ·go_simp
     have hD : DSt w g br bd wE5 [.slice a0 n0 c0, .slice a1 n1 c1, .slice a2 n2 c2, .int .i64 z] m := by first | exact HD7.out | exact HD5.out | exact HD3.out | exact HDS.out
     have p1 := hD.d.cell 1 _ rfl
     go_simp
     obtain ⟨wE1, hqL⟩ : ∃ x, x = wE5 := ⟨_, rfl⟩
     have HD1 : Hid (DSt w g br bd wE1 [.slice a0 n0 c0, .slice a1 n1 c1, .slice a2 n2 c2, .int .i64 z] m) := by unfold Hid; rw [hqL]; exact hD
     have hop1 : True := trivial
     (try rw [<- hqL] at HB7)
     rw [<- hqL]
     clear hqL p1 hD
     refine hK.out _ _ (trivial) (fun hZ => ?_)
     clear hK K
     try simp only[Act.put,sa,s0,s1]
     refine ar1 7 q13c_16_6_7 fun K hK => ?_
     ·go_simp
      have hD : DSt w g br bd wE1 [.slice a0 n0 c0, .slice a1 n1 c1, .slice a2 n2 c2, .int .i64 z] m := by first | exact HD5.out | exact HD1.out
      obtain ⟨wE7, hq7⟩ : ∃ x, x = wE1.alloc (.cells (List.toArray [.string s, .int .i64 xv]) 74) := ⟨_, rfl⟩
      have hx7 : Below wE1.heap.size wE1 wE7 := by rw [hq7]; exact rB.alloc rN _
      have HD7 := Hm (hD.below hx7)
      have HB7 : Hid (Bx wE7 wE1.heap.size [.string s, .int .i64 xv]) := by unfold Hid; rw [hq7]; exact Bx.new _ _ _
      obtain ⟨g7, HG7⟩ : ∃ x, Hid (x = wE1.heap.size) := ⟨_, Hm rfl⟩
      rw [<- HG7.out] at HB7 ⊢
      rw [<- hq7]
      clear hq7 hx7 hD
      refine hK.out _ _ (trivial) (fun hZ => ?_)
      clear hK K
      try simp only[Act.put,sa,s0,s1]
      refine ar1 8 q13c_16_6_8 fun K hK => ?_
      ·skip
       have hD : DSt w g br bd wE7 [.slice a0 n0 c0, .slice a1 n1 c1, .slice a2 n2 c2, .int .i64 z] m := by first | exact HD7.out | exact HD1.out
       obtain ⟨hn1, xs, hxs, hpush⟩ := hD.push HPL.out
       have HPU := Hm hpush
       clear hpush
       refine step_append_two _ rfl _ _ 25 25 rfl 0 74 iT (.agg #[.string ByteArray.empty, .int .i64 0]) 2 24 Tryz.underlying25 hiT hz0 hz1 hz2 rfl (.slice a1 n1 c1) n1 xs rfl hxs (.slice (some ⟨g7, 0, none⟩) 1 1) rfl 1 [.string s, .int .i64 xv] (Src.entry Tryz.underlying25 HB7.out) (by omega) (by unfold maxLen; omega) (by omega) (Nat.zero_le _) ?_
       intro v8 wE8 ho8 hgr8 hat8 htw8
       obtain ⟨r8, q8, m8, rfl, hd8, hr8, hk8, hs8, hc8, ht8⟩ := HPU.out v8 wE8 s xv hs20 hxw ho8 hgr8 hat8 htw8
       have HD8 := Hm hd8
       have HR8 := Hm hr8
       have HK8 := Hm hk8
       have HS8 := Hm hs8
       have HC8 := Hm hc8
       have HT8 := Hm ht8
       clear ho8 hgr8 hat8 htw8 hxs hD hd8 hr8 hk8 hs8 hc8 ht8
       refine hK.out _ _ (trivial) (fun hZ => ?_)
       clear hK K
       try simp only[Act.put,sa,s0,s1]
       refine uq 9 q13c_16_6_9 28 hZ ?_
       refine ar1 10 q13c_16_6_10 fun K hK => ?_
       ·skip
        have hbo := HD8.out
        have o1 := hbo.cell 1 _ rfl
        have f1 := hbo.free 1
        have lo := hbo.lt
        go_simp
        obtain ⟨wE10, hq10⟩ : ∃ x, x = wE8.setCell ⟨bd, 1, none⟩ (.slice r8 (n1 + 1) q8) := ⟨_, rfl⟩
        have HE : Hid (ESt w g br bd wE10 [.slice a0 n0 c0, .slice r8 (n1 + 1) q8, .slice a2 n2 c2, .int .i64 z] m8) := by unfold Hid; rw [hq10]; exact ESt.put HPL.out hbo HR8.out HK8.out HS8.out HC8.out HT8.out rfl
        rw [<- hq10]
        clear hq10 hbo o1 f1 lo
        refine hK.out _ _ (trivial) (fun hZ => ?_)
        clear hK K
        try simp only[Act.put,sa,s0,s1]
        refine wpAnyH_done (by kernel_rfl) ?_ _
        have hbe := HE.out.d
        have hre := HE.out.r
        obtain ⟨p0, p1, p2, p3⟩ := hbe.c4
        obtain ⟨q0, q1, q2, q3⟩ := hre.c4
        obtain ⟨e0, e1, e2, e3⟩ := hre.f4
        have le := hre.lt
        have HP := Hm (fun W (hT : Turn [br] wE10 W) (hz : W.heap.size = wE10.heap.size) => HE.out.leave HPL.out hT hz)
        clear hbe hre HE
        go_wp2_with fail
        refine bodyPost_ret (v := .agg #[.slice a0 n0 c0, .slice r8 (n1 + 1) q8, .slice a2 n2 c2, .int .i64 z]) (by simp [results, Tryz.results16, go_sem, *]) rfl (show DiskDrawn w g _ _ from ⟨[.slice a0 n0 c0, .slice r8 (n1 + 1) q8, .slice a2 n2 c2, .int .i64 z], _, rfl, HP.out _ (turn4 _ _ _ _ _ _) (by simp)⟩)
    ·go_simp
     have hD : DSt w g br bd wE5 [.slice a0 n0 c0, .slice a1 n1 c1, .slice a2 n2 c2, .int .i64 z] m := by first | exact HD5.out | exact HD1.out
     obtain ⟨wE7, hq7⟩ : ∃ x, x = wE5.alloc (.cells (List.toArray [.string s, .int .i64 xv]) 74) := ⟨_, rfl⟩
     have hx7 : Below wE5.heap.size wE5 wE7 := by rw [hq7]; exact rB.alloc rN _
     have HD7 := Hm (hD.below hx7)
     have HB7 : Hid (Bx wE7 wE5.heap.size [.string s, .int .i64 xv]) := by unfold Hid; rw [hq7]; exact Bx.new _ _ _
     obtain ⟨g7, HG7⟩ : ∃ x, Hid (x = wE5.heap.size) := ⟨_, Hm rfl⟩
     rw [<- HG7.out] at HB7 ⊢
     rw [<- hq7]
     clear hq7 hx7 hD
     refine hK.out _ _ (trivial) (fun hZ => ?_)
     clear hK K
     try simp only[Act.put,sa,s0,s1]
     refine ar1 1 q13c_16_6_1 fun K hK => ?_
     ·go_simp
      have hD : DSt w g br bd wE7 [.slice a0 n0 c0, .slice a1 n1 c1, .slice a2 n2 c2, .int .i64 z] m := by first | exact HD7.out | exact HD5.out | exact HD3.out | exact HDS.out
      have p1 := hD.d.cell 1 _ rfl
      go_simp
      obtain ⟨wE1, hqL⟩ : ∃ x, x = wE7 := ⟨_, rfl⟩
      have HD1 : Hid (DSt w g br bd wE1 [.slice a0 n0 c0, .slice a1 n1 c1, .slice a2 n2 c2, .int .i64 z] m) := by unfold Hid; rw [hqL]; exact hD
      have hop1 : True := trivial
      (try rw [<- hqL] at HB7)
      rw [<- hqL]
      clear hqL p1 hD
      refine hK.out _ _ (trivial) (fun hZ => ?_)
      clear hK K
      try simp only[Act.put,sa,s0,s1]
      refine ar1 8 q13c_16_6_8 fun K hK => ?_
      ·skip
       have hD : DSt w g br bd wE1 [.slice a0 n0 c0, .slice a1 n1 c1, .slice a2 n2 c2, .int .i64 z] m := by first | exact HD7.out | exact HD1.out
       obtain ⟨hn1, xs, hxs, hpush⟩ := hD.push HPL.out
       have HPU := Hm hpush
       clear hpush
       refine step_append_two _ rfl _ _ 25 25 rfl 0 74 iT (.agg #[.string ByteArray.empty, .int .i64 0]) 2 24 Tryz.underlying25 hiT hz0 hz1 hz2 rfl (.slice a1 n1 c1) n1 xs rfl hxs (.slice (some ⟨g7, 0, none⟩) 1 1) rfl 1 [.string s, .int .i64 xv] (Src.entry Tryz.underlying25 HB7.out) (by omega) (by unfold maxLen; omega) (by omega) (Nat.zero_le _) ?_
       intro v8 wE8 ho8 hgr8 hat8 htw8
       obtain ⟨r8, q8, m8, rfl, hd8, hr8, hk8, hs8, hc8, ht8⟩ := HPU.out v8 wE8 s xv hs20 hxw ho8 hgr8 hat8 htw8
       have HD8 := Hm hd8
       have HR8 := Hm hr8
       have HK8 := Hm hk8
       have HS8 := Hm hs8
       have HC8 := Hm hc8
       have HT8 := Hm ht8
       clear ho8 hgr8 hat8 htw8 hxs hD hd8 hr8 hk8 hs8 hc8 ht8
       refine hK.out _ _ (trivial) (fun hZ => ?_)
       clear hK K
       try simp only[Act.put,sa,s0,s1]
       refine uq 9 q13c_16_6_9 28 hZ ?_
       refine ar1 10 q13c_16_6_10 fun K hK => ?_
       ·skip
        have hbo := HD8.out
        have o1 := hbo.cell 1 _ rfl
        have f1 := hbo.free 1
        have lo := hbo.lt
        go_simp
        obtain ⟨wE10, hq10⟩ : ∃ x, x = wE8.setCell ⟨bd, 1, none⟩ (.slice r8 (n1 + 1) q8) := ⟨_, rfl⟩
        have HE : Hid (ESt w g br bd wE10 [.slice a0 n0 c0, .slice r8 (n1 + 1) q8, .slice a2 n2 c2, .int .i64 z] m8) := by unfold Hid; rw [hq10]; exact ESt.put HPL.out hbo HR8.out HK8.out HS8.out HC8.out HT8.out rfl
        rw [<- hq10]
        clear hq10 hbo o1 f1 lo
        refine hK.out _ _ (trivial) (fun hZ => ?_)
        clear hK K
        try simp only[Act.put,sa,s0,s1]
        refine wpAnyH_done (by kernel_rfl) ?_ _
        have hbe := HE.out.d
        have hre := HE.out.r
        obtain ⟨p0, p1, p2, p3⟩ := hbe.c4
        obtain ⟨q0, q1, q2, q3⟩ := hre.c4
        obtain ⟨e0, e1, e2, e3⟩ := hre.f4
        have le := hre.lt
        have HP := Hm (fun W (hT : Turn [br] wE10 W) (hz : W.heap.size = wE10.heap.size) => HE.out.leave HPL.out hT hz)
        clear hbe hre HE
        go_wp2_with fail
        refine bodyPost_ret (v := .agg #[.slice a0 n0 c0, .slice r8 (n1 + 1) q8, .slice a2 n2 c2, .int .i64 z]) (by simp [results, Tryz.results16, go_sem, *]) rfl (show DiskDrawn w g _ _ from ⟨[.slice a0 n0 c0, .slice r8 (n1 + 1) q8, .slice a2 n2 c2, .int .i64 z], _, rfl, HP.out _ (turn4 _ _ _ _ _ _) (by simp)⟩)
 by_cases y2 : y = 2
 ·subst y2
  clear y0 y1 hy0 hy12
  have hbo := HST.out.d
  have o2 := hbo.cell 2 _ rfl
  have f2 := hbo.free 2
  have lo := hbo.lt
  obtain ⟨WW, hWW⟩ : ∃ x, x = w3.setCell ⟨bd, 2, none⟩ (.slice none 0 0) := ⟨_, rfl⟩
  have HE : Hid (ESt w g br bd WW [.slice a0 n0 c0, .slice a1 n1 c1, .slice none 0 0, .int .i64 z] { m with fSafe := [] }) := by
   unfold Hid
   rw [hWW]
   exact ESt.put HPL.out hbo HST.out.r HST.out.loose.1 HST.out.loose.2 HST.out.c HST.out.t rfl
  clear hbo HST
  have hbe := HE.out.d
  have hre := HE.out.r
  obtain ⟨p0, p1, p2, p3⟩ := hbe.c4
  obtain ⟨q0, q1, q2, q3⟩ := hre.c4
  obtain ⟨e0, e1, e2, e3⟩ := hre.f4
  have le := hre.lt
  have HP := Hm (fun W (hT : Turn [br] WW W) (hz : W.heap.size = WW.heap.size) => HE.out.leave HPL.out hT hz)
  clear hbe hre HE
  rw [hWW] at p0 p1 p2 p3 q0 q1 q2 q3 e0 e1 e2 e3 le HP
  clear hWW
  go_wp2_with fail
  refine bodyPost_ret (v := .agg #[.slice a0 n0 c0, .slice a1 n1 c1, .slice none 0 0, .int .i64 z]) (by simp [results, Tryz.results16, go_sem, *]) rfl (show DiskDrawn w g _ _ from ⟨[.slice a0 n0 c0, .slice a1 n1 c1, .slice none 0 0, .int .i64 z], _, rfl, HP.out _ (turn4 _ _ _ _ _ _) (by simp)⟩)
 by_cases y3 : y = 3
 ·subst y3
  clear y0 y1 y2 hy0 hy12
  by_cases hn0 : 0 < n0
  ·obtain ⟨gI, hgI, ⟨u2, hu2⟩, hfz, hgIl, hsure⟩ := HST.out.sure HPL.out hn0
   clear hu2 hfz hgIl hsure
   subst hgI
   have p0 := HST.out.d.cell 0 _ rfl
   go_wp2_with fail
   clear p0
   refine wp_region_held_drew (S := fun W => True) (by kernel_rfl) (trivial) (fun hZ => ?_)
   obtain ⟨wS, hwS⟩ : ∃ wS, wS = w3.drew := ⟨_, rfl⟩
   have HDS : Hid (DSt w g br bd wS [.slice (some ⟨gI, 0, none⟩) n0 c0, .slice a1 n1 c1, .slice a2 n2 c2, .int .i64 z] m) := by unfold Hid; rw [hwS]; exact HST.out.drew
   rw [<- hwS]
   clear hwS HST hgl
   refine uq 0 q13c_16_11_0 38 hZ ?_
   refine uq 2 q13c_16_11_2 40 hZ ?_
   refine arR [1, 3] ?_
   refine (AllReadyH.cons (o := q13c_16_11_1) rfl (fun K hK => ?_) (AllReadyH.cons (o := q13c_16_11_3) rfl (fun K hK => ?_) AllReadyH.nil))
   ·go_simp
    have hD : DSt w g br bd wS [.slice (some ⟨gI, 0, none⟩) n0 c0, .slice a1 n1 c1, .slice a2 n2 c2, .int .i64 z] m := by first | exact HD4.out | exact HD3.out | exact HDS.out
    have p0 := hD.d.cell 0 _ rfl
    go_simp
    obtain ⟨wE1, hqL⟩ : ∃ x, x = wS := ⟨_, rfl⟩
    have HD1 : Hid (DSt w g br bd wE1 [.slice (some ⟨gI, 0, none⟩) n0 c0, .slice a1 n1 c1, .slice a2 n2 c2, .int .i64 z] m) := by unfold Hid; rw [hqL]; exact hD
    have hop1 : True := trivial
    (try rw [<- hqL] at HRD)
    rw [<- hqL]
    clear hqL p0 hD
    refine hK.out _ _ (trivial) (fun hZ => ?_)
    clear hK K
    try simp only[Act.put,sa,s0,s1]
    refine ar1 3 q13c_16_11_3 fun K hK => ?_
    ·go_simp
     have hD : DSt w g br bd wE1 [.slice (some ⟨gI, 0, none⟩) n0 c0, .slice a1 n1 c1, .slice a2 n2 c2, .int .i64 z] m := by first | exact HD1.out | exact HDS.out
     obtain ⟨wE3, hq3⟩ : ∃ x, x = wE1.alloc (.cells (([-1, 0, 100] : List Int).map (Value.int .i64)).toArray 3) := ⟨_, rfl⟩
     have hx3 : Below wE1.heap.size wE1 wE3 := by rw [hq3]; exact rB.alloc rN _
     have HD3 := Hm (hD.below hx3)
     have HRD : Hid (Rd .i64 (wE1.heap.size + 1) wE3 (some ⟨wE1.heap.size, 0, none⟩) [-1, 0, 100]) := by unfold Hid; rw [hq3]; exact rd_lit .i64 wE1 [-1, 0, 100] 3
     have hgg := hD.c.lt
     obtain ⟨g3, HG3⟩ : ∃ x, Hid (x = wE1.heap.size) := ⟨_, Hm rfl⟩
     rw [<- HG3.out] at HRD hgg ⊢
     have hq3' : wE3 = wE1.alloc (.cells #[.int .i64 (-1), .int .i64 0, .int .i64 100] 3) := hq3
     rw [<- hq3']
     clear hq3 hq3' hx3 hD
     refine hK.out _ _ (trivial) (fun hZ => ?_)
     clear hK K
     try simp only[Act.put,sa,s0,s1]
     refine ar1 4 q13c_16_11_4 fun K hK => ?_
     ·go_simp
      have hD : DSt w g br bd wE3 [.slice (some ⟨gI, 0, none⟩) n0 c0, .slice a1 n1 c1, .slice a2 n2 c2, .int .i64 z] m := by first | exact HD3.out | exact HD1.out
      refine (l1Int_ok _ 3 3 [-1, 0, 100] hD.c rfl (by omega) (by omega) _ HRD.out (by intro b o h; simp at h; omega)).mono ?_
      rintro e wE4 ⟨k, ⟨hk, rfl⟩, hcx, hgx⟩
      have hwf := ints3 k hk
      generalize ([-1, 0, 100] : List Int).getD k 0 = jv at *
      have HD4 := Hm (hD.cur HPL.out hgx hcx)
      clear hD hgx hcx hk
      go_wp2_with fail
      refine hK.out _ _ (trivial) (fun hZ => ?_)
      clear hK K
      try simp only[Act.put,sa,s0,s1]
      refine uq 5 q13c_16_11_5 43 hZ ?_
      refine uq 6 q13c_16_11_6 44 hZ ?_
      refine ar1 7 q13c_16_11_7 fun K hK => ?_
      ·skip
       have hD : DSt w g br bd wE4 [.slice (some ⟨gI, 0, none⟩) n0 c0, .slice a1 n1 c1, .slice a2 n2 c2, .int .i64 z] m := by first | exact HD4.out | exact HD1.out
       obtain ⟨gJ, hgJ, ⟨u2, hu2⟩, hfz, hgIl, hsure⟩ := hD.sure HPL.out hn0
       injection hgJ with hgJ
       injection hgJ with hgJ _
       subst hgJ
       obtain ⟨m7, he7⟩ := hsure jv hwf
       have HE7 := Hm he7
       clear hsure he7
       go_simp
       obtain ⟨wE7, hq7⟩ : ∃ x, x = wE4.setCell ⟨gI, 2, none⟩ (.int .i64 jv) := ⟨_, rfl⟩
       have HE : Hid (ESt w g br bd wE7 [.slice (some ⟨gI, 0, none⟩) n0 c0, .slice a1 n1 c1, .slice a2 n2 c2, .int .i64 z] m7) := by unfold Hid; rw [hq7]; exact HE7.out
       rw [<- hq7]
       clear hq7 HE7 hu2 hfz hgIl hD
       refine hK.out _ _ (trivial) (fun hZ => ?_)
       clear hK K
       try simp only[Act.put,sa,s0,s1]
       refine wpAnyH_done (by kernel_rfl) ?_ _
       have hbe := HE.out.d
       have hre := HE.out.r
       obtain ⟨p0, p1, p2, p3⟩ := hbe.c4
       obtain ⟨q0, q1, q2, q3⟩ := hre.c4
       obtain ⟨e0, e1, e2, e3⟩ := hre.f4
       have le := hre.lt
       have HP := Hm (fun W (hT : Turn [br] wE7 W) (hz : W.heap.size = wE7.heap.size) => HE.out.leave HPL.out hT hz)
       clear hbe hre HE
       go_wp2_with fail
       refine bodyPost_ret (v := .agg #[.slice (some ⟨gI, 0, none⟩) n0 c0, .slice a1 n1 c1, .slice a2 n2 c2, .int .i64 z]) (by simp [results, Tryz.results16, go_sem, *]) rfl (show DiskDrawn w g _ _ from ⟨[.slice (some ⟨gI, 0, none⟩) n0 c0, .slice a1 n1 c1, .slice a2 n2 c2, .int .i64 z], _, rfl, HP.out _ (turn4 _ _ _ _ _ _) (by simp)⟩)
   ·go_simp
    have hD : DSt w g br bd wS [.slice (some ⟨gI, 0, none⟩) n0 c0, .slice a1 n1 c1, .slice a2 n2 c2, .int .i64 z] m := by first | exact HD1.out | exact HDS.out
    obtain ⟨wE3, hq3⟩ : ∃ x, x = wS.alloc (.cells (([-1, 0, 100] : List Int).map (Value.int .i64)).toArray 3) := ⟨_, rfl⟩
    have hx3 : Below wS.heap.size wS wE3 := by rw [hq3]; exact rB.alloc rN _
    have HD3 := Hm (hD.below hx3)
    have HRD : Hid (Rd .i64 (wS.heap.size + 1) wE3 (some ⟨wS.heap.size, 0, none⟩) [-1, 0, 100]) := by unfold Hid; rw [hq3]; exact rd_lit .i64 wS [-1, 0, 100] 3
    have hgg := hD.c.lt
    obtain ⟨g3, HG3⟩ : ∃ x, Hid (x = wS.heap.size) := ⟨_, Hm rfl⟩
    rw [<- HG3.out] at HRD hgg ⊢
    have hq3' : wE3 = wS.alloc (.cells #[.int .i64 (-1), .int .i64 0, .int .i64 100] 3) := hq3
    rw [<- hq3']
    clear hq3 hq3' hx3 hD
    refine hK.out _ _ (trivial) (fun hZ => ?_)
    clear hK K
    try simp only[Act.put,sa,s0,s1]
    refine arR [1, 4] ?_
    refine (AllReadyH.cons (o := q13c_16_11_1) rfl (fun K hK => ?_) (AllReadyH.cons (o := q13c_16_11_4) rfl (fun K hK => ?_) AllReadyH.nil))
    ·go_simp
     have hD : DSt w g br bd wE3 [.slice (some ⟨gI, 0, none⟩) n0 c0, .slice a1 n1 c1, .slice a2 n2 c2, .int .i64 z] m := by first | exact HD4.out | exact HD3.out | exact HDS.out
     have p0 := hD.d.cell 0 _ rfl
     go_simp
     obtain ⟨wE1, hqL⟩ : ∃ x, x = wE3 := ⟨_, rfl⟩
     have HD1 : Hid (DSt w g br bd wE1 [.slice (some ⟨gI, 0, none⟩) n0 c0, .slice a1 n1 c1, .slice a2 n2 c2, .int .i64 z] m) := by unfold Hid; rw [hqL]; exact hD
     have hop1 : True := trivial
     (try rw [<- hqL] at HRD)
     rw [<- hqL]
     clear hqL p0 hD
     refine hK.out _ _ (trivial) (fun hZ => ?_)
     clear hK K
     try simp only[Act.put,sa,s0,s1]
     refine ar1 4 q13c_16_11_4 fun K hK => ?_
     ·go_simp
      have hD : DSt w g br bd wE1 [.slice (some ⟨gI, 0, none⟩) n0 c0, .slice a1 n1 c1, .slice a2 n2 c2, .int .i64 z] m := by first | exact HD3.out | exact HD1.out
      refine (l1Int_ok _ 3 3 [-1, 0, 100] hD.c rfl (by omega) (by omega) _ HRD.out (by intro b o h; simp at h; omega)).mono ?_
      rintro e wE4 ⟨k, ⟨hk, rfl⟩, hcx, hgx⟩
      have hwf := ints3 k hk
      generalize ([-1, 0, 100] : List Int).getD k 0 = jv at *
      have HD4 := Hm (hD.cur HPL.out hgx hcx)
      clear hD hgx hcx hk
      go_wp2_with fail
      refine hK.out _ _ (trivial) (fun hZ => ?_)
      clear hK K
      try simp only[Act.put,sa,s0,s1]
      refine uq 5 q13c_16_11_5 43 hZ ?_
      refine uq 6 q13c_16_11_6 44 hZ ?_
      refine ar1 7 q13c_16_11_7 fun K hK => ?_
      ·skip
       have hD : DSt w g br bd wE4 [.slice (some ⟨gI, 0, none⟩) n0 c0, .slice a1 n1 c1, .slice a2 n2 c2, .int .i64 z] m := by first | exact HD4.out | exact HD1.out
       obtain ⟨gJ, hgJ, ⟨u2, hu2⟩, hfz, hgIl, hsure⟩ := hD.sure HPL.out hn0
       injection hgJ with hgJ
       injection hgJ with hgJ _
       subst hgJ
       obtain ⟨m7, he7⟩ := hsure jv hwf
       have HE7 := Hm he7
       clear hsure he7
       go_simp
       obtain ⟨wE7, hq7⟩ : ∃ x, x = wE4.setCell ⟨gI, 2, none⟩ (.int .i64 jv) := ⟨_, rfl⟩
       have HE : Hid (ESt w g br bd wE7 [.slice (some ⟨gI, 0, none⟩) n0 c0, .slice a1 n1 c1, .slice a2 n2 c2, .int .i64 z] m7) := by unfold Hid; rw [hq7]; exact HE7.out
       rw [<- hq7]
       clear hq7 HE7 hu2 hfz hgIl hD
       refine hK.out _ _ (trivial) (fun hZ => ?_)
       clear hK K
       try simp only[Act.put,sa,s0,s1]
       refine wpAnyH_done (by kernel_rfl) ?_ _
       have hbe := HE.out.d
       have hre := HE.out.r
       obtain ⟨p0, p1, p2, p3⟩ := hbe.c4
       obtain ⟨q0, q1, q2, q3⟩ := hre.c4
       obtain ⟨e0, e1, e2, e3⟩ := hre.f4
       have le := hre.lt
       have HP := Hm (fun W (hT : Turn [br] wE7 W) (hz : W.heap.size = wE7.heap.size) => HE.out.leave HPL.out hT hz)
       clear hbe hre HE
       go_wp2_with fail
       refine bodyPost_ret (v := .agg #[.slice (some ⟨gI, 0, none⟩) n0 c0, .slice a1 n1 c1, .slice a2 n2 c2, .int .i64 z]) (by simp [results, Tryz.results16, go_sem, *]) rfl (show DiskDrawn w g _ _ from ⟨[.slice (some ⟨gI, 0, none⟩) n0 c0, .slice a1 n1 c1, .slice a2 n2 c2, .int .i64 z], _, rfl, HP.out _ (turn4 _ _ _ _ _ _) (by simp)⟩)
    ·go_simp
     have hD : DSt w g br bd wE3 [.slice (some ⟨gI, 0, none⟩) n0 c0, .slice a1 n1 c1, .slice a2 n2 c2, .int .i64 z] m := by first | exact HD3.out | exact HD1.out
     refine (l1Int_ok _ 3 3 [-1, 0, 100] hD.c rfl (by omega) (by omega) _ HRD.out (by intro b o h; simp at h; omega)).mono ?_
     rintro e wE4 ⟨k, ⟨hk, rfl⟩, hcx, hgx⟩
     have hwf := ints3 k hk
     generalize ([-1, 0, 100] : List Int).getD k 0 = jv at *
     have HD4 := Hm (hD.cur HPL.out hgx hcx)
     clear hD hgx hcx hk
     go_wp2_with fail
     refine hK.out _ _ (trivial) (fun hZ => ?_)
     clear hK K
     try simp only[Act.put,sa,s0,s1]
     refine ar1 1 q13c_16_11_1 fun K hK => ?_
     ·go_simp
      have hD : DSt w g br bd wE4 [.slice (some ⟨gI, 0, none⟩) n0 c0, .slice a1 n1 c1, .slice a2 n2 c2, .int .i64 z] m := by first | exact HD4.out | exact HD3.out | exact HDS.out
      have p0 := hD.d.cell 0 _ rfl
      go_simp
      obtain ⟨wE1, hqL⟩ : ∃ x, x = wE4 := ⟨_, rfl⟩
      have HD1 : Hid (DSt w g br bd wE1 [.slice (some ⟨gI, 0, none⟩) n0 c0, .slice a1 n1 c1, .slice a2 n2 c2, .int .i64 z] m) := by unfold Hid; rw [hqL]; exact hD
      have hop1 : True := trivial
      (try rw [<- hqL] at HRD)
      rw [<- hqL]
      clear hqL p0 hD
      refine hK.out _ _ (trivial) (fun hZ => ?_)
      clear hK K
      try simp only[Act.put,sa,s0,s1]
      refine uq 5 q13c_16_11_5 43 hZ ?_
      refine uq 6 q13c_16_11_6 44 hZ ?_
      refine ar1 7 q13c_16_11_7 fun K hK => ?_
      ·skip
       have hD : DSt w g br bd wE1 [.slice (some ⟨gI, 0, none⟩) n0 c0, .slice a1 n1 c1, .slice a2 n2 c2, .int .i64 z] m := by first | exact HD4.out | exact HD1.out
       obtain ⟨gJ, hgJ, ⟨u2, hu2⟩, hfz, hgIl, hsure⟩ := hD.sure HPL.out hn0
       injection hgJ with hgJ
       injection hgJ with hgJ _
       subst hgJ
       obtain ⟨m7, he7⟩ := hsure jv hwf
       have HE7 := Hm he7
       clear hsure he7
       go_simp
       obtain ⟨wE7, hq7⟩ : ∃ x, x = wE1.setCell ⟨gI, 2, none⟩ (.int .i64 jv) := ⟨_, rfl⟩
       have HE : Hid (ESt w g br bd wE7 [.slice (some ⟨gI, 0, none⟩) n0 c0, .slice a1 n1 c1, .slice a2 n2 c2, .int .i64 z] m7) := by unfold Hid; rw [hq7]; exact HE7.out
       rw [<- hq7]
       clear hq7 HE7 hu2 hfz hgIl hD
       refine hK.out _ _ (trivial) (fun hZ => ?_)
       clear hK K
       try simp only[Act.put,sa,s0,s1]
       refine wpAnyH_done (by kernel_rfl) ?_ _
       have hbe := HE.out.d
       have hre := HE.out.r
       obtain ⟨p0, p1, p2, p3⟩ := hbe.c4
       obtain ⟨q0, q1, q2, q3⟩ := hre.c4
       obtain ⟨e0, e1, e2, e3⟩ := hre.f4
       have le := hre.lt
       have HP := Hm (fun W (hT : Turn [br] wE7 W) (hz : W.heap.size = wE7.heap.size) => HE.out.leave HPL.out hT hz)
       clear hbe hre HE
       go_wp2_with fail
       refine bodyPost_ret (v := .agg #[.slice (some ⟨gI, 0, none⟩) n0 c0, .slice a1 n1 c1, .slice a2 n2 c2, .int .i64 z]) (by simp [results, Tryz.results16, go_sem, *]) rfl (show DiskDrawn w g _ _ from ⟨[.slice (some ⟨gI, 0, none⟩) n0 c0, .slice a1 n1 c1, .slice a2 n2 c2, .int .i64 z], _, rfl, HP.out _ (turn4 _ _ _ _ _ _) (by simp)⟩)
  ·have hn00 : n0 = 0 := by omega
   subst hn00
   have HE := Hm HST.out.e
   clear HST
   have hbe := HE.out.d
   have hre := HE.out.r
   obtain ⟨p0, p1, p2, p3⟩ := hbe.c4
   obtain ⟨q0, q1, q2, q3⟩ := hre.c4
   obtain ⟨e0, e1, e2, e3⟩ := hre.f4
   have le := hre.lt
   have HP := Hm (fun W (hT : Turn [br] w3 W) (hz : W.heap.size = w3.heap.size) => HE.out.leave HPL.out hT hz)
   clear hbe hre HE
   go_wp2_with fail
   refine bodyPost_ret (v := .agg #[.slice a0 0 c0, .slice a1 n1 c1, .slice a2 n2 c2, .int .i64 z]) (by simp [results, Tryz.results16, go_sem, *]) rfl (show DiskDrawn w g _ _ from ⟨[.slice a0 0 c0, .slice a1 n1 c1, .slice a2 n2 c2, .int .i64 z], _, rfl, HP.out _ (turn4 _ _ _ _ _ _) (by simp)⟩)
 ·have HE := Hm HST.out.e
  clear HST
  have hbe := HE.out.d
  have hre := HE.out.r
  obtain ⟨p0, p1, p2, p3⟩ := hbe.c4
  obtain ⟨q0, q1, q2, q3⟩ := hre.c4
  obtain ⟨e0, e1, e2, e3⟩ := hre.f4
  have le := hre.lt
  have HP := Hm (fun W (hT : Turn [br] w3 W) (hz : W.heap.size = w3.heap.size) => HE.out.leave HPL.out hT hz)
  clear hbe hre HE
  go_wp2_with fail
  refine bodyPost_ret (v := .agg #[.slice a0 n0 c0, .slice a1 n1 c1, .slice a2 n2 c2, .int .i64 z]) (by simp [results, Tryz.results16, go_sem, *]) rfl (show DiskDrawn w g _ _ from ⟨[.slice a0 n0 c0, .slice a1 n1 c1, .slice a2 n2 c2, .int .i64 z], _, rfl, HP.out _ (turn4 _ _ _ _ _ _) (by simp)⟩)
section
variable {B : Nat} {W W' : World} {g : Nat}
theorem CurOk.at (h : CurOk W g) (k : Nat) : (k = 0 /\ ∃ a n c, W.cell? ⟨g, k, none⟩ = some (.slice a n c)) ∨ ((k = 1 ∨ k = 2) /\ ∃ z, W.cell? ⟨g, k, none⟩ = some (.int .i64 z)) ∨ (3 <= k /\ W.cell? ⟨g, k, none⟩ = none) := by
 obtain ⟨a, n, cap, B, zs, _, _, _, _, ⟨i, q, _, _, hg⟩, _⟩ := h
 have hc := cell_of_row W g k _ _ (0, 0) hg
 rw [hc]
 match k with
 | 0 => exact .inl ⟨rfl, _, _, _, rfl⟩
 | 1 => exact .inr (.inl ⟨.inl rfl, _, rfl⟩)
 | 2 => exact .inr (.inl ⟨.inr rfl, _, rfl⟩)
 | k + 3 => exact .inr (.inr ⟨by omega, rfl⟩)
theorem leafB_cur (hx : CurOk W g) (h : Turn [g] W W') {a : Option Addr} {c : Nat} {zs : List Int} (hl : LeafB B W a c zs) : LeafB B W' a c zs := by
 refine ⟨hl.1, hl.2.1, fun j hj => ?_, hl.2.2.2⟩
 obtain ⟨b, off, e, hB, hc⟩ := hl.2.2.1 j hj
 refine ⟨b, off, e, hB, turn_cell h ?_ hc⟩
 rintro rfl
 rcases hx.at (off + j) with ⟨_, _, _, _, h1⟩ | ⟨_, z, h1⟩ | ⟨_, h1⟩ <;> rw [hc] at h1 <;> cases h1
theorem leafE_cur (hx : CurOk W g) (h : Turn [g] W W') {a : Option Addr} {c : Nat} {l : List MEntry} (hl : LeafL 2 rEntry B W a c l) : LeafL 2 rEntry B W' a c l := by
 refine ⟨hl.1, hl.2.1, fun j hj => ?_⟩
 obtain ⟨b, off, e, hB, cs, h1, h2, h3⟩ := hl.2.2 j hj
 have h3' := h3
 obtain ⟨rfl, _⟩ := h3
 have hne : b ≠ g := by
  rintro rfl
  have h4 := h2 0 _ rfl
  rcases hx.at (off + j * 2 + 0) with ⟨_, _, _, _, h5⟩ | ⟨_, z, h5⟩ | ⟨_, h5⟩ <;> rw [h4] at h5 <;> cases h5
 exact ⟨b, off, e, hB, _, h1, fun i u hu => turn_cell h hne (h2 i u hu), h3'⟩
theorem leafI_cur (hx : CurOk W g) (h : Turn [g] W W') {a : Option Addr} {c : Nat} {l : List MInode} (hl : LeafL 3 rInode B W a c l) : LeafL 3 rInode B W' a c l := by
 refine ⟨hl.1, hl.2.1, fun j hj => ?_⟩
 obtain ⟨b, off, e, hB, cs, h1, h2, a1, c1, rfl, h3, h4, h5, _⟩ := hl.2.2 j hj
 have hne : b ≠ g := by
  rintro rfl
  have h6 := h2 0 _ rfl
  have h7 := h2 1 _ rfl
  rcases hx.at (off + j * 3 + 0) with ⟨_, _, _, _, h8⟩ | ⟨hk, z, h8⟩ | ⟨_, h8⟩
  ·rw [h6] at h8; cases h8
  ·rcases hx.at (off + j * 3 + 1) with ⟨hk2, _, _, _, h9⟩ | ⟨_, z, h9⟩ | ⟨_, h9⟩
   ·omega
   ·rw [h7] at h9; cases h9
   ·rw [h7] at h9; cases h9
  ·rw [h6] at h8; cases h8
 exact ⟨b, off, e, hB, _, h1, fun i u hu => turn_cell h hne (h2 i u hu), a1, c1, rfl, h3, leafB_cur hx h h4, h5, trivial⟩
theorem rDisk_cur {cs : List Value} {m : MDisk} (hx : CurOk W g) (h : Turn [g] W W') (hr : rDisk B W cs m) : rDisk B W' cs m := by
 obtain ⟨a0, c0, a1, c1, a2, c2, rfl, h0, h1, h2, h3, _⟩ := hr
 exact ⟨a0, c0, a1, c1, a2, c2, rfl, leafI_cur hx h h0, leafE_cur hx h h1, leafE_cur hx h h2, h3, trivial⟩
end
theorem rdisk_four {W : World} {cs : List Value} {m : MDisk} {B : Nat} (h : rDisk B W cs m) : ∃ a0 n0 c0 a1 n1 c1 a2 n2 c2 z, cs = [.slice a0 n0 c0, .slice a1 n1 c1, .slice a2 n2 c2, .int .i64 z] := by
 obtain ⟨a0, c0, a1, c1, a2, c2, hc, _⟩ := h
 exact ⟨a0, _, c0, a1, _, c1, a2, _, c2, _, hc⟩
def DiskTwo (w : World) (e : Ending) (w' : World) : Prop :=
 ∃ (cs : List Value) (m : MDisk) (s : ByteArray), e = .returned (.tuple #[.agg cs.toArray, .string s]) /\ rDisk w'.heap.size w' cs m /\ wDisk m <= 1048576 /\ s.size <= 20 /\ Below w.heap.size w w'
end Go.Proofs.YtegonncmopecnaaGreatDoor
