/-
  Part 4 of the texts that the proof leans on.
-/
import Derived.Test.YtmedljankefhbaaDoorTbf0
import Derived.Test.YtmedljankefhbaaDoorTbf2
import Derived.Test.YtmedljankefhbaaDoorTbf1
import Derived.Lib.OthersKept
import Derived.Deep.RegionHeld3
import Derived.Test.YtmedljankefhbaaDoorRows
set_option linter.unusedVariables false
set_option linter.unusedSimpArgs false
set_option maxRecDepth 10000

namespace Go.Proofs.YtmedljankefhbaaDoor
open Go.RowKit Go.Maps Go.Shelf
abbrev qfc5_33_6_0 : Oper := ⟨some 28, .move (.tmp 0), 9, "l04_mem.go:87", #[], none⟩
abbrev qfc5_33_6_1 : Oper := ⟨some 29, .move (.tmp 5), 3, "l04_mem.go:87", #[], none⟩
abbrev qfc5_33_6_2 : Oper := ⟨some 30, .slice 9 (.tmp 28) (some (.tmp 29)) none none, 9, "l04_mem.go:87", #[⟨0, .data⟩, ⟨1, .data⟩], none⟩
abbrev qfc5_33_6_3 : Oper := ⟨some 31, .move (.tmp 1), 9, "l04_mem.go:87", #[], none⟩
abbrev qfc5_33_6_4 : Oper := ⟨some 32, .move (.tmp 5), 3, "l04_mem.go:87", #[], none⟩
abbrev qfc5_33_6_5 : Oper := ⟨some 33, .slice 9 (.tmp 31) (some (.tmp 32)) none none, 9, "l04_mem.go:87", #[⟨3, .data⟩, ⟨4, .data⟩], none⟩
abbrev qfc5_33_6_6 : Oper := ⟨some 34, .call { callee := .value (.func 49), args := #[.tmp 30, .tmp 33], argTypes := #[9, 9] }, 3, "l04_mem.go:87", #[⟨2, .data⟩, ⟨5, .data⟩], none⟩
abbrev qfc5_33_6_7 : Oper := ⟨some 4, .assign (.tmp 34), 3, "l04_mem.go:87", #[⟨6, .data⟩, ⟨6, .chain⟩, ⟨0, .phase⟩, ⟨1, .phase⟩, ⟨2, .phase⟩, ⟨3, .phase⟩, ⟨4, .phase⟩, ⟨5, .phase⟩, ⟨6, .phase⟩], none⟩

/-- The library's two tables, as they are laid. -/
def Tabs (w : World) : Prop := Lib.Utf8Tabs (layDec_ren.g 3) (layDec_ren.g 4) w
theorem Tabs.below {w w' : World} (h : Tabs w) (hb : Below w.heap.size w w') : Tabs w' := Utf8Tabs_below h hb

theorem dec_any (s : ByteArray) (w : World) (hT : Tabs w) :
    Calls Tryd.prog 48 #[.string s] w fun e w' => e = .returned (.tuple #[.int .i32 (Lib.decodeGo s).1, .int .i64 (Lib.decodeGo s).2]) ∧ Below w.heap.size w w' :=
  Any.utf8_DecodeRuneInString layDec s w hT
theorem decodeGo_ext (b : ByteArray) (pos : Nat) : Lib.decodeGo (b.extract pos b.size) = goDec b pos := by
  unfold Lib.decodeGo goDec
  have : (b.extract pos b.size).size = b.size - pos := by rw [← k_len, toList_extract, List.length_drop, k_len]
  rw [this]

theorem kLt_facts {a b : ByteArray} (h : kLt a b = true) : Op.bytesLess a.toList b.toList = true ∧ Op.bytesLess b.toList a.toList = false ∧ (b.toList == a.toList) = false := by
  refine ⟨h, kl_asymm h, ?_⟩
  rw [beq_eq_false_iff_ne]
  intro e
  have h2 : Op.bytesLess a.toList b.toList = true := h
  rw [e, kl_irrefl] at h2
  cases h2

set_option maxHeartbeats 1000000 in
theorem cmpS_any (a b : ByteArray) (w : World) :
    Calls Tryd.prog 49 #[.string a, .string b] w fun e w' => e = .returned (.int .i64 (ordK a b)) ∧ w' = w := by
  by_cases h1 : kLt a b = true
  · rw [ordK_lt h1]
    obtain ⟨p1, p2, p3⟩ := kLt_facts h1
    clear h1
    go_enter Tryd.func49, Tryd.ntmps49
    go_wp2
    go_ret
    exact ⟨rfl, rfl⟩
  · by_cases h2 : kLt b a = true
    · rw [ordK_gt h2]
      obtain ⟨p1, p2, p3⟩ := kLt_facts h2
      clear h1 h2
      go_enter Tryd.func49, Tryd.ntmps49
      go_wp2
      go_ret
      exact ⟨rfl, rfl⟩
    · have h1' : kLt a b = false := Bool.eq_false_iff.2 h1
      have he : a = b := by
        by_cases h : a = b
        · exact h
        · exact absurd (kLt_tri h1' h) h2
      rw [ordK_eq he]
      subst he
      have p1 : Op.bytesLess a.toList a.toList = false := h1'
      clear h1 h2 h1'
      go_enter Tryd.func49, Tryd.ntmps49
      go_wp2
      go_ret
      exact ⟨rfl, rfl⟩

def ordI (x y : Int) : Int := if x < y then -1 else if y < x then 1 else 0
theorem ordI_lt {x y : Int} (h : x < y) : ordI x y = -1 := if_pos h
theorem ordI_gt {x y : Int} (h : y < x) : ordI x y = 1 := by unfold ordI; rw [if_neg (by omega), if_pos h]
theorem ordI_eq {x y : Int} (h : x = y) : ordI x y = 0 := by unfold ordI; rw [if_neg (by omega), if_neg (by omega)]

set_option maxHeartbeats 400000 in
theorem cmpJ_any (x y : Int) (w : World) :
    Calls Tryd.prog 51 #[.int .i64 x, .int .i64 y] w fun e w' => e = .returned (.int .i64 (ordI x y)) ∧ w' = w := by
  by_cases h1 : x < y
  · have HV := Hid.mk (ordI_lt h1)
    go_enter Tryd.func51, Tryd.ntmps51
    go_wp2
    go_ret
    exact ⟨by rw [HV.out]; rfl, rfl⟩
  · by_cases h2 : y < x
    · have HV := Hid.mk (ordI_gt h2)
      go_enter Tryd.func51, Tryd.ntmps51
      go_wp2
      go_ret
      exact ⟨by rw [HV.out]; rfl, rfl⟩
    · have HV := Hid.mk (ordI_eq (x := x) (y := y) (by omega))
      go_enter Tryd.func51, Tryd.ntmps51
      go_wp2
      go_ret
      exact ⟨by rw [HV.out]; rfl, rfl⟩

set_option maxHeartbeats 400000 in
theorem cmpR_any (x y : Int) (w : World) :
    Calls Tryd.prog 50 #[.int .i32 x, .int .i32 y] w fun e w' => e = .returned (.int .i64 (ordI x y)) ∧ w' = w := by
  by_cases h1 : x < y
  · have HV := Hid.mk (ordI_lt h1)
    go_enter Tryd.func50, Tryd.ntmps50
    go_wp2
    go_ret
    exact ⟨by rw [HV.out]; rfl, rfl⟩
  · by_cases h2 : y < x
    · have HV := Hid.mk (ordI_gt h2)
      go_enter Tryd.func50, Tryd.ntmps50
      go_wp2
      go_ret
      exact ⟨by rw [HV.out]; rfl, rfl⟩
    · have HV := Hid.mk (ordI_eq (x := x) (y := y) (by omega))
      go_enter Tryd.func50, Tryd.ntmps50
      go_wp2
      go_ret
      exact ⟨by rw [HV.out]; rfl, rfl⟩

theorem iterPos_at {wr : World} {k : Nat} {s : ByteArray} {pos : Nat} (h : wr.heap[k]? = some (.stringIter s pos)) : wr.iterPos k = pos := by
  unfold World.iterPos
  rw [h]

set_option maxHeartbeats 4000000 in
theorem keyOrder_any (a b : ByteArray) (w : World) (hT : Tabs w) (ha : a.size ≤ 9223372036854775807) (hb : b.size ≤ 9223372036854775807) :
    Calls Tryd.prog 33 #[.string a, .string b] w fun e w' => e = .returned (.int .i64 (ordK a b)) ∧ Below w.heap.size w w' := by
  have HT := Hid.mk hT
  clear hT
  go_enter Tryd.func33, Tryd.ntmps33
  go_wp2_with fail
  go_loopw [] (fun wr => ∃ pos : Nat, wr.heap[w.heap.size]? = some (.stringIter a pos) ∧ Hid (Alike a b pos) ∧ Below w.heap.size w wr) (fun wr => a.size - wr.iterPos w.heap.size)
  case atStart => exact ⟨0, World.iter_heap w a 0, Alike.zero a b, (Below.refl _ _).alloc (Nat.le_refl _) _⟩
  case round =>
    obtain ⟨pos, hit, HAL, hbw⟩ := hrel
    have hpos0 := iterPos_at hit
    have HP0 := Hid.mk hpos0
    clear hpos0
    have hpb := HAL.out.lb
    have hpa := HAL.out.la
    by_cases hp : pos < a.size
    · have hnx : ∀ ty, (Instr.next (.pointer (some ⟨w.heap.size, 0, none⟩)) true ty).run Tryd.prog wr = _ := fun ty => Lib.run_next_any_at wr w.heap.size a pos ty hit hp
      have hit2 := Lib.iterAt_heap wr w.heap.size a pos (pos + (Utf8.decode a pos).2) hit
      have hbw2 := Lib.below_iterAt hbw (k := w.heap.size) (Nat.le_refl _) a (pos + (Utf8.decode a pos).2)
      obtain ⟨W1, hW1⟩ : ∃ W1, W1 = wr.iterAt w.heap.size a (pos + (Utf8.decode a pos).2) := ⟨_, rfl⟩
      rw [← hW1] at hnx hit2 hbw2
      have HLess := Hid.mk (fun h1 h2 h3 => HAL.out.less hp h1 h2 h3)
      have HMore := Hid.mk (fun h1 h2 h3 => HAL.out.more hp h1 h2 h3)
      have HNext := Hid.mk (fun h1 h2 h3 => HAL.out.next hp h1 h2 h3)
      have HOrd := Hid.mk HAL.out.ord
      obtain ⟨r, hr⟩ : ∃ r, r = (Utf8.decode a pos).1 := ⟨_, rfl⟩
      obtain ⟨n, hn⟩ : ∃ n, n = (Utf8.decode a pos).2 := ⟨_, rfl⟩
      rw [← hr] at hnx HLess HMore HNext
      rw [← hn] at hit2 HNext
      clear hr hn hW1 hit hbw
      have HIT := Hid.mk hit2
      have hlt2 : w.heap.size < W1.heap.size := (Array.getElem?_eq_some_iff.1 hit2).1
      clear hit2
      have hpb1 : (0 : Int) ≤ (pos : Int) := by omega
      have hpb2 : (pos : Int) ≤ (b.size : Int) := by omega
      have hpa2 : (pos : Int) ≤ (a.size : Int) := by omega
      go_wp2_with fail
      refine (dec_any _ W1 (HT.out.below hbw2)).mono ?_
      rintro e w2 ⟨rfl, hx2⟩
      rw [decodeGo_ext]
      obtain ⟨s, hs⟩ : ∃ s, s = (goDec b pos).1 := ⟨_, rfl⟩
      rw [← hs] at HLess HMore HNext ⊢
      clear hs
      obtain ⟨sz, hsz⟩ : ∃ sz, sz = (goDec b pos).2 := ⟨_, rfl⟩
      rw [← hsz]
      clear hsz
      have hb2 : Below w.heap.size w w2 := bthen hbw2 hx2
      have hit3 : w2.heap[w.heap.size]? = some (.stringIter a (pos + n)) := (hx2.block _ hlt2).trans HIT.out
      have hlt3 : w.heap.size < w2.heap.size := Nat.lt_of_lt_of_le hlt2 hx2.size
      have HIT3 := Hid.mk hit3
      clear hit3 hnx
      by_cases h1 : r = 65533
      · subst h1
        go_wp2_with fail
        refine wp_region_held_drew (S := fun W' => Below w2.heap.size w2 W') (by kernel_rfl) (Below.drew (Below.refl _ _)) (fun hHeld => ?_)
        refine tk 0 qfc5_33_6_0 (some 28) (v := ?v1) rfl rfl (by kernel_rfl) hHeld (by rfl) (fun _ _ _ x => x) (fun w h => ?y1) ?_; (case y1 => (try dsimp only at h); go_simp; try (with_reducible rfl)); try simp only [Act.put, sa, s0, s1]
        refine tk 1 qfc5_33_6_1 (some 29) (v := ?v2) rfl rfl (by kernel_rfl) hHeld (by rfl) (fun _ _ _ x => x) (fun w h => ?y2) ?_; (case y2 => (try dsimp only at h); go_simp; try (with_reducible rfl)); try simp only [Act.put, sa, s0, s1]
        refine tk 2 qfc5_33_6_2 (some 30) (v := ?v3) rfl rfl (by kernel_rfl) hHeld (by rfl) (fun _ _ _ x => x) (fun w h => ?y3) ?_; (case y3 => (try dsimp only at h); go_simp; try (with_reducible rfl)); try simp only [Act.put, sa, s0, s1]
        refine tk 3 qfc5_33_6_3 (some 31) (v := ?v4) rfl rfl (by kernel_rfl) hHeld (by rfl) (fun _ _ _ x => x) (fun w h => ?y4) ?_; (case y4 => (try dsimp only at h); go_simp; try (with_reducible rfl)); try simp only [Act.put, sa, s0, s1]
        refine tk 4 qfc5_33_6_4 (some 32) (v := ?v5) rfl rfl (by kernel_rfl) hHeld (by rfl) (fun _ _ _ x => x) (fun w h => ?y5) ?_; (case y5 => (try dsimp only at h); go_simp; try (with_reducible rfl)); try simp only [Act.put, sa, s0, s1]
        refine tk 5 qfc5_33_6_5 (some 33) (v := ?v6) rfl rfl (by kernel_rfl) hHeld (by rfl) (fun _ _ _ x => x) (fun w h => ?y6) ?_; (case y6 => (try dsimp only at h); go_simp; try (with_reducible rfl)); try simp only [Act.put, sa, s0, s1]
        refine wpAnyH_ready (rs := [6]) (by kernel_rfl) (by simp) ?_
        refine AllReadyH.cons (o := qfc5_33_6_6) rfl (fun K hK => ?_) AllReadyH.nil
        go_simp
        refine Calls.mono (cmpS_any _ _ _) ?_
        rintro e wy1 ⟨rfl, hw1⟩
        have hy1 := below_same hw1
        clear hw1
        go_wp2_with fail
        refine hK.out _ _ (bthen hHeld hy1) (fun hHeld => ?_)
        clear hK K
        try simp only [Act.put, sa, s0, s1]
        refine tk 7 qfc5_33_6_7 (some 4) (v := ?v7) rfl rfl (by kernel_rfl) hHeld (by rfl) (fun _ _ _ x => x) (fun w h => ?y7) ?_; (case y7 => (try dsimp only at h); go_simp; try (with_reducible rfl)); try simp only [Act.put, sa, s0, s1]
        refine wpAnyH_done (by kernel_rfl) ?_ _
        rw [HOrd.out]
        go_wp2_with fail
        go_ret
        exact ⟨rfl, bthen hb2 hHeld⟩
      · by_cases h2 : s = 65533
        · subst h2
          have h1i : ¬ ((r : Nat) : Int) = 65533 := by omega
          go_wp2_with fail
          refine wp_region_held_drew (S := fun W' => Below w2.heap.size w2 W') (by kernel_rfl) (Below.drew (Below.refl _ _)) (fun hHeld => ?_)
          refine tk 0 qfc5_33_6_0 (some 28) (v := ?v8) rfl rfl (by kernel_rfl) hHeld (by rfl) (fun _ _ _ x => x) (fun w h => ?y8) ?_; (case y8 => (try dsimp only at h); go_simp; try (with_reducible rfl)); try simp only [Act.put, sa, s0, s1]
          refine tk 1 qfc5_33_6_1 (some 29) (v := ?v9) rfl rfl (by kernel_rfl) hHeld (by rfl) (fun _ _ _ x => x) (fun w h => ?y9) ?_; (case y9 => (try dsimp only at h); go_simp; try (with_reducible rfl)); try simp only [Act.put, sa, s0, s1]
          refine tk 2 qfc5_33_6_2 (some 30) (v := ?v10) rfl rfl (by kernel_rfl) hHeld (by rfl) (fun _ _ _ x => x) (fun w h => ?y10) ?_; (case y10 => (try dsimp only at h); go_simp; try (with_reducible rfl)); try simp only [Act.put, sa, s0, s1]
          refine tk 3 qfc5_33_6_3 (some 31) (v := ?v11) rfl rfl (by kernel_rfl) hHeld (by rfl) (fun _ _ _ x => x) (fun w h => ?y11) ?_; (case y11 => (try dsimp only at h); go_simp; try (with_reducible rfl)); try simp only [Act.put, sa, s0, s1]
          refine tk 4 qfc5_33_6_4 (some 32) (v := ?v12) rfl rfl (by kernel_rfl) hHeld (by rfl) (fun _ _ _ x => x) (fun w h => ?y12) ?_; (case y12 => (try dsimp only at h); go_simp; try (with_reducible rfl)); try simp only [Act.put, sa, s0, s1]
          refine tk 5 qfc5_33_6_5 (some 33) (v := ?v13) rfl rfl (by kernel_rfl) hHeld (by rfl) (fun _ _ _ x => x) (fun w h => ?y13) ?_; (case y13 => (try dsimp only at h); go_simp; try (with_reducible rfl)); try simp only [Act.put, sa, s0, s1]
          refine wpAnyH_ready (rs := [6]) (by kernel_rfl) (by simp) ?_
          refine AllReadyH.cons (o := qfc5_33_6_6) rfl (fun K hK => ?_) AllReadyH.nil
          go_simp
          refine Calls.mono (cmpS_any _ _ _) ?_
          rintro e wy1 ⟨rfl, hw1⟩
          have hy1 := below_same hw1
          clear hw1
          go_wp2_with fail
          refine hK.out _ _ (bthen hHeld hy1) (fun hHeld => ?_)
          clear hK K
          try simp only [Act.put, sa, s0, s1]
          refine tk 7 qfc5_33_6_7 (some 4) (v := ?v14) rfl rfl (by kernel_rfl) hHeld (by rfl) (fun _ _ _ x => x) (fun w h => ?y14) ?_; (case y14 => (try dsimp only at h); go_simp; try (with_reducible rfl)); try simp only [Act.put, sa, s0, s1]
          refine wpAnyH_done (by kernel_rfl) ?_ _
          rw [HOrd.out]
          go_wp2_with fail
          go_ret
          exact ⟨rfl, bthen hb2 hHeld⟩
        · have h1i : ¬ ((r : Nat) : Int) = 65533 := by omega
          have h2i : ¬ ((s : Nat) : Int) = 65533 := by omega
          have e1 : (((r : Nat) : Int) == 65533) = false := beq_eq_false_iff_ne.2 h1i
          have e2 : (((s : Nat) : Int) == 65533) = false := beq_eq_false_iff_ne.2 h2i
          by_cases h3 : r < s
          · have hv := HLess.out h1 h2 h3
            have hne : ¬ ((r : Nat) : Int) = ((s : Nat) : Int) := by omega
            have hnb : (((r : Nat) : Int) != ((s : Nat) : Int)) = true := bne_iff_ne.2 hne
            have HV := Hid.mk hv
            clear hv
            go_wp2_with fail
            refine (cmpR_any _ _ _).mono ?_
            rintro e w3 ⟨rfl, hw3⟩
            have hw4 := hw3.symm
            clear hw3
            subst hw4
            rw [ordI_lt (by omega)]
            go_wp2_with fail
            go_ret
            exact ⟨by rw [HV.out]; rfl, hb2⟩
          · by_cases h4 : s < r
            · have hv := HMore.out h1 h2 h4
              have hne : ¬ ((r : Nat) : Int) = ((s : Nat) : Int) := by omega
              have hnb : (((r : Nat) : Int) != ((s : Nat) : Int)) = true := bne_iff_ne.2 hne
              have HV := Hid.mk hv
              clear hv
              go_wp2_with fail
              refine (cmpR_any _ _ _).mono ?_
              rintro e w3 ⟨rfl, hw3⟩
              have hw4 := hw3.symm
              clear hw3
              subst hw4
              rw [ordI_gt (by omega)]
              go_wp2_with fail
              go_ret
              exact ⟨by rw [HV.out]; rfl, hb2⟩
            · have he : r = s := by omega
              have HN := Hid.mk (HNext.out h1 h2 he)
              subst he
              go_wp2_with fail
              go_roundw
              case rel => exact ⟨pos + n, HIT3.out, HN.out.1, hb2⟩
              case measure => rw [iterPos_at HIT3.out, HP0.out]; have := HN.out.2; omega
    · have hnx : ∀ ty, (Instr.next (.pointer (some ⟨w.heap.size, 0, none⟩)) true ty).run Tryd.prog wr = _ := fun ty => Lib.run_next_end_at wr w.heap.size a pos ty hit hp
      have he : pos = a.size := by omega
      subst he
      have HF := Hid.mk HAL.out.fin
      have hal : ordI (a.size : Int) (b.size : Int) = ordK a b := by
        rw [HF.out]
        split
        · exact ordI_lt (by omega)
        · exact ordI_eq (by omega)
      have HO := Hid.mk hal
      clear hal
      go_wp2_with fail
      refine (cmpJ_any _ _ _).mono ?_
      rintro e w3 ⟨rfl, hw3⟩
      have hw4 := hw3.symm
      clear hw3
      subst hw4
      rw [HO.out]
      go_wp2_with fail
      go_ret
      exact ⟨rfl, hbw⟩

end Go.Proofs.YtmedljankefhbaaDoor

namespace Go.Proofs.YtmedljankefhbaaDoor
open Go.RowKit Go.Maps
abbrev q82b_17_4_0 : Oper := ⟨some 12, .load 32 (.tmp 4), 32, "l04_mem.go:72", #[], none⟩
abbrev q82b_17_4_1 : Oper := ⟨some 13, .call { callee := .value (.func 32), args := #[.tmp 12], argTypes := #[32] }, 4, "l04_mem.go:72", #[⟨0, .data⟩], none⟩
abbrev q82b_17_4_2 : Oper := ⟨some 14, .unOp .not 4 (.tmp 13), 4, "l04_mem.go:72", #[⟨1, .data⟩], none⟩
abbrev q82b_17_4_3 : Oper := ⟨some 15, .move (.tmp 14), 4, "l04_mem.go:72", #[⟨2, .data⟩, ⟨1, .chain⟩], none⟩
abbrev q82b_17_4_4 : Oper := ⟨some 16, .move (.tmp 3), 3, "l04_mem.go:72", #[⟨3, .guard⟩], some (3, false)⟩
abbrev q82b_17_4_5 : Oper := ⟨some 17, .binOp .gtr 3 (.tmp 16) (.const (.int .i64 0)) 3, 4, "l04_mem.go:72", #[⟨4, .data⟩, ⟨3, .guard⟩], some (3, false)⟩
abbrev q82b_17_4_6 : Oper := ⟨some 18, .move (.tmp 17), 4, "l04_mem.go:72", #[⟨5, .data⟩, ⟨3, .chain⟩, ⟨3, .guard⟩], some (3, false)⟩
abbrev q82b_17_4_7 : Oper := ⟨some 19, .move (.tmp 0), 24, "l04_mem.go:72", #[⟨6, .guard⟩], some (6, true)⟩
abbrev q82b_17_4_8 : Oper := ⟨some 20, .move (.tmp 3), 3, "l04_mem.go:72", #[⟨6, .guard⟩], some (6, true)⟩
abbrev q82b_17_4_9 : Oper := ⟨some 21, .binOp .sub 3 (.tmp 20) (.const (.int .i64 1)) 3, 3, "l04_mem.go:72", #[⟨8, .data⟩, ⟨6, .guard⟩], some (6, true)⟩
abbrev q82b_17_4_10 : Oper := ⟨some 22, .indexAddr 24 (.tmp 19) (.tmp 21), 0, "l04_mem.go:72", #[⟨7, .data⟩, ⟨9, .data⟩, ⟨6, .guard⟩], some (6, true)⟩
abbrev q82b_17_4_11 : Oper := ⟨some 23, .fieldAddr 32 (.tmp 22) 0, 0, "l04_mem.go:72", #[⟨10, .data⟩, ⟨6, .guard⟩], some (6, true)⟩
abbrev q82b_17_4_12 : Oper := ⟨some 24, .load 9 (.tmp 23), 9, "l04_mem.go:72", #[⟨11, .data⟩, ⟨6, .guard⟩], some (6, true)⟩
abbrev q82b_17_4_13 : Oper := ⟨some 25, .fieldAddr 32 (.tmp 4) 0, 0, "l04_mem.go:72", #[⟨6, .guard⟩], some (6, true)⟩
abbrev q82b_17_4_14 : Oper := ⟨some 26, .load 9 (.tmp 25), 9, "l04_mem.go:72", #[⟨13, .data⟩, ⟨6, .guard⟩], some (6, true)⟩
abbrev q82b_17_4_15 : Oper := ⟨some 27, .call { callee := .value (.func 33), args := #[.tmp 24, .tmp 26], argTypes := #[9, 9] }, 3, "l04_mem.go:72", #[⟨12, .data⟩, ⟨14, .data⟩, ⟨6, .chain⟩, ⟨6, .guard⟩], some (6, true)⟩
abbrev q82b_17_4_16 : Oper := ⟨some 28, .binOp .geq 3 (.tmp 27) (.const (.int .i64 0)) 3, 4, "l04_mem.go:72", #[⟨15, .data⟩, ⟨6, .guard⟩], some (6, true)⟩
abbrev q82b_17_4_17 : Oper := ⟨some 29, .pick (.tmp 18) (.tmp 28) (.const (.bool false)), 4, "l04_mem.go:72", #[⟨6, .data⟩, ⟨16, .data⟩, ⟨3, .guard⟩], some (3, false)⟩
abbrev q82b_17_4_18 : Oper := ⟨some 30, .pick (.tmp 15) (.const (.bool true)) (.tmp 29), 4, "l04_mem.go:72", #[⟨3, .data⟩, ⟨17, .data⟩], none⟩

theorem Tryd.infoPair : (Tryd.prog.info? 32).map (fun i => (i.zero, i.size, i.bytes)) = some (some (.agg #[.string ⟨#[]⟩, .string ⟨#[]⟩, .bool false]), 3, 40) := by kernel_rfl

set_option maxHeartbeats 4000000 in
theorem pairsOk_each (a : Option Addr) (n c : Nat) (l : List MPair) (w : World) (hx : l.length = n) (hn : n ≤ 200000000) (hL : LeafL 3 rPair w.heap.size w a c l) (hT : Tabs w) (hw : ∀ k, (h : k < l.length) → wPair l[k] ≤ 1048576) :
    Calls Tryd.prog 17 #[.slice a n c] w fun e w' => e = .returned (.bool (pairsOkP l)) ∧ Below w.heap.size w w' := by
  have HX := Hid.mk hx
  have HL := Hid.mk hL
  have HT := Hid.mk hT
  have HW := Hid.mk hw
  clear hx hL hT hw
  go_enter Tryd.func17, Tryd.ntmps17
  go_wp2_with fail
  go_loopw [7] (fun i wr => ∃ k : Nat, k ≤ n ∧ i = .int .i64 k ∧ Hid (pairsOkP l = upFrom (prevK l k) (l.drop k)) ∧ Below w.heap.size w wr) (fun i _ => n - (intOf i).toNat)
  case atStart => exact ⟨0, Nat.zero_le _, rfl, rfl, Below.refl _ _⟩
  case round =>
    obtain ⟨k, hk, rfl, HI, hbk⟩ := hrel
    have hbz := hbk.size
    by_cases hlt : k < n
    · have hkl : k < l.length := by rw [HX.out]; exact hlt
      obtain ⟨b1, o1, rfl, hB, cs, hcl, hcell, rfl, g0, g1, _, _⟩ := (HL.out.2.2.below rPair_good hbk) k hkl
      have hB' : b1 < wr.heap.size := by omega
      have k0 := hcell 0 _ rfl
      have k1 := hcell 1 _ rfl
      have k2 := hcell 2 _ rfl
      rw [Nat.add_zero] at k0
      have hwk : wPair l[k] ≤ 1048576 := HW.out k hkl
      have HB1 : Hid (pairOkP l[k] = false → pairsOkP l = false) := fun h => by rw [HI.out]; exact upFrom_bad1 hkl h
      have HB2 : Hid (okPrev (prevK l k) l[k].fKey = false → pairsOkP l = false) := fun h => by rw [HI.out]; exact upFrom_bad2 hkl h
      have HG : Hid (pairOkP l[k] = true → okPrev (prevK l k) l[k].fKey = true → pairsOkP l = upFrom (prevK l (k + 1)) (l.drop (k + 1))) := fun h1 h2 => by rw [HI.out]; exact upFrom_good hkl h1 h2
      clear hcell hcl
      obtain ⟨wp, hwp⟩ : ∃ wp, wp = wr.alloc (.cells #[.string l[k].fKey, .string l[k].fVal, .bool l[k].fGone] 32) := ⟨_, rfl⟩
      have hbp : Below wr.heap.size wr wp := by rw [hwp]; exact (Below.refl _ _).alloc (Nat.le_refl _) _
      have hbx : Bx wp wr.heap.size [.string l[k].fKey, .string l[k].fVal, .bool l[k].fGone] := by rw [hwp]; exact Bx.new _ _ _
      have hbwp := bthen hbk hbp
      have p0 : ∀ W, Below wp.heap.size wp W → W.cell? ⟨wr.heap.size, 0, none⟩ = some (.string l[k].fKey) := fun W hb => (hbx.under hb).2 0 _ rfl
      have p1 : ∀ W, Below wp.heap.size wp W → W.cell? ⟨wr.heap.size, 1, none⟩ = some (.string l[k].fVal) := fun W hb => (hbx.under hb).2 1 _ rfl
      have p2 : ∀ W, Below wp.heap.size wp W → W.cell? ⟨wr.heap.size, 2, none⟩ = some (.bool l[k].fGone) := fun W hb => (hbx.under hb).2 2 _ rfl
      have hCp := fun W (hb : Below wp.heap.size wp W) => implPairOk_c [.string l[k].fKey, .string l[k].fVal, .bool l[k].fGone] l[k] W ⟨rfl, g0, g1, trivial, trivial⟩ hwk
      by_cases hP : pairOkP l[k] = true
      · simp only [hP] at hCp
        by_cases h0 : k = 0
        · subst h0
          simp only [Nat.zero_mul, Nat.add_zero] at k0 k1 k2
          have HD : Hid (pairsOkP l = upFrom (prevK l (0 + 1)) (l.drop (0 + 1))) := HG.out hP rfl
          clear HB1 HB2 HG HI
          generalize l[0] = x at *
          go_wp2_with fail
          rw [← hwp]
          clear hwp
          refine wp_region_held_drew (S := fun W => Below wp.heap.size wp W) (by kernel_rfl) (Below.drew (Below.refl _ _)) (fun hHeld => ?_)
          refine tk 0 q82b_17_4_0 (some 12) (v := ?v1) rfl rfl (by kernel_rfl) hHeld (by rfl) (fun _ _ _ x => x) (fun w h => ?y1) ?_; (case y1 => (try dsimp only at h); go_simp; try (with_reducible rfl)); try simp only [Act.put, sa, s0, s1]
          refine wpAnyH_ready (rs := [1]) (by kernel_rfl) (by simp) ?_
          refine AllReadyH.cons (o := q82b_17_4_1) rfl (fun K hK => ?_) AllReadyH.nil
          go_simp
          refine Calls.mono (hCp _ hHeld) ?_
          rintro e w1 ⟨rfl, hx1⟩
          go_wp2_with fail
          refine hK.out _ _ (bthen hHeld hx1) (fun hHeld => ?_)
          clear hK K
          try simp only [Act.put, sa, s0, s1]
          refine tk 2 q82b_17_4_2 (some 14) (v := ?v2) rfl rfl (by kernel_rfl) hHeld (by rfl) (fun _ _ _ x => x) (fun w h => ?y2) ?_; (case y2 => (try dsimp only at h); go_simp; try (with_reducible rfl)); try simp only [Act.put, sa, s0, s1]
          refine tk 3 q82b_17_4_3 (some 15) (v := ?v3) rfl rfl (by kernel_rfl) hHeld (by rfl) (fun _ _ _ x => x) (fun w h => ?y3) ?_; (case y3 => (try dsimp only at h); go_simp; try (with_reducible rfl)); try simp only [Act.put, sa, s0, s1]
          refine tk 4 q82b_17_4_4 (some 16) (v := ?v4) rfl rfl (by kernel_rfl) hHeld (by rfl) (fun _ _ _ x => x) (fun w h => ?y4) ?_; (case y4 => (try dsimp only at h); go_simp; try (with_reducible rfl)); try simp only [Act.put, sa, s0, s1]
          refine tk 5 q82b_17_4_5 (some 17) (v := ?v5) rfl rfl (by kernel_rfl) hHeld (by rfl) (fun _ _ _ x => x) (fun w h => ?y5) ?_; (case y5 => (try dsimp only at h); go_simp; try (with_reducible rfl)); try simp only [Act.put, sa, s0, s1]
          refine tk 6 q82b_17_4_6 (some 18) (v := ?v6) rfl rfl (by kernel_rfl) hHeld (by rfl) (fun _ _ _ x => x) (fun w h => ?y6) ?_; (case y6 => (try dsimp only at h); go_simp; try (with_reducible rfl)); try simp only [Act.put, sa, s0, s1]
          refine tn 7 q82b_17_4_7 (some 19) rfl rfl (by kernel_rfl) hHeld (by rfl) (fun _ _ _ x => x) ?_; try simp only [Act.put, sa, s0, s1]
          refine tn 8 q82b_17_4_8 (some 20) rfl rfl (by kernel_rfl) hHeld (by rfl) (fun _ _ _ x => x) ?_; try simp only [Act.put, sa, s0, s1]
          refine tn 9 q82b_17_4_9 (some 21) rfl rfl (by kernel_rfl) hHeld (by rfl) (fun _ _ _ x => x) ?_; try simp only [Act.put, sa, s0, s1]
          refine tn 10 q82b_17_4_10 (some 22) rfl rfl (by kernel_rfl) hHeld (by rfl) (fun _ _ _ x => x) ?_; try simp only [Act.put, sa, s0, s1]
          refine tn 11 q82b_17_4_11 (some 23) rfl rfl (by kernel_rfl) hHeld (by rfl) (fun _ _ _ x => x) ?_; try simp only [Act.put, sa, s0, s1]
          refine tn 12 q82b_17_4_12 (some 24) rfl rfl (by kernel_rfl) hHeld (by rfl) (fun _ _ _ x => x) ?_; try simp only [Act.put, sa, s0, s1]
          refine tn 13 q82b_17_4_13 (some 25) rfl rfl (by kernel_rfl) hHeld (by rfl) (fun _ _ _ x => x) ?_; try simp only [Act.put, sa, s0, s1]
          refine tn 14 q82b_17_4_14 (some 26) rfl rfl (by kernel_rfl) hHeld (by rfl) (fun _ _ _ x => x) ?_; try simp only [Act.put, sa, s0, s1]
          refine tn 15 q82b_17_4_15 (some 27) rfl rfl (by kernel_rfl) hHeld (by rfl) (fun _ _ _ x => x) ?_; try simp only [Act.put, sa, s0, s1]
          refine tn 16 q82b_17_4_16 (some 28) rfl rfl (by kernel_rfl) hHeld (by rfl) (fun _ _ _ x => x) ?_; try simp only [Act.put, sa, s0, s1]
          refine tk 17 q82b_17_4_17 (some 29) (v := ?v17) rfl rfl (by kernel_rfl) hHeld (by rfl) (fun _ _ _ x => x) (fun w h => ?y17) ?_; (case y17 => (try dsimp only at h); go_simp; try (with_reducible rfl)); try simp only [Act.put, sa, s0, s1]
          refine tk 18 q82b_17_4_18 (some 30) (v := ?v18) rfl rfl (by kernel_rfl) hHeld (by rfl) (fun _ _ _ x => x) (fun w h => ?y18) ?_; (case y18 => (try dsimp only at h); go_simp; try (with_reducible rfl)); try simp only [Act.put, sa, s0, s1]
          refine wpAnyH_done (by kernel_rfl) ?_ _
          go_wp2_with fail
          go_roundw
          case rel => exact ⟨1, by omega, by go_num, HD, bthen hbwp hHeld⟩
          case measure => simp [intOf]; omega
        · obtain ⟨j, rfl⟩ : ∃ j, k = j + 1 := ⟨k - 1, by omega⟩
          have hjl : j < l.length := by omega
          obtain ⟨b1', o1', he1, _, cs', hcl', hcell', rfl, g0', g1', _, _⟩ := (HL.out.2.2.below rPair_good hbk) j hjl
          simp only [Option.some.injEq, Addr.mk.injEq, and_true] at he1
          obtain ⟨rfl, rfl⟩ := he1
          have j0 := hcell' 0 _ rfl
          rw [Nat.add_zero] at j0
          have q0 : ∀ W, Below wp.heap.size wp W → W.cell? ⟨b1, o1 + j * 3, none⟩ = some (.string l[j].fKey) := fun W hb => ((bthen hbp hb).cell (p := ⟨b1, o1 + j * 3, none⟩) hB').trans j0
          have HPK : Hid (okPrev (prevK l (j + 1)) l[j + 1].fKey = kLt l[j].fKey l[j + 1].fKey) := by show _ = _; rw [prevK_succ hjl]; rfl
          have hCk := fun W (hb : Below wp.heap.size wp W) => keyOrder_any l[j].fKey l[j + 1].fKey W (HT.out.below (bthen hbwp hb)) g0' g0
          have hj1 : (0 : Int) ≤ (j : Int) := by omega
          have hj2 : (j : Int) < (n : Int) := by omega
          have hwr : IntKind.i64.wrap (j : Int) = (j : Int) := by rw [IntKind.wrap_i64]; omega
          clear hcell' hcl' j0
          by_cases hK : kLt l[j].fKey l[j + 1].fKey = true
          · simp only [ordK_lt hK] at hCk
            have HD : Hid (pairsOkP l = upFrom (prevK l (j + 1 + 1)) (l.drop (j + 1 + 1))) := HG.out hP (by rw [HPK.out]; exact hK)
            clear HB1 HB2 HG HI HPK
            generalize l[j + 1] = x at *
            generalize l[j] = y at *
            go_wp2_with fail
            rw [← hwp]
            clear hwp
            refine wp_region_held_drew (S := fun W => Below wp.heap.size wp W) (by kernel_rfl) (Below.drew (Below.refl _ _)) (fun hHeld => ?_)
            refine tk 0 q82b_17_4_0 (some 12) (v := ?v19) rfl rfl (by kernel_rfl) hHeld (by rfl) (fun _ _ _ x => x) (fun w h => ?y19) ?_; (case y19 => (try dsimp only at h); go_simp; try (with_reducible rfl)); try simp only [Act.put, sa, s0, s1]
            refine wpAnyH_ready (rs := [1]) (by kernel_rfl) (by simp) ?_
            refine AllReadyH.cons (o := q82b_17_4_1) rfl (fun K hK => ?_) AllReadyH.nil
            go_simp
            refine Calls.mono (hCp _ hHeld) ?_
            rintro e w1 ⟨rfl, hx1⟩
            go_wp2_with fail
            refine hK.out _ _ (bthen hHeld hx1) (fun hHeld => ?_)
            clear hK K
            try simp only [Act.put, sa, s0, s1]
            refine tk 2 q82b_17_4_2 (some 14) (v := ?v20) rfl rfl (by kernel_rfl) hHeld (by rfl) (fun _ _ _ x => x) (fun w h => ?y20) ?_; (case y20 => (try dsimp only at h); go_simp; try (with_reducible rfl)); try simp only [Act.put, sa, s0, s1]
            refine tk 3 q82b_17_4_3 (some 15) (v := ?v21) rfl rfl (by kernel_rfl) hHeld (by rfl) (fun _ _ _ x => x) (fun w h => ?y21) ?_; (case y21 => (try dsimp only at h); go_simp; try (with_reducible rfl)); try simp only [Act.put, sa, s0, s1]
            refine tk 4 q82b_17_4_4 (some 16) (v := ?v22) rfl rfl (by kernel_rfl) hHeld (by rfl) (fun _ _ _ x => x) (fun w h => ?y22) ?_; (case y22 => (try dsimp only at h); go_simp; try (with_reducible rfl)); try simp only [Act.put, sa, s0, s1]
            refine tk 5 q82b_17_4_5 (some 17) (v := ?v23) rfl rfl (by kernel_rfl) hHeld (by rfl) (fun _ _ _ x => x) (fun w h => ?y23) ?_; (case y23 => (try dsimp only at h); go_simp; try (with_reducible rfl)); try simp only [Act.put, sa, s0, s1]
            refine tk 6 q82b_17_4_6 (some 18) (v := ?v24) rfl rfl (by kernel_rfl) hHeld (by rfl) (fun _ _ _ x => x) (fun w h => ?y24) ?_; (case y24 => (try dsimp only at h); go_simp; try (with_reducible rfl)); try simp only [Act.put, sa, s0, s1]
            refine tk 7 q82b_17_4_7 (some 19) (v := ?v25) rfl rfl (by kernel_rfl) hHeld (by rfl) (fun _ _ _ x => x) (fun w h => ?y25) ?_; (case y25 => (try dsimp only at h); go_simp; try (with_reducible rfl)); try simp only [Act.put, sa, s0, s1]
            refine tk 8 q82b_17_4_8 (some 20) (v := ?v26) rfl rfl (by kernel_rfl) hHeld (by rfl) (fun _ _ _ x => x) (fun w h => ?y26) ?_; (case y26 => (try dsimp only at h); go_simp; try (with_reducible rfl)); try simp only [Act.put, sa, s0, s1]
            refine tk 9 q82b_17_4_9 (some 21) (v := ?v27) rfl rfl (by kernel_rfl) hHeld (by rfl) (fun _ _ _ x => x) (fun w h => ?y27) ?_; (case y27 => (try dsimp only at h); go_simp; try (with_reducible rfl)); try simp only [Act.put, sa, s0, s1]
            refine tk 10 q82b_17_4_10 (some 22) (v := ?v28) rfl rfl (by kernel_rfl) hHeld (by rfl) (fun _ _ _ x => x) (fun w h => ?y28) ?_; (case y28 => (try dsimp only at h); go_simp; try (with_reducible rfl)); try simp only [Act.put, sa, s0, s1]
            refine tk 11 q82b_17_4_11 (some 23) (v := ?v29) rfl rfl (by kernel_rfl) hHeld (by rfl) (fun _ _ _ x => x) (fun w h => ?y29) ?_; (case y29 => (try dsimp only at h); go_simp; try (with_reducible rfl)); try simp only [Act.put, sa, s0, s1]
            refine tk 12 q82b_17_4_12 (some 24) (v := ?v30) rfl rfl (by kernel_rfl) hHeld (by rfl) (fun _ _ _ x => x) (fun w h => ?y30) ?_; (case y30 => (try dsimp only at h); go_simp; try (with_reducible rfl)); try simp only [Act.put, sa, s0, s1]
            refine tk 13 q82b_17_4_13 (some 25) (v := ?v31) rfl rfl (by kernel_rfl) hHeld (by rfl) (fun _ _ _ x => x) (fun w h => ?y31) ?_; (case y31 => (try dsimp only at h); go_simp; try (with_reducible rfl)); try simp only [Act.put, sa, s0, s1]
            refine tk 14 q82b_17_4_14 (some 26) (v := ?v32) rfl rfl (by kernel_rfl) hHeld (by rfl) (fun _ _ _ x => x) (fun w h => ?y32) ?_; (case y32 => (try dsimp only at h); go_simp; try (with_reducible rfl)); try simp only [Act.put, sa, s0, s1]
            refine wpAnyH_ready (rs := [15]) (by kernel_rfl) (by simp) ?_
            refine AllReadyH.cons (o := q82b_17_4_15) rfl (fun K hK => ?_) AllReadyH.nil
            go_simp
            refine Calls.mono (hCk _ hHeld) ?_
            rintro e w2 ⟨rfl, hx2⟩
            go_wp2_with fail
            refine hK.out _ _ (bthen hHeld hx2) (fun hHeld => ?_)
            clear hK K
            try simp only [Act.put, sa, s0, s1]
            refine tk 16 q82b_17_4_16 (some 28) (v := ?v33) rfl rfl (by kernel_rfl) hHeld (by rfl) (fun _ _ _ x => x) (fun w h => ?y33) ?_; (case y33 => (try dsimp only at h); go_simp; try (with_reducible rfl)); try simp only [Act.put, sa, s0, s1]
            refine tk 17 q82b_17_4_17 (some 29) (v := ?v34) rfl rfl (by kernel_rfl) hHeld (by rfl) (fun _ _ _ x => x) (fun w h => ?y34) ?_; (case y34 => (try dsimp only at h); go_simp; try (with_reducible rfl)); try simp only [Act.put, sa, s0, s1]
            refine tk 18 q82b_17_4_18 (some 30) (v := ?v35) rfl rfl (by kernel_rfl) hHeld (by rfl) (fun _ _ _ x => x) (fun w h => ?y35) ?_; (case y35 => (try dsimp only at h); go_simp; try (with_reducible rfl)); try simp only [Act.put, sa, s0, s1]
            refine wpAnyH_done (by kernel_rfl) ?_ _
            go_wp2_with fail
            go_roundw
            case rel => exact ⟨j + 1 + 1, by omega, by go_num, HD, bthen hbwp hHeld⟩
            case measure => simp [intOf]; omega
          · have hK2 : kLt l[j].fKey l[j + 1].fKey = false := Bool.eq_false_iff.2 hK
            have HD : Hid (pairsOkP l = false) := HB2.out (by rw [HPK.out]; exact hK2)
            have ho : 0 ≤ ordK l[j].fKey l[j + 1].fKey := by unfold ordK; rw [hK2]; simp; split <;> omega
            clear HB1 HB2 HG HI HPK
            generalize l[j + 1] = x at *
            generalize l[j] = y at *
            generalize ordK y.fKey x.fKey = od at *
            go_wp2_with fail
            rw [← hwp]
            clear hwp
            refine wp_region_held_drew (S := fun W => Below wp.heap.size wp W) (by kernel_rfl) (Below.drew (Below.refl _ _)) (fun hHeld => ?_)
            refine tk 0 q82b_17_4_0 (some 12) (v := ?v36) rfl rfl (by kernel_rfl) hHeld (by rfl) (fun _ _ _ x => x) (fun w h => ?y36) ?_; (case y36 => (try dsimp only at h); go_simp; try (with_reducible rfl)); try simp only [Act.put, sa, s0, s1]
            refine wpAnyH_ready (rs := [1]) (by kernel_rfl) (by simp) ?_
            refine AllReadyH.cons (o := q82b_17_4_1) rfl (fun K hK => ?_) AllReadyH.nil
            go_simp
            refine Calls.mono (hCp _ hHeld) ?_
            rintro e w1 ⟨rfl, hx1⟩
            go_wp2_with fail
            refine hK.out _ _ (bthen hHeld hx1) (fun hHeld => ?_)
            clear hK K
            try simp only [Act.put, sa, s0, s1]
            refine tk 2 q82b_17_4_2 (some 14) (v := ?v37) rfl rfl (by kernel_rfl) hHeld (by rfl) (fun _ _ _ x => x) (fun w h => ?y37) ?_; (case y37 => (try dsimp only at h); go_simp; try (with_reducible rfl)); try simp only [Act.put, sa, s0, s1]
            refine tk 3 q82b_17_4_3 (some 15) (v := ?v38) rfl rfl (by kernel_rfl) hHeld (by rfl) (fun _ _ _ x => x) (fun w h => ?y38) ?_; (case y38 => (try dsimp only at h); go_simp; try (with_reducible rfl)); try simp only [Act.put, sa, s0, s1]
            refine tk 4 q82b_17_4_4 (some 16) (v := ?v39) rfl rfl (by kernel_rfl) hHeld (by rfl) (fun _ _ _ x => x) (fun w h => ?y39) ?_; (case y39 => (try dsimp only at h); go_simp; try (with_reducible rfl)); try simp only [Act.put, sa, s0, s1]
            refine tk 5 q82b_17_4_5 (some 17) (v := ?v40) rfl rfl (by kernel_rfl) hHeld (by rfl) (fun _ _ _ x => x) (fun w h => ?y40) ?_; (case y40 => (try dsimp only at h); go_simp; try (with_reducible rfl)); try simp only [Act.put, sa, s0, s1]
            refine tk 6 q82b_17_4_6 (some 18) (v := ?v41) rfl rfl (by kernel_rfl) hHeld (by rfl) (fun _ _ _ x => x) (fun w h => ?y41) ?_; (case y41 => (try dsimp only at h); go_simp; try (with_reducible rfl)); try simp only [Act.put, sa, s0, s1]
            refine tk 7 q82b_17_4_7 (some 19) (v := ?v42) rfl rfl (by kernel_rfl) hHeld (by rfl) (fun _ _ _ x => x) (fun w h => ?y42) ?_; (case y42 => (try dsimp only at h); go_simp; try (with_reducible rfl)); try simp only [Act.put, sa, s0, s1]
            refine tk 8 q82b_17_4_8 (some 20) (v := ?v43) rfl rfl (by kernel_rfl) hHeld (by rfl) (fun _ _ _ x => x) (fun w h => ?y43) ?_; (case y43 => (try dsimp only at h); go_simp; try (with_reducible rfl)); try simp only [Act.put, sa, s0, s1]
            refine tk 9 q82b_17_4_9 (some 21) (v := ?v44) rfl rfl (by kernel_rfl) hHeld (by rfl) (fun _ _ _ x => x) (fun w h => ?y44) ?_; (case y44 => (try dsimp only at h); go_simp; try (with_reducible rfl)); try simp only [Act.put, sa, s0, s1]
            refine tk 10 q82b_17_4_10 (some 22) (v := ?v45) rfl rfl (by kernel_rfl) hHeld (by rfl) (fun _ _ _ x => x) (fun w h => ?y45) ?_; (case y45 => (try dsimp only at h); go_simp; try (with_reducible rfl)); try simp only [Act.put, sa, s0, s1]
            refine tk 11 q82b_17_4_11 (some 23) (v := ?v46) rfl rfl (by kernel_rfl) hHeld (by rfl) (fun _ _ _ x => x) (fun w h => ?y46) ?_; (case y46 => (try dsimp only at h); go_simp; try (with_reducible rfl)); try simp only [Act.put, sa, s0, s1]
            refine tk 12 q82b_17_4_12 (some 24) (v := ?v47) rfl rfl (by kernel_rfl) hHeld (by rfl) (fun _ _ _ x => x) (fun w h => ?y47) ?_; (case y47 => (try dsimp only at h); go_simp; try (with_reducible rfl)); try simp only [Act.put, sa, s0, s1]
            refine tk 13 q82b_17_4_13 (some 25) (v := ?v48) rfl rfl (by kernel_rfl) hHeld (by rfl) (fun _ _ _ x => x) (fun w h => ?y48) ?_; (case y48 => (try dsimp only at h); go_simp; try (with_reducible rfl)); try simp only [Act.put, sa, s0, s1]
            refine tk 14 q82b_17_4_14 (some 26) (v := ?v49) rfl rfl (by kernel_rfl) hHeld (by rfl) (fun _ _ _ x => x) (fun w h => ?y49) ?_; (case y49 => (try dsimp only at h); go_simp; try (with_reducible rfl)); try simp only [Act.put, sa, s0, s1]
            refine wpAnyH_ready (rs := [15]) (by kernel_rfl) (by simp) ?_
            refine AllReadyH.cons (o := q82b_17_4_15) rfl (fun K hK => ?_) AllReadyH.nil
            go_simp
            refine Calls.mono (hCk _ hHeld) ?_
            rintro e w2 ⟨rfl, hx2⟩
            go_wp2_with fail
            refine hK.out _ _ (bthen hHeld hx2) (fun hHeld => ?_)
            clear hK K
            try simp only [Act.put, sa, s0, s1]
            refine tk 16 q82b_17_4_16 (some 28) (v := ?v50) rfl rfl (by kernel_rfl) hHeld (by rfl) (fun _ _ _ x => x) (fun w h => ?y50) ?_; (case y50 => (try dsimp only at h); go_simp; try (with_reducible rfl)); try simp only [Act.put, sa, s0, s1]
            refine tk 17 q82b_17_4_17 (some 29) (v := ?v51) rfl rfl (by kernel_rfl) hHeld (by rfl) (fun _ _ _ x => x) (fun w h => ?y51) ?_; (case y51 => (try dsimp only at h); go_simp; try (with_reducible rfl)); try simp only [Act.put, sa, s0, s1]
            refine tk 18 q82b_17_4_18 (some 30) (v := ?v52) rfl rfl (by kernel_rfl) hHeld (by rfl) (fun _ _ _ x => x) (fun w h => ?y52) ?_; (case y52 => (try dsimp only at h); go_simp; try (with_reducible rfl)); try simp only [Act.put, sa, s0, s1]
            refine wpAnyH_done (by kernel_rfl) ?_ _
            go_wp2_with fail
            go_ret
            exact ⟨by rw [HD.out]; rfl, bthen hbwp hHeld⟩
      · have hP2 : pairOkP l[k] = false := Bool.eq_false_iff.2 hP
        have HD : Hid (pairsOkP l = false) := HB1.out hP2
        simp only [hP2] at hCp
        clear HB1 HB2 HG HI
        generalize l[k] = x at *
        go_wp2_with fail
        rw [← hwp]
        clear hwp
        refine wp_region_held_drew (S := fun W => Below wp.heap.size wp W) (by kernel_rfl) (Below.drew (Below.refl _ _)) (fun hHeld => ?_)
        refine tk 0 q82b_17_4_0 (some 12) (v := ?v53) rfl rfl (by kernel_rfl) hHeld (by rfl) (fun _ _ _ x => x) (fun w h => ?y53) ?_; (case y53 => (try dsimp only at h); go_simp; try (with_reducible rfl)); try simp only [Act.put, sa, s0, s1]
        refine wpAnyH_ready (rs := [1]) (by kernel_rfl) (by simp) ?_
        refine AllReadyH.cons (o := q82b_17_4_1) rfl (fun K hK => ?_) AllReadyH.nil
        go_simp
        refine Calls.mono (hCp _ hHeld) ?_
        rintro e w1 ⟨rfl, hx1⟩
        go_wp2_with fail
        refine hK.out _ _ (bthen hHeld hx1) (fun hHeld => ?_)
        clear hK K
        try simp only [Act.put, sa, s0, s1]
        refine tk 2 q82b_17_4_2 (some 14) (v := ?v54) rfl rfl (by kernel_rfl) hHeld (by rfl) (fun _ _ _ x => x) (fun w h => ?y54) ?_; (case y54 => (try dsimp only at h); go_simp; try (with_reducible rfl)); try simp only [Act.put, sa, s0, s1]
        refine tk 3 q82b_17_4_3 (some 15) (v := ?v55) rfl rfl (by kernel_rfl) hHeld (by rfl) (fun _ _ _ x => x) (fun w h => ?y55) ?_; (case y55 => (try dsimp only at h); go_simp; try (with_reducible rfl)); try simp only [Act.put, sa, s0, s1]
        refine tn 4 q82b_17_4_4 (some 16) rfl rfl (by kernel_rfl) hHeld (by rfl) (fun _ _ _ x => x) ?_; try simp only [Act.put, sa, s0, s1]
        refine tn 5 q82b_17_4_5 (some 17) rfl rfl (by kernel_rfl) hHeld (by rfl) (fun _ _ _ x => x) ?_; try simp only [Act.put, sa, s0, s1]
        refine tn 6 q82b_17_4_6 (some 18) rfl rfl (by kernel_rfl) hHeld (by rfl) (fun _ _ _ x => x) ?_; try simp only [Act.put, sa, s0, s1]
        refine tn 7 q82b_17_4_7 (some 19) rfl rfl (by kernel_rfl) hHeld (by rfl) (fun _ _ _ x => x) ?_; try simp only [Act.put, sa, s0, s1]
        refine tn 8 q82b_17_4_8 (some 20) rfl rfl (by kernel_rfl) hHeld (by rfl) (fun _ _ _ x => x) ?_; try simp only [Act.put, sa, s0, s1]
        refine tn 9 q82b_17_4_9 (some 21) rfl rfl (by kernel_rfl) hHeld (by rfl) (fun _ _ _ x => x) ?_; try simp only [Act.put, sa, s0, s1]
        refine tn 10 q82b_17_4_10 (some 22) rfl rfl (by kernel_rfl) hHeld (by rfl) (fun _ _ _ x => x) ?_; try simp only [Act.put, sa, s0, s1]
        refine tn 11 q82b_17_4_11 (some 23) rfl rfl (by kernel_rfl) hHeld (by rfl) (fun _ _ _ x => x) ?_; try simp only [Act.put, sa, s0, s1]
        refine tn 12 q82b_17_4_12 (some 24) rfl rfl (by kernel_rfl) hHeld (by rfl) (fun _ _ _ x => x) ?_; try simp only [Act.put, sa, s0, s1]
        refine tn 13 q82b_17_4_13 (some 25) rfl rfl (by kernel_rfl) hHeld (by rfl) (fun _ _ _ x => x) ?_; try simp only [Act.put, sa, s0, s1]
        refine tn 14 q82b_17_4_14 (some 26) rfl rfl (by kernel_rfl) hHeld (by rfl) (fun _ _ _ x => x) ?_; try simp only [Act.put, sa, s0, s1]
        refine tn 15 q82b_17_4_15 (some 27) rfl rfl (by kernel_rfl) hHeld (by rfl) (fun _ _ _ x => x) ?_; try simp only [Act.put, sa, s0, s1]
        refine tn 16 q82b_17_4_16 (some 28) rfl rfl (by kernel_rfl) hHeld (by rfl) (fun _ _ _ x => x) ?_; try simp only [Act.put, sa, s0, s1]
        refine tn 17 q82b_17_4_17 (some 29) rfl rfl (by kernel_rfl) hHeld (by rfl) (fun _ _ _ x => x) ?_; try simp only [Act.put, sa, s0, s1]
        refine tk 18 q82b_17_4_18 (some 30) (v := ?v70) rfl rfl (by kernel_rfl) hHeld (by rfl) (fun _ _ _ x => x) (fun w h => ?y70) ?_; (case y70 => (try dsimp only at h); go_simp; try (with_reducible rfl)); try simp only [Act.put, sa, s0, s1]
        refine wpAnyH_done (by kernel_rfl) ?_ _
        go_wp2_with fail
        go_ret
        exact ⟨by rw [HD.out]; rfl, bthen hbwp hHeld⟩
    · have HD : Hid (pairsOkP l = true) := by show _ = _; rw [HI.out]; exact upFrom_end (by rw [HX.out]; omega)
      go_wp2_with fail
      go_ret
      exact ⟨by rw [HD.out]; rfl, hbk⟩

theorem pairsOk_any (a : Option Addr) (n c : Nat) (l : List MPair) (w : World) (hx : l.length = n) (hn : n ≤ 1048576) (hL : LeafL 3 rPair w.heap.size w a c l) (hT : Tabs w) (hw : sumW wPair l ≤ 1048576) :
    Calls Tryd.prog 17 #[.slice a n c] w fun e w' => e = .returned (.bool (pairsOkP l)) ∧ Below w.heap.size w w' :=
  pairsOk_each a n c l w hx (by omega) hL hT (fun k h => Nat.le_trans (sumW_le (f := wPair) h) hw)

end Go.Proofs.YtmedljankefhbaaDoor

namespace Go.Proofs.YtmedljankefhbaaDoor
open Go.RowKit

theorem wpList_append_src_at {P : Program} {w : World} {ops : Array Oper} {rest : List Oper} {o : Oper} {a : Act} {Q : Exit → Act → World → Prop} (hgd : o.guard = none) (s x : Operand) (t tx : TypeId)
    (ho : o.op = .call { callee := .builtin .append, args := #[s, x], argTypes := #[t, tx] })
    (base : Nat) (e : TypeId) (i : TypeInfo) (z : Value) (size bytes : Nat) (ht : P.underlying t = some (.slice e)) (hi : P.info? e = some i) (hz : i.zero = some z)
    (hsize : i.size = size) (hby : i.bytes = bytes) (hzs : z.cells.size = size)
    (v : Value) (n : Nat) (xs : List Value) (hs : a.eval s = v) (hown : w.ownsRow base e size v n xs)
    (y : Value) (hy : a.eval x = y) (m : Nat) (news : List Value) (hx : Src P size tx y m news w)
    (h63 : n + m ≤ maxLen) (hbytes : (n + m) * bytes ≤ 140737488355328) (hbase : base ≤ w.heap.size)
    (h : ∀ v' w', w'.ownsRow base e size v' (n + m) (xs ++ news) → w.grownBy w' v.ownBlock → (v'.ownBlock = v.ownBlock ∨ v'.ownBlock = some w.heap.size) → wpList P ops Q rest (a.put o.dst v') w') :
    wpList P ops Q (o :: rest) a w := by
  refine wpList_plain hgd fun K hK => ?_
  obtain ⟨v', w', hr, h2, h3, h4⟩ := run_append_src_at (P := P) w base t tx o.type e i z size bytes ht hi hz hsize hby hzs v n xs hown y m news hx h63 hbytes hbase
  unfold Oper.wp execOp
  simp only [ho, resolve, invoke, builtin, Sem.run_bind, Sem.run_pure, Result.andThen_ok, List.map_toArray, List.map_cons, List.map_nil, hs, hy, hr]
  exact hK _ _ (h v' w' h2 h3 h4)

/-- Two rows do not lie in one block. -/
def Dis (u v : Value) : Prop := ∀ k, u.ownBlock = some k → v.ownBlock = some k → False
theorem Dis.symm {u v : Value} (h : Dis u v) : Dis v u := fun k h1 h2 => h k h2 h1
theorem own_other {w w' : World} {base e size n : Nat} {u v : Value} {xs : List Value} (h : w.ownsRow base e size v n xs) (hg : w.grownBy w' u.ownBlock) (hd : Dis u v) : w'.ownsRow base e size v n xs :=
  own_of_block h (fun k hk => hg.block k (h.lt k hk).2 (fun e => hd k e.symm hk))
theorem dis_app {w : World} {base e size n : Nat} {u u' v : Value} {xs : List Value} (ha : u'.ownBlock = u.ownBlock ∨ u'.ownBlock = some w.heap.size) (h : w.ownsRow base e size v n xs) (hd : Dis u v) : Dis u' v := by
  intro k h1 h2
  rcases ha with ha | ha
  · exact hd k (ha ▸ h1) h2
  · rw [ha] at h1
    have := (h.lt k h2).2
    simp at h1
    omega
theorem dis_nil (v : Value) : Dis (.slice none 0 0) v := fun k h => by simp [Value.ownBlock] at h

/-- A part of a list that is read. -/
theorem LeafL.sub {α : Type} {size : Nat} {R : Rep α} {B : Nat} {w : World} {b o c : Nat} {l : List α} (h : LeafL size R B w (some ⟨b, o, none⟩) c l) {f m c' : Nat} (hf : f + m ≤ l.length) (hm : m ≤ c') (hc : c' ≤ 9223372036854775807) :
    LeafL size R B w (some ⟨b, o + f * size, none⟩) c' ((l.drop f).take m) := by
  have hl : ((l.drop f).take m).length = m := by simp; omega
  refine ⟨by omega, hc, fun j hj => ?_⟩
  rw [hl] at hj
  obtain ⟨b1, o1, e, hb, cs, h1, h2, h3⟩ := h.2.2 (f + j) (by omega)
  simp only [Option.some.injEq, Addr.mk.injEq, and_true] at e
  obtain ⟨rfl, rfl⟩ := e
  refine ⟨b, o + f * size, rfl, hb, cs, h1, fun i u hu => ?_, ?_⟩
  · have := h2 i u hu
    rw [← this]
    congr 2
    rw [Nat.add_mul]
    omega
  · have e : ((l.drop f).take m)[j]'(by rw [hl]; exact hj) = l[f + j] := by simp
    rw [e]
    exact h3



theorem blk_length {l : List MPair} {i : Nat} : (blk l i).length = min 4 (l.length - 4 * i) := by simp [blk]
theorem lastK_concat (k : ByteArray) (l : List MPair) (h : 0 < l.length) : lastK k l = (l[l.length - 1]'(by omega)).fKey := by
  rcases List.eq_nil_or_concat l with rfl | ⟨l', p, rfl⟩
  · simp at h
  · simp only [List.concat_eq_append]
    rw [lastK_snoc]
    simp
theorem blk_last {l : List MPair} {i t : Nat} (h : 4 * i < l.length) (ht : t = min (4 * i + 4) l.length) (hl : t - 1 < l.length) : lastK ByteArray.empty (blk l i) = l[t - 1].fKey := by
  have hb := blk_length (l := l) (i := i)
  rw [lastK_concat _ _ (by omega)]
  congr 1
  simp only [blk, List.getElem_take, List.getElem_drop]
  congr 1
  simp
  omega
theorem blk_weight (l : List MPair) (i : Nat) : sumW wPair (blk l i) ≤ sumW wPair l := sumW_sublist' ((List.take_sublist _ _).trans (List.drop_sublist _ _))
theorem frame_len (zs : List Int) : (frame zs).length ≤ zs.length + 9 := by
  have := (putNum_length (clampN zs.length)).2
  simp only [frame, List.length_append, four_length]
  omega
theorem frame_ok {zs : List Int} (h : BytesOk zs) : BytesOk (frame zs) := ((four_ok (crc_bd h).1 (crc_bd h).2).append (putNum_ok _)).append h
theorem outB_ok (l : List MPair) (i : Nat) : BytesOk (outB l i) := by
  induction i with
  | zero => intro z hz; cases hz
  | succ i ih => exact ih.append (frame_ok (blockB_ok _ _))
theorem blk_bd {l : List MPair} (hw : sumW wPair l ≤ 1048576) (i : Nat) : (blockB ByteArray.empty (blk l i)).length ≤ 1048640 := by
  have h1 := blockB_len ByteArray.empty (blk l i)
  have h2 := blk_weight l i
  have h3 := blk_length (l := l) (i := i)
  omega
theorem outB_len {l : List MPair} (hw : sumW wPair l ≤ 1048576) (i : Nat) : (outB l i).length ≤ 1048649 * i := by
  induction i with
  | zero => simp [outB]
  | succ i ih =>
    have h1 := frame_len (blockB ByteArray.empty (blk l i))
    have h2 := blk_bd hw i
    simp only [outB, List.length_append]
    omega
/-- What the index says of the first blocks. -/
def marksB (l : List MPair) : Nat → List (ByteArray × Int)
  | 0 => []
  | i + 1 => marksB l i ++ [(lastK ByteArray.empty (blk l i), ((outB l i).length : Int))]
theorem marksB_length (l : List MPair) (i : Nat) : (marksB l i).length = i := by
  induction i with
  | zero => rfl
  | succ i ih => simp [marksB, ih]
theorem lastK_wt (l : List MPair) : (lastK ByteArray.empty l).size ≤ sumW wPair l := by
  rcases Nat.eq_zero_or_pos l.length with h | h
  · rw [List.eq_nil_of_length_eq_zero h]; exact Nat.zero_le _
  · rw [lastK_concat _ _ h]
    have h1 := sumW_le (f := wPair) (l := l) (k := l.length - 1) (by omega)
    have h2 : wPair (l[l.length - 1]'(by omega)) = (l[l.length - 1]'(by omega)).fKey.size + (l[l.length - 1]'(by omega)).fVal.size := rfl
    omega
theorem marksB_small {l : List MPair} (hw : sumW wPair l ≤ 1048576) (i : Nat) : ∀ m, m ∈ marksB l i → m.1.size ≤ 1048576 := by
  induction i with
  | zero => intro m hm; cases hm
  | succ i ih =>
    intro m hm
    simp only [marksB, List.mem_append, List.mem_singleton] at hm
    rcases hm with hm | rfl
    · exact ih m hm
    · have h1 := lastK_wt (blk l i)
      have h2 := blk_weight l i
      simp only
      omega
def tabOk (l : List MPair) : Bool := pairsOkP l && decide (1 ≤ l.length ∧ l.length ≤ 200)
def tabP (l : List MPair) : List Int := if tabOk l then tabB l else []
theorem tabP_yes {l : List MPair} (h1 : pairsOkP l = true) (h2 : 1 ≤ l.length) (h3 : l.length ≤ 200) : tabP l = tabB l := by
  unfold tabP tabOk
  rw [h1, decide_eq_true ⟨h2, h3⟩]
  rfl
theorem tabP_bad {l : List MPair} (h1 : pairsOkP l = false) : tabP l = [] := by
  unfold tabP tabOk
  rw [h1]
  rfl
theorem tabP_out {l : List MPair} (h : ¬ (1 ≤ l.length ∧ l.length ≤ 200)) : tabP l = [] := by
  unfold tabP tabOk
  rw [decide_eq_false h, Bool.and_false]
  rfl


theorem com_eq {a b : ByteArray} {k : Nat} (ha : k ≤ a.size) (hb : k ≤ b.size) (h : ∀ j, j < k → a.data.toList[j]? = b.data.toList[j]?) (he : k = a.size ∨ k = b.size ∨ a.data.toList[k]? ≠ b.data.toList[k]?) : com a b = k :=
  comL_eq _ _ k (by simpa using ha) (by simpa using hb) h (by simpa using he)
theorem byte_at {s : ByteArray} {k : Nat} (h : k < s.size) : s.data.toList[k]? = some s[k] := by
  have h2 : k < s.data.toList.length := by simpa using h
  rw [List.getElem?_eq_getElem h2]
  rfl

set_option maxHeartbeats 800000 in
theorem implCom_any (a b : ByteArray) (w : World) (ha : a.size ≤ 9223372036854775807) (hb : b.size ≤ 9223372036854775807) :
    Calls Tryd.prog 35 #[.string a, .string b] w fun e w' => e = .returned (.int .i64 (com a b)) ∧ Below w.heap.size w w' := by
  go_enter Tryd.func35, Tryd.ntmps35
  go_wp2_with fail
  go_loopw [5] (fun i wr => ∃ k : Nat, k ≤ a.size ∧ k ≤ b.size ∧ i = .int .i64 k ∧ (∀ j, j < k → a.data.toList[j]? = b.data.toList[j]?) ∧ Below w.heap.size w wr) (fun i _ => a.size - (intOf i).toNat)
  case atStart => exact ⟨0, Nat.zero_le _, Nat.zero_le _, rfl, fun j hj => by omega, Below.refl _ _⟩
  case round =>
    obtain ⟨k, hka, hkb, rfl, hj, hbk⟩ := hrel
    have HJ := Hid.mk hj
    clear hj
    by_cases h1 : k < a.size
    · by_cases h2 : k < b.size
      · have HA := Hid.mk (byte_at h1)
        have HB := Hid.mk (byte_at h2)
        have g1 : a[k].toNat < 256 := a[k].toNat_lt
        have g2 : b[k].toNat < 256 := b[k].toNat_lt
        by_cases h3 : a[k] = b[k]
        · have HE := Hid.mk h3
          have h4 : a[k].toNat = b[k].toNat := by rw [h3]
          have h5 : ((a[k].toNat : Int) == (b[k].toNat : Int)) = true := beq_iff_eq.2 (by omega)
          clear h3 h4
          go_wp2_with fail
          go_region
          all_goals
            go_wp2_with fail
            go_roundw
            case rel => exact ⟨k + 1, by omega, by omega, by go_num, fun j hj => by
              by_cases hjk : j = k
              · subst hjk; rw [HA.out, HB.out, HE.out]
              · exact HJ.out j (by omega), Below.drew hbk⟩
            case measure => simp [intOf]; omega
        · have HE := Hid.mk h3
          have h4 : ¬ a[k].toNat = b[k].toNat := fun h => h3 (UInt8.toNat_inj.1 h)
          have HV : Hid (com a b = k) := com_eq hka hkb HJ.out (.inr (.inr (by rw [HA.out, HB.out]; simpa using h3)))
          have h5 : ((a[k].toNat : Int) == (b[k].toNat : Int)) = false := beq_eq_false_iff_ne.2 (by omega)
          clear h3
          go_wp2_with fail
          go_region
          all_goals
            go_wp2_with fail
            go_ret
            exact ⟨by rw [HV.out]; rfl, Below.drew hbk⟩
      · have HV : Hid (com a b = k) := com_eq hka hkb HJ.out (.inr (.inl (by omega)))
        go_wp2_with fail
        go_region
        all_goals
          go_wp2_with fail
          go_ret
          exact ⟨by rw [HV.out]; rfl, Below.drew hbk⟩
    · have HV : Hid (com a b = k) := com_eq hka hkb HJ.out (.inl (by omega))
      go_wp2_with fail
      go_region
      all_goals
        go_wp2_with fail
        go_ret
        exact ⟨by rw [HV.out]; rfl, Below.drew hbk⟩


theorem blockB_bd {l : List MPair} {B : Nat} (h : 16 * l.length + sumW wPair l ≤ B) (k : Nat) : (blockB ByteArray.empty (l.take k)).length ≤ B := by
  have h1 := blockB_len ByteArray.empty (l.take k)
  have h2 := sumW_take_le wPair l k
  have h3 : (l.take k).length ≤ l.length := by simp; omega
  omega
theorem blockB_step {l : List MPair} {k : Nat} (h : k < l.length) : blockB ByteArray.empty (l.take (k + 1)) = blockB ByteArray.empty (l.take k) ++ pairB (lastK ByteArray.empty (l.take k)) l[k] := by
  rw [List.take_succ_eq_append_getElem h, blockB_snoc]
theorem lastK_step {l : List MPair} {k : Nat} (h : k < l.length) : lastK ByteArray.empty (l.take (k + 1)) = l[k].fKey := by
  rw [List.take_succ_eq_append_getElem h, lastK_snoc]
theorem lastK_small {l : List MPair} {B : Nat} (h : sumW wPair l ≤ B) (k : Nat) : (lastK ByteArray.empty (l.take k)).size ≤ B := by
  cases k with
  | zero => exact Nat.zero_le _
  | succ k =>
    by_cases hk : k < l.length
    · rw [lastK_step hk]
      have h1 := sumW_le (f := wPair) hk
      have h2 : wPair l[k] = l[k].fKey.size + l[k].fVal.size := rfl
      omega
    · rw [List.take_of_length_le (by omega)]
      rcases List.eq_nil_or_concat l with rfl | ⟨l', p, rfl⟩
      · exact Nat.zero_le _
      · rw [List.concat_eq_append] at h ⊢
        rw [lastK_snoc]
        have h1 := sumW_le (f := wPair) (l := l' ++ [p]) (k := l'.length) (by simp)
        have h2 : wPair ((l' ++ [p])[l'.length]) = p.fKey.size + p.fVal.size := by simp; rfl
        omega
/-- A pair put behind what is there. -/
theorem pair_put (zs : List Int) (k : ByteArray) (p : MPair) : putText (putText (zs ++ putNum (clampN (com k p.fKey))) (p.fKey.extract (com k p.fKey) p.fKey.size) ++ [goneI p]) p.fVal = zs ++ pairB k p := by
  simp only [pairB, putText, List.append_assoc]





end Go.Proofs.YtmedljankefhbaaDoor
