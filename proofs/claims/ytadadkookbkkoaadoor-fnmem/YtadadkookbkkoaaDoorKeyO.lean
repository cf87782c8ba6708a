/-
  The order of two keys: the program reads them rune by rune, and finds the order of their bytes.
-/
import Derived.Test.YtadadkookbkkoaaDoorRegK
import Derived.Test.YtadadkookbkkoaaDoorKeyM
import Derived.Test.YtadadkookbkkoaaDoorDecL
import Derived.Test.YtadadkookbkkoaaDoorDatN
import Derived.Lib.OthersKept
import Derived.Deep.RegionHeld3
namespace Go.Proofs.YtadadkookbkkoaaDoor
open Go.RowKit Go.Maps Go.Shelf
set_option linter.unusedVariables false
set_option linter.unusedSimpArgs false
set_option maxRecDepth 10000
abbrev qfc5_43_6_0 : Oper := ⟨some 28, .move (.tmp 0), 9, "l04_mem.go:87", #[], none⟩
abbrev qfc5_43_6_1 : Oper := ⟨some 29, .move (.tmp 5), 3, "l04_mem.go:87", #[], none⟩
abbrev qfc5_43_6_2 : Oper := ⟨some 30, .slice 9 (.tmp 28) (some (.tmp 29)) none none, 9, "l04_mem.go:87", #[⟨0, .data⟩, ⟨1, .data⟩], none⟩
abbrev qfc5_43_6_3 : Oper := ⟨some 31, .move (.tmp 1), 9, "l04_mem.go:87", #[], none⟩
abbrev qfc5_43_6_4 : Oper := ⟨some 32, .move (.tmp 5), 3, "l04_mem.go:87", #[], none⟩
abbrev qfc5_43_6_5 : Oper := ⟨some 33, .slice 9 (.tmp 31) (some (.tmp 32)) none none, 9, "l04_mem.go:87", #[⟨3, .data⟩, ⟨4, .data⟩], none⟩
abbrev qfc5_43_6_6 : Oper := ⟨some 34, .call { callee := .value (.func 55), args := #[.tmp 30, .tmp 33], argTypes := #[9, 9] }, 3, "l04_mem.go:87", #[⟨2, .data⟩, ⟨5, .data⟩], none⟩
abbrev qfc5_43_6_7 : Oper := ⟨some 4, .assign (.tmp 34), 3, "l04_mem.go:87", #[⟨6, .data⟩, ⟨6, .chain⟩, ⟨0, .phase⟩, ⟨1, .phase⟩, ⟨2, .phase⟩, ⟨3, .phase⟩, ⟨4, .phase⟩, ⟨5, .phase⟩, ⟨6, .phase⟩], none⟩

/-- The library's two tables, as they are laid. -/
def Tabs (w : World) : Prop := Lib.Utf8Tabs (layDec_ren.g 3) (layDec_ren.g 4) w
theorem Tabs.below {w w' : World} (h : Tabs w) (hb : Below w.heap.size w w') : Tabs w' := Utf8Tabs_below h hb

theorem dec_any (s : ByteArray) (w : World) (hT : Tabs w) :
    Calls Tryd.prog 54 #[.string s] w fun e w' => e = .returned (.tuple #[.int .i32 (Lib.decodeGo s).1, .int .i64 (Lib.decodeGo s).2]) ∧ Below w.heap.size w w' :=
  Any.utf8_DecodeRuneInString layDec s w hT
theorem decodeGo_ext (b : ByteArray) (pos : Nat) : Lib.decodeGo (b.extract pos b.size) = goDec b pos := by
  unfold Lib.decodeGo goDec
  have : (b.extract pos b.size).size = b.size - pos := by rw [← k_len, toList_extract, List.length_drop, k_len]
  rw [this]

theorem kLt_facts {a b : ByteArray} (h : kLt a b = true) : Op.bytesLess a.toList b.toList = true ∧ Op.bytesLess b.toList a.toList = false ∧ (b.toList == a.toList) = false := by
  refine ⟨h, kl_asymm h, ?_⟩
  rw [beq_eq_false_iff_ne]
  intro e
  have h2 : Op.bytesLess a.toList b.toList = true := h
  rw [e, kl_irrefl] at h2
  cases h2

set_option maxHeartbeats 1000000 in
theorem cmpS_any (a b : ByteArray) (w : World) :
    Calls Tryd.prog 55 #[.string a, .string b] w fun e w' => e = .returned (.int .i64 (ordK a b)) ∧ w' = w := by
  by_cases h1 : kLt a b = true
  · rw [ordK_lt h1]
    obtain ⟨p1, p2, p3⟩ := kLt_facts h1
    clear h1
    go_enter Tryd.func55, Tryd.ntmps55
    go_wp2
    go_ret
    exact ⟨rfl, rfl⟩
  · by_cases h2 : kLt b a = true
    · rw [ordK_gt h2]
      obtain ⟨p1, p2, p3⟩ := kLt_facts h2
      clear h1 h2
      go_enter Tryd.func55, Tryd.ntmps55
      go_wp2
      go_ret
      exact ⟨rfl, rfl⟩
    · have h1' : kLt a b = false := Bool.eq_false_iff.2 h1
      have he : a = b := by
        by_cases h : a = b
        · exact h
        · exact absurd (kLt_tri h1' h) h2
      rw [ordK_eq he]
      subst he
      have p1 : Op.bytesLess a.toList a.toList = false := h1'
      clear h1 h2 h1'
      go_enter Tryd.func55, Tryd.ntmps55
      go_wp2
      go_ret
      exact ⟨rfl, rfl⟩

def ordI (x y : Int) : Int := if x < y then -1 else if y < x then 1 else 0
theorem ordI_lt {x y : Int} (h : x < y) : ordI x y = -1 := if_pos h
theorem ordI_gt {x y : Int} (h : y < x) : ordI x y = 1 := by unfold ordI; rw [if_neg (by omega), if_pos h]
theorem ordI_eq {x y : Int} (h : x = y) : ordI x y = 0 := by unfold ordI; rw [if_neg (by omega), if_neg (by omega)]

set_option maxHeartbeats 400000 in
theorem cmpJ_any (x y : Int) (w : World) :
    Calls Tryd.prog 57 #[.int .i64 x, .int .i64 y] w fun e w' => e = .returned (.int .i64 (ordI x y)) ∧ w' = w := by
  by_cases h1 : x < y
  · have HV := Hid.mk (ordI_lt h1)
    go_enter Tryd.func57, Tryd.ntmps57
    go_wp2
    go_ret
    exact ⟨by rw [HV.out]; rfl, rfl⟩
  · by_cases h2 : y < x
    · have HV := Hid.mk (ordI_gt h2)
      go_enter Tryd.func57, Tryd.ntmps57
      go_wp2
      go_ret
      exact ⟨by rw [HV.out]; rfl, rfl⟩
    · have HV := Hid.mk (ordI_eq (x := x) (y := y) (by omega))
      go_enter Tryd.func57, Tryd.ntmps57
      go_wp2
      go_ret
      exact ⟨by rw [HV.out]; rfl, rfl⟩

set_option maxHeartbeats 400000 in
theorem cmpR_any (x y : Int) (w : World) :
    Calls Tryd.prog 56 #[.int .i32 x, .int .i32 y] w fun e w' => e = .returned (.int .i64 (ordI x y)) ∧ w' = w := by
  by_cases h1 : x < y
  · have HV := Hid.mk (ordI_lt h1)
    go_enter Tryd.func56, Tryd.ntmps56
    go_wp2
    go_ret
    exact ⟨by rw [HV.out]; rfl, rfl⟩
  · by_cases h2 : y < x
    · have HV := Hid.mk (ordI_gt h2)
      go_enter Tryd.func56, Tryd.ntmps56
      go_wp2
      go_ret
      exact ⟨by rw [HV.out]; rfl, rfl⟩
    · have HV := Hid.mk (ordI_eq (x := x) (y := y) (by omega))
      go_enter Tryd.func56, Tryd.ntmps56
      go_wp2
      go_ret
      exact ⟨by rw [HV.out]; rfl, rfl⟩

theorem iterPos_at {wr : World} {k : Nat} {s : ByteArray} {pos : Nat} (h : wr.heap[k]? = some (.stringIter s pos)) : wr.iterPos k = pos := by
  unfold World.iterPos
  rw [h]

set_option maxHeartbeats 4000000 in
theorem keyOrder_any (a b : ByteArray) (w : World) (hT : Tabs w) (ha : a.size ≤ 9223372036854775807) (hb : b.size ≤ 9223372036854775807) :
    Calls Tryd.prog 43 #[.string a, .string b] w fun e w' => e = .returned (.int .i64 (ordK a b)) ∧ Below w.heap.size w w' := by
  have HT := Hid.mk hT
  clear hT
  go_enter Tryd.func43, Tryd.ntmps43
  go_wp2_with fail
  go_loopw [] (fun wr => ∃ pos : Nat, wr.heap[w.heap.size]? = some (.stringIter a pos) ∧ Hid (Alike a b pos) ∧ Below w.heap.size w wr) (fun wr => a.size - wr.iterPos w.heap.size)
  case atStart => exact ⟨0, World.iter_heap w a 0, Alike.zero a b, (Below.refl _ _).alloc (Nat.le_refl _) _⟩
  case round =>
    obtain ⟨pos, hit, HAL, hbw⟩ := hrel
    have hpos0 := iterPos_at hit
    have HP0 := Hid.mk hpos0
    clear hpos0
    have hpb := HAL.out.lb
    have hpa := HAL.out.la
    by_cases hp : pos < a.size
    · have hnx : ∀ ty, (Instr.next (.pointer (some ⟨w.heap.size, 0, none⟩)) true ty).run Tryd.prog wr = _ := fun ty => Lib.run_next_any_at wr w.heap.size a pos ty hit hp
      have hit2 := Lib.iterAt_heap wr w.heap.size a pos (pos + (Utf8.decode a pos).2) hit
      have hbw2 := Lib.below_iterAt hbw (k := w.heap.size) (Nat.le_refl _) a (pos + (Utf8.decode a pos).2)
      obtain ⟨W1, hW1⟩ : ∃ W1, W1 = wr.iterAt w.heap.size a (pos + (Utf8.decode a pos).2) := ⟨_, rfl⟩
      rw [← hW1] at hnx hit2 hbw2
      have HLess := Hid.mk (fun h1 h2 h3 => HAL.out.less hp h1 h2 h3)
      have HMore := Hid.mk (fun h1 h2 h3 => HAL.out.more hp h1 h2 h3)
      have HNext := Hid.mk (fun h1 h2 h3 => HAL.out.next hp h1 h2 h3)
      have HOrd := Hid.mk HAL.out.ord
      obtain ⟨r, hr⟩ : ∃ r, r = (Utf8.decode a pos).1 := ⟨_, rfl⟩
      obtain ⟨n, hn⟩ : ∃ n, n = (Utf8.decode a pos).2 := ⟨_, rfl⟩
      rw [← hr] at hnx HLess HMore HNext
      rw [← hn] at hit2 HNext
      clear hr hn hW1 hit hbw
      have HIT := Hid.mk hit2
      have hlt2 : w.heap.size < W1.heap.size := (Array.getElem?_eq_some_iff.1 hit2).1
      clear hit2
      have hpb1 : (0 : Int) ≤ (pos : Int) := by omega
      have hpb2 : (pos : Int) ≤ (b.size : Int) := by omega
      have hpa2 : (pos : Int) ≤ (a.size : Int) := by omega
      go_wp2_with fail
      refine (dec_any _ W1 (HT.out.below hbw2)).mono ?_
      rintro e w2 ⟨rfl, hx2⟩
      rw [decodeGo_ext]
      obtain ⟨s, hs⟩ : ∃ s, s = (goDec b pos).1 := ⟨_, rfl⟩
      rw [← hs] at HLess HMore HNext ⊢
      clear hs
      obtain ⟨sz, hsz⟩ : ∃ sz, sz = (goDec b pos).2 := ⟨_, rfl⟩
      rw [← hsz]
      clear hsz
      have hb2 : Below w.heap.size w w2 := bthen hbw2 hx2
      have hit3 : w2.heap[w.heap.size]? = some (.stringIter a (pos + n)) := (hx2.block _ hlt2).trans HIT.out
      have hlt3 : w.heap.size < w2.heap.size := Nat.lt_of_lt_of_le hlt2 hx2.size
      have HIT3 := Hid.mk hit3
      clear hit3 hnx
      by_cases h1 : r = 65533
      · subst h1
        go_wp2_with fail
        refine wp_region_held_drew (S := fun W' => Below w2.heap.size w2 W') (by kernel_rfl) (Below.drew (Below.refl _ _)) (fun hHeld => ?_)
        refine tk 0 qfc5_43_6_0 (some 28) (v := ?v1) rfl rfl (by kernel_rfl) hHeld (by rfl) (fun _ _ _ x => x) (fun w h => ?y1) ?_; (case y1 => (try dsimp only at h); go_simp; try (with_reducible rfl)); try simp only [Act.put, sa, s0, s1]
        refine tk 1 qfc5_43_6_1 (some 29) (v := ?v2) rfl rfl (by kernel_rfl) hHeld (by rfl) (fun _ _ _ x => x) (fun w h => ?y2) ?_; (case y2 => (try dsimp only at h); go_simp; try (with_reducible rfl)); try simp only [Act.put, sa, s0, s1]
        refine tk 2 qfc5_43_6_2 (some 30) (v := ?v3) rfl rfl (by kernel_rfl) hHeld (by rfl) (fun _ _ _ x => x) (fun w h => ?y3) ?_; (case y3 => (try dsimp only at h); go_simp; try (with_reducible rfl)); try simp only [Act.put, sa, s0, s1]
        refine tk 3 qfc5_43_6_3 (some 31) (v := ?v4) rfl rfl (by kernel_rfl) hHeld (by rfl) (fun _ _ _ x => x) (fun w h => ?y4) ?_; (case y4 => (try dsimp only at h); go_simp; try (with_reducible rfl)); try simp only [Act.put, sa, s0, s1]
        refine tk 4 qfc5_43_6_4 (some 32) (v := ?v5) rfl rfl (by kernel_rfl) hHeld (by rfl) (fun _ _ _ x => x) (fun w h => ?y5) ?_; (case y5 => (try dsimp only at h); go_simp; try (with_reducible rfl)); try simp only [Act.put, sa, s0, s1]
        refine tk 5 qfc5_43_6_5 (some 33) (v := ?v6) rfl rfl (by kernel_rfl) hHeld (by rfl) (fun _ _ _ x => x) (fun w h => ?y6) ?_; (case y6 => (try dsimp only at h); go_simp; try (with_reducible rfl)); try simp only [Act.put, sa, s0, s1]
        refine wpAnyH_ready (rs := [6]) (by kernel_rfl) (by simp) ?_
        refine AllReadyH.cons (o := qfc5_43_6_6) rfl (fun K hK => ?_) AllReadyH.nil
        go_simp
        refine Calls.mono (cmpS_any _ _ _) ?_
        rintro e wy1 ⟨rfl, hw1⟩
        have hy1 := below_same hw1
        clear hw1
        go_wp2_with fail
        refine hK.out _ _ (bthen hHeld hy1) (fun hHeld => ?_)
        clear hK K
        try simp only [Act.put, sa, s0, s1]
        refine tk 7 qfc5_43_6_7 (some 4) (v := ?v7) rfl rfl (by kernel_rfl) hHeld (by rfl) (fun _ _ _ x => x) (fun w h => ?y7) ?_; (case y7 => (try dsimp only at h); go_simp; try (with_reducible rfl)); try simp only [Act.put, sa, s0, s1]
        refine wpAnyH_done (by kernel_rfl) ?_ _
        rw [HOrd.out]
        go_wp2_with fail
        go_ret
        exact ⟨rfl, bthen hb2 hHeld⟩
      · by_cases h2 : s = 65533
        · subst h2
          have h1i : ¬ ((r : Nat) : Int) = 65533 := by omega
          go_wp2_with fail
          refine wp_region_held_drew (S := fun W' => Below w2.heap.size w2 W') (by kernel_rfl) (Below.drew (Below.refl _ _)) (fun hHeld => ?_)
          refine tk 0 qfc5_43_6_0 (some 28) (v := ?v8) rfl rfl (by kernel_rfl) hHeld (by rfl) (fun _ _ _ x => x) (fun w h => ?y8) ?_; (case y8 => (try dsimp only at h); go_simp; try (with_reducible rfl)); try simp only [Act.put, sa, s0, s1]
          refine tk 1 qfc5_43_6_1 (some 29) (v := ?v9) rfl rfl (by kernel_rfl) hHeld (by rfl) (fun _ _ _ x => x) (fun w h => ?y9) ?_; (case y9 => (try dsimp only at h); go_simp; try (with_reducible rfl)); try simp only [Act.put, sa, s0, s1]
          refine tk 2 qfc5_43_6_2 (some 30) (v := ?v10) rfl rfl (by kernel_rfl) hHeld (by rfl) (fun _ _ _ x => x) (fun w h => ?y10) ?_; (case y10 => (try dsimp only at h); go_simp; try (with_reducible rfl)); try simp only [Act.put, sa, s0, s1]
          refine tk 3 qfc5_43_6_3 (some 31) (v := ?v11) rfl rfl (by kernel_rfl) hHeld (by rfl) (fun _ _ _ x => x) (fun w h => ?y11) ?_; (case y11 => (try dsimp only at h); go_simp; try (with_reducible rfl)); try simp only [Act.put, sa, s0, s1]
          refine tk 4 qfc5_43_6_4 (some 32) (v := ?v12) rfl rfl (by kernel_rfl) hHeld (by rfl) (fun _ _ _ x => x) (fun w h => ?y12) ?_; (case y12 => (try dsimp only at h); go_simp; try (with_reducible rfl)); try simp only [Act.put, sa, s0, s1]
          refine tk 5 qfc5_43_6_5 (some 33) (v := ?v13) rfl rfl (by kernel_rfl) hHeld (by rfl) (fun _ _ _ x => x) (fun w h => ?y13) ?_; (case y13 => (try dsimp only at h); go_simp; try (with_reducible rfl)); try simp only [Act.put, sa, s0, s1]
          refine wpAnyH_ready (rs := [6]) (by kernel_rfl) (by simp) ?_
          refine AllReadyH.cons (o := qfc5_43_6_6) rfl (fun K hK => ?_) AllReadyH.nil
          go_simp
          refine Calls.mono (cmpS_any _ _ _) ?_
          rintro e wy1 ⟨rfl, hw1⟩
          have hy1 := below_same hw1
          clear hw1
          go_wp2_with fail
          refine hK.out _ _ (bthen hHeld hy1) (fun hHeld => ?_)
          clear hK K
          try simp only [Act.put, sa, s0, s1]
          refine tk 7 qfc5_43_6_7 (some 4) (v := ?v14) rfl rfl (by kernel_rfl) hHeld (by rfl) (fun _ _ _ x => x) (fun w h => ?y14) ?_; (case y14 => (try dsimp only at h); go_simp; try (with_reducible rfl)); try simp only [Act.put, sa, s0, s1]
          refine wpAnyH_done (by kernel_rfl) ?_ _
          rw [HOrd.out]
          go_wp2_with fail
          go_ret
          exact ⟨rfl, bthen hb2 hHeld⟩
        · have h1i : ¬ ((r : Nat) : Int) = 65533 := by omega
          have h2i : ¬ ((s : Nat) : Int) = 65533 := by omega
          have e1 : (((r : Nat) : Int) == 65533) = false := beq_eq_false_iff_ne.2 h1i
          have e2 : (((s : Nat) : Int) == 65533) = false := beq_eq_false_iff_ne.2 h2i
          by_cases h3 : r < s
          · have hv := HLess.out h1 h2 h3
            have hne : ¬ ((r : Nat) : Int) = ((s : Nat) : Int) := by omega
            have hnb : (((r : Nat) : Int) != ((s : Nat) : Int)) = true := bne_iff_ne.2 hne
            have HV := Hid.mk hv
            clear hv
            go_wp2_with fail
            refine (cmpR_any _ _ _).mono ?_
            rintro e w3 ⟨rfl, hw3⟩
            have hw4 := hw3.symm
            clear hw3
            subst hw4
            rw [ordI_lt (by omega)]
            go_wp2_with fail
            go_ret
            exact ⟨by rw [HV.out]; rfl, hb2⟩
          · by_cases h4 : s < r
            · have hv := HMore.out h1 h2 h4
              have hne : ¬ ((r : Nat) : Int) = ((s : Nat) : Int) := by omega
              have hnb : (((r : Nat) : Int) != ((s : Nat) : Int)) = true := bne_iff_ne.2 hne
              have HV := Hid.mk hv
              clear hv
              go_wp2_with fail
              refine (cmpR_any _ _ _).mono ?_
              rintro e w3 ⟨rfl, hw3⟩
              have hw4 := hw3.symm
              clear hw3
              subst hw4
              rw [ordI_gt (by omega)]
              go_wp2_with fail
              go_ret
              exact ⟨by rw [HV.out]; rfl, hb2⟩
            · have he : r = s := by omega
              have HN := Hid.mk (HNext.out h1 h2 he)
              subst he
              go_wp2_with fail
              go_roundw
              case rel => exact ⟨pos + n, HIT3.out, HN.out.1, hb2⟩
              case measure => rw [iterPos_at HIT3.out, HP0.out]; have := HN.out.2; omega
    · have hnx : ∀ ty, (Instr.next (.pointer (some ⟨w.heap.size, 0, none⟩)) true ty).run Tryd.prog wr = _ := fun ty => Lib.run_next_end_at wr w.heap.size a pos ty hit hp
      have he : pos = a.size := by omega
      subst he
      have HF := Hid.mk HAL.out.fin
      have hal : ordI (a.size : Int) (b.size : Int) = ordK a b := by
        rw [HF.out]
        split
        · exact ordI_lt (by omega)
        · exact ordI_eq (by omega)
      have HO := Hid.mk hal
      clear hal
      go_wp2_with fail
      refine (cmpJ_any _ _ _).mono ?_
      rintro e w3 ⟨rfl, hw3⟩
      have hw4 := hw3.symm
      clear hw3
      subst hw4
      rw [HO.out]
      go_wp2_with fail
      go_ret
      exact ⟨rfl, hbw⟩

end Go.Proofs.YtadadkookbkkoaaDoor
