/-
  Part 8 of the texts that the proof leans on.
-/
import Derived.Test.YtmedljankefhbaaDoorTbf0
import Derived.Test.YtmedljankefhbaaDoorTbf6
import Derived.Test.YtmedljankefhbaaDoorTbf2
import Derived.Test.YtmedljankefhbaaDoorTbf4
import Derived.Test.YtmedljankefhbaaDoorTbf3
set_option linter.unusedVariables false
set_option linter.unusedSimpArgs false
set_option maxRecDepth 10000

namespace Go.Proofs.YtmedljankefhbaaDoor
open Go.RowKit
abbrev q44e_20_5_0 : Oper := ⟨some 18, .move (.tmp 5), 22, "l05_table.go:171", #[], none⟩
abbrev q44e_20_5_1 : Oper := ⟨some 19, .fieldAddr 49 (.tmp 7) 0, 0, "l05_table.go:171", #[], none⟩
abbrev q44e_20_5_2 : Oper := ⟨some 20, .load 9 (.tmp 19), 9, "l05_table.go:171", #[⟨1, .data⟩], none⟩
abbrev q44e_20_5_4 : Oper := ⟨some 22, .fieldAddr 49 (.tmp 7) 1, 0, "l05_table.go:171", #[], none⟩
abbrev q44e_20_5_5 : Oper := ⟨some 23, .load 3 (.tmp 22), 3, "l05_table.go:171", #[⟨4, .data⟩], none⟩
abbrev q44e_20_5_6 : Oper := ⟨some 24, .buildSlice 104 1 #[(0, .tmp 23)], 104, "l05_table.go:171", #[⟨5, .data⟩], none⟩
abbrev q44e_20_5_3 : Oper := ⟨some 21, .call { callee := .value (.func 37), args := #[.tmp 18, .tmp 20], argTypes := #[22, 9] }, 22, "l05_table.go:171", #[⟨0, .data⟩, ⟨2, .data⟩], none⟩
abbrev q44e_20_5_7 : Oper := ⟨some 25, .call { callee := .value (.func 34), args := #[.tmp 21, .tmp 24], argTypes := #[22, 104] }, 22, "l05_table.go:171", #[⟨3, .data⟩, ⟨6, .data⟩, ⟨3, .chain⟩], none⟩
abbrev q44e_20_5_8 : Oper := ⟨some 5, .assign (.tmp 25), 22, "l05_table.go:171", #[⟨7, .data⟩, ⟨7, .chain⟩, ⟨0, .phase⟩, ⟨1, .phase⟩, ⟨2, .phase⟩, ⟨3, .phase⟩, ⟨4, .phase⟩, ⟨5, .phase⟩, ⟨6, .phase⟩, ⟨7, .phase⟩], none⟩

/-- What the index says of a block: its last key, and where it begins. -/
def rMark : Rep (ByteArray × Int) := fun _ _ cs m => cs = [.string m.1, .int .i64 m.2]
theorem rMark_good : rMark.Good := ⟨fun h _ => h, fun h _ => h⟩
def mark1 (m : ByteArray × Int) : List Int := putText [] m.1 ++ putNum (clampN m.2)
def idxM : List (ByteArray × Int) → List Int
  | [] => []
  | m :: r => mark1 m ++ idxM r
theorem idxM_snoc (l : List (ByteArray × Int)) (m : ByteArray × Int) : idxM (l ++ [m]) = idxM l ++ mark1 m := by
  induction l with
  | nil => simp [idxM]
  | cons x l ih => simp [idxM, ih]
theorem mark1_ok (m : ByteArray × Int) : BytesOk (mark1 m) := (putText_ok (by intro z hz; cases hz) _).append (putNum_ok _)
theorem idxM_ok (l : List (ByteArray × Int)) : BytesOk (idxM l) := by
  induction l with
  | nil => intro z hz; cases hz
  | cons x l ih => exact (mark1_ok x).append ih
theorem mark1_len {m : ByteArray × Int} (h : m.1.size ≤ 1048576) : (mark1 m).length ≤ 1048586 := by
  have h1 := putText_len [] m.1
  have h2 := (putNum_length (clampN m.2)).2
  simp only [mark1, List.length_append, List.length_nil] at *
  omega
theorem idxM_len (l : List (ByteArray × Int)) (h : ∀ m, m ∈ l → m.1.size ≤ 1048576) : (idxM l).length ≤ 1048586 * l.length := by
  induction l with
  | nil => simp [idxM]
  | cons x l ih =>
    have h1 := mark1_len (h x (by simp))
    have h2 := ih (fun m hm => h m (by simp [hm]))
    simp only [idxM, List.length_append, List.length_cons]
    omega
theorem idxM_step {l : List (ByteArray × Int)} {k : Nat} (h : k < l.length) : idxM (l.take (k + 1)) = idxM (l.take k) ++ mark1 l[k] := by
  rw [List.take_succ_eq_append_getElem h, idxM_snoc]

set_option maxHeartbeats 4000000 in
theorem indexBody_any (a fa : Option Addr) (n c fn fc : Nat) (l : List (ByteArray × Int)) (fs : List Int) (w : World) (hx : l.length = n) (hn : n ≤ 1000) (hL : LeafL 2 rMark w.heap.size w a c l) (hsz : ∀ m, m ∈ l → m.1.size ≤ 1048576) (hfx : fs.length = fn) (hfn : fn ≤ 1000) (hF : Rd .u8 w.heap.size w fa fs) :
    Calls Tryd.prog 20 #[.slice a n c, .slice fa fn fc] w fun e w' => ∃ v, e = .returned v ∧
      w'.ownsRow w.heap.size 5 1 v (putNum (clampN n) ++ idxM l ++ fs).length ((putNum (clampN n) ++ idxM l ++ fs).map (Value.int .u8)) ∧ Below w.heap.size w w' := by
  obtain ⟨i0, hi, hz0, hz1, hz2⟩ := info_parts Tryd.info5
  have HX := Hid.mk hx
  have HL := Hid.mk hL
  have HFX := Hid.mk hfx
  have HF := Hid.mk hF
  have hpn := putNum_length (clampN n)
  have hbd : ∀ k, k ≤ n → (putNum (clampN n) ++ idxM (l.take k)).length ≤ 1048600000 := fun k hk => by
    have h1 := idxM_len (l.take k) (fun m hm => hsz m (List.mem_of_mem_take hm))
    have h2 : (l.take k).length ≤ n := by simp; omega
    have h3 : 1048586 * (l.take k).length ≤ 1048586 * 1000 := Nat.mul_le_mul_left _ (by omega)
    rw [List.length_append]
    omega
  clear hx hL hfx hF
  go_enter Tryd.func20, Tryd.ntmps20
  go_wp2_with fail
  obtain ⟨wq, hwq⟩ : ∃ x, x = w.alloc (.cells #[.int .i64 n] 3) := ⟨_, rfl⟩
  have hbq : Below w.heap.size w wq := by rw [hwq]; exact (Below.refl _ _).alloc (Nat.le_refl _) _
  have hrq : Rd .i64 wq.heap.size wq (some ⟨w.heap.size, 0, none⟩) [(n : Int)] := by rw [hwq]; exact (rd_one .i64 w (n : Int) 3).mono (by simp)
  rw [← hwq]
  clear hwq
  refine (putNums_any none (some ⟨w.heap.size, 0, none⟩) 0 0 1 1 [] [(n : Int)] wq rfl rfl (by omega) (by omega) (fun j hj => by simp at hj) hrq).mono ?_
  rintro e w1 ⟨v1, rfl, ho1, hx1⟩
  have hb1 := hbq.trans (hx1.mono hbq.size)
  have hown1 : w1.ownsRow w.heap.size 5 1 v1 (putNum (clampN n) ++ idxM (l.take 0)).length ((putNum (clampN n) ++ idxM (l.take 0)).map (Value.int .u8)) := own_base (own_congr ho1 (by simp [putNums, idxM]) (by simp [putNums, idxM])) hbq.size
  clear ho1 hrq hx1 hbq
  go_wp2_with fail
  go_loopw [5, 14] (fun b i wr => ∃ k : Nat, k ≤ n ∧ i = .int .i64 k ∧ wr.ownsRow w.heap.size 5 1 b (putNum (clampN n) ++ idxM (l.take k)).length ((putNum (clampN n) ++ idxM (l.take k)).map (Value.int .u8)) ∧ Below w.heap.size w wr) (fun _ i _ => n - (intOf i).toNat)
  case atStart => exact ⟨0, Nat.zero_le _, rfl, hown1, hb1⟩
  case round =>
    obtain ⟨k, hk, rfl, hownk, hbk⟩ := hrel
    clear hown1 hb1
    by_cases hlt : k < n
    · have hkl : k < l.length := by rw [HX.out]; exact hlt
      have HS := Hid.mk (idxM_step hkl)
      have hzl := hbd k hk
      have hmk := hsz _ (List.getElem_mem hkl)
      obtain ⟨b1, o1, rfl, hbB, cs, hcl, hcell, hrT⟩ := (HL.out.2.2.below rMark_good hbk) k hkl
      generalize l[k] = m at *
      obtain rfl : cs = [.string m.1, .int .i64 m.2] := hrT
      have k0 := hcell 0 _ rfl
      have k1 := hcell 1 _ rfl
      rw [Nat.add_zero] at k0
      clear hcell hcl
      obtain ⟨zs, HZ⟩ : ∃ zs, Hid (zs = putNum (clampN n) ++ idxM (l.take k)) := ⟨_, rfl⟩
      rw [← HZ.out] at hownk hzl
      obtain ⟨ra, qa, rfl, _, hrd⟩ := own_rd rfl hownk
      clear hownk
      obtain ⟨wp, hwp⟩ : ∃ wp, wp = wr.alloc (.cells #[.string m.1, .int .i64 m.2] 49) := ⟨_, rfl⟩
      have hbp : Below wr.heap.size wr wp := by rw [hwp]; exact (Below.refl _ _).alloc (Nat.le_refl _) _
      have hbv : Bx wp wr.heap.size [.string m.1, .int .i64 m.2] := by rw [hwp]; exact Bx.new _ _ _
      have hBp := hbk.trans (hbp.mono hbk.size)
      have HRP := Hid.mk ((hrd.below hbp).mono hbp.size)
      obtain ⟨z2, HZ2⟩ : ∃ z, Hid (z = putText zs m.1) := ⟨_, rfl⟩
      have hl2 : z2.length ≤ 1050000000 := by rw [HZ2.out]; have := putText_len zs m.1; omega
      go_wp2_with fail
      rw [← hwp]
      clear hwp hrd k0 k1
      obtain ⟨g, hg⟩ : ∃ g, g = wr.heap.size := ⟨_, rfl⟩
      rw [← hg] at hbv ⊢
      clear hg
      have hgl := hbv.1
      have y0 := hbv.2 0 _ rfl
      have y1 := hbv.2 1 _ rfl
      have HC : Hid (∀ W, Below wp.heap.size wp W → W.cell? ⟨g, 0, none⟩ = some (.string m.1) ∧ W.cell? ⟨g, 1, none⟩ = some (.int .i64 m.2)) := fun W hW =>
        ⟨(hW.cell (p := ⟨g, 0, none⟩) hgl).trans y0, (hW.cell (p := ⟨g, 1, none⟩) hgl).trans y1⟩
      refine wp_region_held_drew (S := fun W => (W.cell? ⟨g, 0, none⟩ = some (.string m.1) ∧ W.cell? ⟨g, 1, none⟩ = some (.int .i64 m.2)) ∧ Below wp.heap.size wp W) (by kernel_rfl) (⟨⟨y0, y1⟩, Below.drew (Below.refl _ _)⟩) (fun hHeld => ?_)
      obtain ⟨wS, hwS⟩ : ∃ wS, wS = wp.drew := ⟨_, rfl⟩
      rw [← hwS] at hHeld ⊢
      clear hwS
      refine tk 0 q44e_20_5_0 (some 18) (v := ?v1) rfl rfl (by kernel_rfl) hHeld (by rfl) (fun _ _ _ x => x) (fun w h => ?y1) ?_; (case y1 => (try dsimp only at h); go_simp; try (with_reducible rfl)); try simp only [Act.put, sa, s0, s1]
      refine tk 1 q44e_20_5_1 (some 19) (v := ?v2) rfl rfl (by kernel_rfl) hHeld (by rfl) (fun _ _ _ x => x) (fun w h => ?y2) ?_; (case y2 => (try dsimp only at h); go_simp; try (with_reducible rfl)); try simp only [Act.put, sa, s0, s1]
      refine tk 2 q44e_20_5_2 (some 20) (v := ?v3) rfl rfl (by kernel_rfl) hHeld (by rfl) (fun _ _ _ x => x) (fun w h => ?y3) ?_; (case y3 => (try dsimp only at h); go_simp; try (with_reducible rfl)); try simp only [Act.put, sa, s0, s1]
      refine tk 4 q44e_20_5_4 (some 22) (v := ?v4) rfl rfl (by kernel_rfl) hHeld (by rfl) (fun _ _ _ x => x) (fun w h => ?y4) ?_; (case y4 => (try dsimp only at h); go_simp; try (with_reducible rfl)); try simp only [Act.put, sa, s0, s1]
      refine tk 5 q44e_20_5_5 (some 23) (v := ?v5) rfl rfl (by kernel_rfl) hHeld (by rfl) (fun _ _ _ x => x) (fun w h => ?y5) ?_; (case y5 => (try dsimp only at h); go_simp; try (with_reducible rfl)); try simp only [Act.put, sa, s0, s1]
      refine wpAnyH_ready (rs := [3, 6]) (by kernel_rfl) (by simp) ?_
      refine (AllReadyH.cons (o := q44e_20_5_3) rfl (fun K hK => ?_) (AllReadyH.cons (o := q44e_20_5_6) rfl (fun K hK => ?_) AllReadyH.nil))
      · go_simp
        refine Calls.mono (implPutText_R ra _ qa zs m.1 wS rfl (by omega) ((HRP.out.below hHeld.2).mono hHeld.2.size) (by omega)) ?_
        rintro e wE3 ⟨v3, rfl, ho3, hop3⟩
        rw [← HZ2.out] at ho3
        have HB3 := hHeld.2.trans (hop3.mono hHeld.2.size)
        have ho3' := own_base ho3 hHeld.2.size
        obtain ⟨r3, q3, rfl, _, hr3⟩ := own_rd rfl ho3'
        have HR3 := Hid.mk hr3
        clear ho3 ho3' hr3
        go_wp2_with fail
        refine hK.out _ _ (⟨HC.out _ HB3, HB3⟩) (fun hHeld => ?_)
        clear hK K
        try simp only [Act.put, sa, s0, s1]
        refine wpAnyH_ready (rs := [6]) (by kernel_rfl) (by simp) ?_
        refine (AllReadyH.cons (o := q44e_20_5_6) rfl (fun K hK => ?_) AllReadyH.nil)
        · go_simp
          obtain ⟨wE6, hq6⟩ : ∃ x, x = wE3.alloc (.cells #[.int .i64 m.2] 3) := ⟨_, rfl⟩
          have hop6 : Below wE3.heap.size wE3 wE6 := by rw [hq6]; exact (Below.refl _ _).alloc (Nat.le_refl _) _
          have HB6 := hHeld.2.trans (hop6.mono hHeld.2.size)
          obtain ⟨g6, HG6⟩ : ∃ g, Hid (g = wE3.heap.size) := ⟨_, rfl⟩
          have HR6 : Hid (Rd .i64 wE6.heap.size wE6 (some ⟨g6, 0, none⟩) [m.2]) := by unfold Hid; rw [HG6.out, hq6]; exact (rd_one .i64 wE3 m.2 3).mono (by simp)
          rw [← HG6.out]
          rw [← hq6]
          clear hq6
          refine hK.out _ _ (⟨HC.out _ HB6, HB6⟩) (fun hHeld => ?_)
          clear hK K
          try simp only [Act.put, sa, s0, s1]
          refine wpAnyH_ready (rs := [7]) (by kernel_rfl) (by simp) ?_
          refine (AllReadyH.cons (o := q44e_20_5_7) rfl (fun K hK => ?_) AllReadyH.nil)
          · go_simp
            refine Calls.mono (putNums_any r3 (some ⟨g6, 0, none⟩) z2.length q3 1 1 z2 [m.2] wE6 rfl rfl (by omega) (by omega) ((HR3.out.below (show Below wE3.heap.size wE3 wE6 from bthen (Below.refl _ _) hop6)).mono ((show Below wE3.heap.size wE3 wE6 from bthen (Below.refl _ _) hop6)).size) ((HR6.out.below (show Below wE6.heap.size wE6 wE6 from Below.refl _ _)).mono ((show Below wE6.heap.size wE6 wE6 from Below.refl _ _)).size)) ?_
            rintro e wE7 ⟨v7, rfl, ho7, hop7⟩
            have HB7 := hHeld.2.trans (hop7.mono hHeld.2.size)
            have HO7 : Hid (wE7.ownsRow w.heap.size 5 1 v7 (zs ++ mark1 m).length ((zs ++ mark1 m).map (Value.int .u8))) := own_base (own_congr ho7 (by rw [HZ2.out]; simp [putNums, mark1, putText]; omega) (by rw [HZ2.out]; simp [putNums, mark1, putText])) (Nat.le_trans hBp.size hHeld.2.size)
            clear ho7
            go_wp2_with fail
            refine hK.out _ _ (⟨HC.out _ HB7, HB7⟩) (fun hHeld => ?_)
            clear hK K
            try simp only [Act.put, sa, s0, s1]
            refine tk 8 q44e_20_5_8 (some 5) (v := ?v6) rfl rfl (by kernel_rfl) hHeld (by rfl) (fun _ _ _ x => x) (fun w h => ?y6) ?_; (case y6 => (try dsimp only at h); go_simp; try (with_reducible rfl)); try simp only [Act.put, sa, s0, s1]
            refine wpAnyH_done (by kernel_rfl) ?_ _
            go_wp2_with fail
            go_roundw
            case rel => exact ⟨k + 1, by omega, by go_num, by rw [HS.out, ← List.append_assoc, ← HZ.out]; exact HO7.out, hBp.trans (HB7.mono hBp.size)⟩
            case measure => simp [intOf]; omega
      · go_simp
        obtain ⟨wE6, hq6⟩ : ∃ x, x = wS.alloc (.cells #[.int .i64 m.2] 3) := ⟨_, rfl⟩
        have hop6 : Below wS.heap.size wS wE6 := by rw [hq6]; exact (Below.refl _ _).alloc (Nat.le_refl _) _
        have HB6 := hHeld.2.trans (hop6.mono hHeld.2.size)
        obtain ⟨g6, HG6⟩ : ∃ g, Hid (g = wS.heap.size) := ⟨_, rfl⟩
        have HR6 : Hid (Rd .i64 wE6.heap.size wE6 (some ⟨g6, 0, none⟩) [m.2]) := by unfold Hid; rw [HG6.out, hq6]; exact (rd_one .i64 wS m.2 3).mono (by simp)
        rw [← HG6.out]
        rw [← hq6]
        clear hq6
        refine hK.out _ _ (⟨HC.out _ HB6, HB6⟩) (fun hHeld => ?_)
        clear hK K
        try simp only [Act.put, sa, s0, s1]
        refine wpAnyH_ready (rs := [3]) (by kernel_rfl) (by simp) ?_
        refine (AllReadyH.cons (o := q44e_20_5_3) rfl (fun K hK => ?_) AllReadyH.nil)
        · go_simp
          refine Calls.mono (implPutText_R ra _ qa zs m.1 wE6 rfl (by omega) ((HRP.out.below hHeld.2).mono hHeld.2.size) (by omega)) ?_
          rintro e wE3 ⟨v3, rfl, ho3, hop3⟩
          rw [← HZ2.out] at ho3
          have HB3 := hHeld.2.trans (hop3.mono hHeld.2.size)
          have ho3' := own_base ho3 hHeld.2.size
          obtain ⟨r3, q3, rfl, _, hr3⟩ := own_rd rfl ho3'
          have HR3 := Hid.mk hr3
          clear ho3 ho3' hr3
          go_wp2_with fail
          refine hK.out _ _ (⟨HC.out _ HB3, HB3⟩) (fun hHeld => ?_)
          clear hK K
          try simp only [Act.put, sa, s0, s1]
          refine wpAnyH_ready (rs := [7]) (by kernel_rfl) (by simp) ?_
          refine (AllReadyH.cons (o := q44e_20_5_7) rfl (fun K hK => ?_) AllReadyH.nil)
          · go_simp
            refine Calls.mono (putNums_any r3 (some ⟨g6, 0, none⟩) z2.length q3 1 1 z2 [m.2] wE3 rfl rfl (by omega) (by omega) ((HR3.out.below (show Below wE3.heap.size wE3 wE3 from Below.refl _ _)).mono ((show Below wE3.heap.size wE3 wE3 from Below.refl _ _)).size) ((HR6.out.below (show Below wE6.heap.size wE6 wE3 from bthen (Below.refl _ _) hop3)).mono ((show Below wE6.heap.size wE6 wE3 from bthen (Below.refl _ _) hop3)).size)) ?_
            rintro e wE7 ⟨v7, rfl, ho7, hop7⟩
            have HB7 := hHeld.2.trans (hop7.mono hHeld.2.size)
            have HO7 : Hid (wE7.ownsRow w.heap.size 5 1 v7 (zs ++ mark1 m).length ((zs ++ mark1 m).map (Value.int .u8))) := own_base (own_congr ho7 (by rw [HZ2.out]; simp [putNums, mark1, putText]; omega) (by rw [HZ2.out]; simp [putNums, mark1, putText])) (Nat.le_trans hBp.size hHeld.2.size)
            clear ho7
            go_wp2_with fail
            refine hK.out _ _ (⟨HC.out _ HB7, HB7⟩) (fun hHeld => ?_)
            clear hK K
            try simp only [Act.put, sa, s0, s1]
            refine tk 8 q44e_20_5_8 (some 5) (v := ?v7) rfl rfl (by kernel_rfl) hHeld (by rfl) (fun _ _ _ x => x) (fun w h => ?y7) ?_; (case y7 => (try dsimp only at h); go_simp; try (with_reducible rfl)); try simp only [Act.put, sa, s0, s1]
            refine wpAnyH_done (by kernel_rfl) ?_ _
            go_wp2_with fail
            go_roundw
            case rel => exact ⟨k + 1, by omega, by go_num, by rw [HS.out, ← List.append_assoc, ← HZ.out]; exact HO7.out, hBp.trans (HB7.mono hBp.size)⟩
            case measure => simp [intOf]; omega
    · have HT1 : Hid (l.take k = l) := List.take_of_length_le (by rw [HX.out]; omega)
      have hzl := hbd k hk
      rw [HT1.out] at hownk hzl
      obtain ⟨zs, HZ⟩ : ∃ zs, Hid (zs = putNum (clampN n) ++ idxM l) := ⟨_, rfl⟩
      rw [← HZ.out] at hownk hzl
      have hF1 := HF.out.below hbk
      go_wp2_with (at_builtin; refine wpList_append_src _ rfl _ _ 22 22 rfl w.heap.size 5 i0 (.int .u8 0) 1 1 Tryd.underlying22 hi hz0 hz1 hz2 rfl _ _ _ rfl hownk fn (fs.map (Value.int .u8)) (Src.rd Tryd.underlying22 HFX.out hF1) (by unfold maxLen; omega) (by omega) hbk.size ?_)
      intro v9 w9 ho9 hgr9
      have hb9 := hbk.grown hgr9 hbk.size (fun k h => (hownk.lt k h).1)
      have ho9' : w9.ownsRow w.heap.size 5 1 v9 (putNum (clampN n) ++ idxM l ++ fs).length ((putNum (clampN n) ++ idxM l ++ fs).map (Value.int .u8)) := own_congr ho9 (by rw [← HZ.out, List.length_append, HFX.out]) (by rw [← HZ.out]; simp)
      clear ho9 hgr9 hownk
      go_wp2_with fail
      go_ret
      exact ⟨v9, rfl, ho9', hb9⟩

end Go.Proofs.YtmedljankefhbaaDoor

namespace Go.Proofs.YtmedljankefhbaaDoor
open Go.RowKit Go.Maps

theorem keys_step {l : List MPair} {k : Nat} (h : k < l.length) : (keysP (l.take (k + 1))).map Value.string = (keysP (l.take k)).map Value.string ++ [.string l[k].fKey] := by
  unfold keysP
  rw [List.take_succ_eq_append_getElem h, List.map_append, List.map_append]
  rfl
theorem own_nilT (w : World) (base e size : Nat) : w.ownsRow base e size (.slice none 0 0) 0 [] := ⟨by simp, .inl ⟨rfl, rfl⟩⟩

set_option maxHeartbeats 2000000 in
theorem keysOf_any (a : Option Addr) (n c : Nat) (l : List MPair) (w : World) (hx : l.length = n) (hn : n ≤ 1048576) (hL : LeafL 3 rPair w.heap.size w a c l) :
    Calls Tryd.prog 21 #[.slice a n c] w fun e w' => ∃ v, e = .returned v ∧ w'.ownsRow w.heap.size 9 1 v n ((keysP l).map Value.string) ∧ Below w.heap.size w w' := by
  obtain ⟨i0, hi, hz0, hz1, hz2⟩ := info_parts Tryd.infoOfStr
  have HX := Hid.mk hx
  have HL := Hid.mk hL
  clear hx hL
  go_enter Tryd.func21, Tryd.ntmps21
  go_wp2_with fail
  go_loopw [3, 8] (fun v i wr => ∃ k : Nat, k ≤ n ∧ i = .int .i64 k ∧ wr.ownsRow w.heap.size 9 1 v k ((keysP (l.take k)).map Value.string) ∧ Below w.heap.size w wr) (fun _ i _ => n - (intOf i).toNat)
  case atStart => exact ⟨0, Nat.zero_le _, rfl, own_nilT w _ _ 1, Below.refl _ _⟩
  case round =>
    obtain ⟨k, hk, rfl, hown, hbk⟩ := hrel
    by_cases hlt : k < n
    · have hkl : k < l.length := by rw [HX.out]; exact hlt
      have HST := Hid.mk (keys_step hkl)
      obtain ⟨b1, o1, rfl, hbB, cs, hcl, hcell, hrT⟩ := (HL.out.2.2.below rPair_good hbk) k hkl
      generalize l[k] = p at *
      obtain ⟨rfl, h0, h1, h2, _⟩ := hrT
      have k0 := hcell 0 _ rfl
      have k1 := hcell 1 _ rfl
      have k2 := hcell 2 _ rfl
      rw [Nat.add_zero] at k0
      clear hcell hcl
      obtain ⟨xs, HXS⟩ : ∃ xs, Hid (xs = (keysP (l.take k)).map Value.string) := ⟨_, rfl⟩
      rw [← HXS.out] at hown
      obtain ⟨wp, hwp⟩ : ∃ wp, wp = wr.alloc (.cells #[.string p.fKey, .string p.fVal, .bool p.fGone] 32) := ⟨_, rfl⟩
      have hbp : Below wr.heap.size wr wp := by rw [hwp]; exact (Below.refl _ _).alloc (Nat.le_refl _) _
      obtain ⟨ws, hws⟩ : ∃ ws, ws = wp.alloc (.cells #[.string p.fKey] 9) := ⟨_, rfl⟩
      have hbs : Below wr.heap.size wr ws := by rw [hws]; exact hbp.alloc hbp.size _
      have hbx : Bx ws (wr.heap.size + 1) [.string p.fKey] := by rw [show wr.heap.size + 1 = wp.heap.size from by rw [hwp]; simp, hws]; exact Bx.new _ _ _
      have hown1 := own_below hown hbs
      have hbz := hbs.size
      have hbw := hbk.size
      go_wp2_with (at_builtin; rw [← hwp, ← hws]; refine wpList_append_own_at _ rfl _ _ 30 rfl w.heap.size 9 i0 (.string ByteArray.empty) 1 16 Tryd.underlying30 hi hz0 hz1 hz2 rfl (by decide) _ _ _ rfl hown1 ⟨wr.heap.size + 1, 0, none⟩ 1 1 [.string p.fKey] rfl rfl (bx_news hbx) (by intro u hu; simp at hu; subst hu; rfl) (by unfold maxLen; omega) (by omega) (by omega) ?_; intro v' w3 hown3 hgrow3 hnil hloc)
      have hT := Turn.after hbs (turnOwn hgrow3)
      have hge : ∀ k, k ∈ (Value.ownBlock _).toList → w.heap.size ≤ k := fun k hk => (hown.lt k (by simpa using hk)).1
      go_roundw
      case rel => exact ⟨k + 1, by omega, by go_num, own_congr hown3 rfl (by rw [HST.out, HXS.out]), Turn.under hbk hT (fun k hk => hge k hk)⟩
      case measure => simp [intOf]; omega
    · have hkn : k = n := by omega
      subst hkn
      have HT1 : Hid (l.take k = l) := List.take_of_length_le (by rw [HX.out]; exact Nat.le_refl _)
      rw [HT1.out] at hown
      go_wp2_with fail
      go_ret
      exact ⟨_, rfl, hown, hbk⟩


theorem Tryd.infoMark : (Tryd.prog.info? 49).map (fun i => (i.zero, i.size, i.bytes)) = some (some (.agg #[.string ⟨#[]⟩, .int .i64 0]), 2, 24) := by kernel_rfl

theorem idxB_marks (l : List MPair) (i : Nat) : idxB l i = idxM (marksB l i) := by
  induction i with
  | zero => rfl
  | succ i ih => rw [idxB, marksB, idxM_snoc, ih]; rfl

set_option maxHeartbeats 4000000 in
theorem implPutTable_any (a : Option Addr) (n c : Nat) (l : List MPair) (w : World) (hx : l.length = n) (hn : n ≤ 1048576) (hL : LeafL 3 rPair w.heap.size w a c l) (hw : sumW wPair l ≤ 1048576) (hT : Tabs w) (ht : TabAt w) :
    Calls Tryd.prog 6 #[.slice a n c] w fun e w' => ∃ v, e = .returned v ∧
      w'.ownsRow w.heap.size 5 1 v (tabP l).length ((tabP l).map (Value.int .u8)) ∧ Below w.heap.size w w' := by
  obtain ⟨i0, hi, hz0, hz1, hz2⟩ := info_parts Tryd.info5
  obtain ⟨iM, hiM, hzM0, hzM1, hzM2⟩ := info_parts Tryd.infoMark
  by_cases hr : 1 ≤ n ∧ n ≤ 200
  rotate_left
  · have HV : Hid (tabP l = []) := tabP_out (by rw [hx]; exact hr)
    clear hx hL
    by_cases h0 : n = 0
    · subst h0
      go_enter Tryd.func6, Tryd.ntmps6
      go_wp2_with fail
      go_ret
      exact ⟨_, rfl, by rw [HV.out]; exact own_nil w _ _ 1 (Nat.le_refl _), Below.refl _ _⟩
    · have h1 : 200 < n := by omega
      have h2 : ((n : Int) == 0) = false := beq_eq_false_iff_ne.2 (by omega)
      go_enter Tryd.func6, Tryd.ntmps6
      go_wp2_with fail
      go_ret
      exact ⟨_, rfl, by rw [HV.out]; exact own_nil w _ _ 1 (Nat.le_refl _), Below.refl _ _⟩
  obtain ⟨hr1, hr2⟩ := hr
  have h2 : ((n : Int) == 0) = false := beq_eq_false_iff_ne.2 (by omega)
  have h3 : ¬ 200 < (n : Int) := by omega
  have HL := Hid.mk hL
  have HTT := Hid.mk ht
  have HX := Hid.mk hx
  have HP := Hid.mk (pairsOk_any a n c l w hx hn hL hT hw)
  cases hok : pairsOkP l with
  | false =>
    rw [hok] at HP
    have HV : Hid (tabP l = []) := tabP_bad hok
    clear hx hL hT ht
    go_enter Tryd.func6, Tryd.ntmps6
    go_wp2_with fail
    refine Calls.mono HP.out ?_
    rintro e w0 ⟨rfl, hb0⟩
    go_wp2_with fail
    go_ret
    exact ⟨_, rfl, by rw [HV.out]; exact own_nil w0 _ _ 1 hb0.size, hb0⟩
  | true =>
    rw [hok] at HP
    have HV : Hid (tabP l = tabB l) := tabP_yes hok (by omega) (by omega)
    clear hx hL hT ht
    go_enter Tryd.func6, Tryd.ntmps6
    go_wp2_with fail
    refine Calls.mono HP.out ?_
    rintro e w0 ⟨rfl, hb0⟩
    clear h2 h3
    go_wp2_with fail
    go_loopw [3, 4, 5] (fun o mk f wr => ∃ i : Nat, 4 * i ≤ n + 3 ∧ f = .int .i64 (4 * i : Nat) ∧ wr.ownsRow w.heap.size 5 1 o (outB l i).length ((outB l i).map (Value.int .u8)) ∧ RowR 2 49 rMark w.heap.size wr w.heap.size mk (marksB l i) ∧ Dis mk o ∧ Below w.heap.size w wr) (fun _ _ f _ => n + 4 - (intOf f).toNat)
    case atStart => exact ⟨0, by omega, rfl, own_nil w0 _ _ 1 hb0.size, RowR.start, dis_nil _, hb0⟩
    case round =>
      obtain ⟨i, hin, rfl, hown, hrow, hdis, hbk⟩ := hrel
      by_cases hlt : 4 * i < n
      · obtain ⟨s, hs⟩ : ∃ s, s + 1 = min (4 * i + 4) n := ⟨min (4 * i + 4) n - 1, by omega⟩
        have hmin : min (4 * (i : Int) + 4) (n : Int) = (s : Int) + 1 := by omega
        have hs1 : s + 1 ≤ n := by omega
        have hs2 : 4 * i ≤ s := by omega
        have hs3 : s ≤ 4 * i + 3 := by omega
        have hsl : s < l.length := by rw [HX.out]; omega
        have HLK := Hid.mk (blk_last (l := l) (i := i) (t := s + 1) (by rw [HX.out]; exact hlt) (by rw [HX.out]; exact hs) hsl)
        obtain ⟨b1, o1, rfl, hbB, cs, hcl, hcell, hrT⟩ := (HL.out.2.2.below rPair_good hbk) s hsl
        obtain ⟨key, hkk⟩ : ∃ k, k = l[s].fKey := ⟨_, rfl⟩
        have HKK := Hid.mk hkk
        obtain ⟨rfl, g0, g1, g2, _⟩ := hrT
        have k0 := hcell 0 _ rfl
        rw [Nat.add_zero, ← hkk] at k0
        have HSS := Hid.mk hs
        clear hcell hcl g0 g1 g2 hkk hs
        have hnc : n ≤ c := by have h := HL.out.1; rw [HX.out] at h; exact h
        have hol := outB_len hw i
        have hoo := outB_ok l i
        have hml := marksB_length l i
        have HZN : Hid (outB l (i + 1) = outB l i ++ frame (blockB ByteArray.empty (blk l i))) := rfl
        have HMN : Hid (marksB l (i + 1) = marksB l i ++ [(lastK ByteArray.empty (blk l i), ((outB l i).length : Int))]) := rfl
        generalize outB l i = zs at *
        generalize marksB l i = ms at *
        obtain ⟨ro, qo, rfl, _, _⟩ := own_rd rfl hown
        obtain ⟨css, r1, r2, r3, r4⟩ := hrow
        obtain ⟨wm, hwm⟩ : ∃ x, x = wr.alloc (.cells #[.string key, .int .i64 zs.length] 49) := ⟨_, rfl⟩
        have hbm : Below wr.heap.size wr wm := by rw [hwm]; exact (Below.refl _ _).alloc (Nat.le_refl _) _
        have hbx : Bx wm wr.heap.size [.string key, .int .i64 zs.length] := by rw [hwm]; exact Bx.new _ _ _
        have r4x := own_below r4 hbm
        have hownx := own_below hown hbm
        have hzm := hbm.size
        have hzk := hbk.size
        rw [hml] at r4 r4x
        go_wp2_with (at_builtin; rw [← hwm]; refine wpList_append_own_at _ rfl _ _ 47 rfl w.heap.size 49 iM (.agg #[.string ⟨#[]⟩, .int .i64 0]) 2 24 Tryd.underlying47 hiM hzM0 hzM1 hzM2 rfl (by decide) _ _ _ rfl r4x ⟨wr.heap.size, 0, none⟩ 1 1 [.string key, .int .i64 zs.length] rfl rfl (bx_news hbx) (by intro u hu; simp at hu; rcases hu with rfl | rfl <;> rfl) (by unfold maxLen; omega) (by omega) (by omega) ?_; intro v1 w1 hown1 hgrow1 hnil1 hloc1)
        have hBm := hbk.trans (hbm.mono hbk.size)
        have hB1 := hBm.grown hgrow1 hBm.size (fun k h => (r4x.lt k h).1)
        have hbw1 : Below w.heap.size wr w1 := (hbm.mono hbk.size).grown hgrow1 hBm.size (fun k h => (r4x.lt k h).1)
        have hownA := own_other hownx hgrow1 hdis
        have hdis1 := dis_app hloc1 hownx hdis
        have hrow1 : RowR 2 49 rMark w.heap.size w1 w.heap.size v1 (ms ++ [(key, (zs.length : Int))]) := RowR.push rMark_good r1 r2 r3 hbw1 rfl rfl (own_congr hown1 (by rw [hml]) rfl)
        have HBK : Hid ((l.drop (4 * i)).take (s + 1 - 4 * i) = blk l i) := by
          have h1 := HSS.out
          have h2 := HX.out
          show _ = (l.drop (4 * i)).take 4
          by_cases h4 : s + 1 = 4 * i + 4
          · rw [show s + 1 - 4 * i = 4 from by omega]
          · rw [List.take_of_length_le (by simp; omega), List.take_of_length_le (by simp; omega)]
        have hLb := LeafL.sub HL.out (f := 4 * i) (m := s + 1 - 4 * i) (c' := s + 1 - 4 * i) (by rw [HX.out]; omega) (Nat.le_refl _) (by omega)
        rw [HBK.out] at hLb
        have hlb : (blk l i).length = s + 1 - 4 * i := by have h1 := blk_length (l := l) (i := i); have h2 := HX.out; have h3 := HSS.out; omega
        have HLB := Hid.mk (LeafL.mono rPair_good (LeafL.below rPair_good hLb hB1) hB1.size)
        have hwb : sumW wPair (blk l i) ≤ 1048576 := Nat.le_trans (blk_weight l i) hw
        have hbl := blk_bd hw i
        have hbo := blockB_ok ByteArray.empty (blk l i)
        clear hown hownx r1 r2 r3 r4 r4x hgrow1 hnil1 hloc1 hown1 hbx hbm hwm hdis hBm hbw1 hLb k0
        refine (blockBody_any _ _ _ (blk l i) w1 hlb (by omega) HLB.out hwb).mono ?_
        rintro e w2 ⟨v2, rfl, ho2, hx2⟩
        have hB2 := hB1.trans (hx2.mono hB1.size)
        obtain ⟨z2, HZ2⟩ : ∃ z, Hid (z = blockB ByteArray.empty (blk l i)) := ⟨_, rfl⟩
        rw [← HZ2.out] at ho2 hbl hbo
        obtain ⟨r2, q2, rfl, _, hr2⟩ := own_rd rfl ho2
        clear ho2
        have hownB := own_below hownA hx2
        have hrow2 := RowR.keep rMark_good hrow1 hx2 hB1.size
        clear hownA hrow1
        go_wp2_with fail
        refine (implFrame_R r2 _ q2 z2 w2 rfl (by omega) hr2 hbo (HTT.out.below hB2 HTT.out.size)).mono ?_
        rintro e w3 ⟨v3, rfl, ho3, hx3⟩
        have hB3 := hB2.trans (hx3.mono hB2.size)
        obtain ⟨z3, HZ3⟩ : ∃ z, Hid (z = frame z2) := ⟨_, rfl⟩
        have hl3 : z3.length ≤ 1048649 := by rw [HZ3.out]; have := frame_len z2; omega
        rw [← HZ3.out] at ho3
        obtain ⟨r3, q3, rfl, _, hr3⟩ := own_rd rfl ho3
        clear ho3
        have hownC := own_below hownB hx3
        have hrow3 := RowR.keep rMark_good hrow2 hx3 hB2.size
        clear hownB hrow2
        have hi50 : i ≤ 50 := by omega
        have hoz : zs.length ≤ 52432450 := Nat.le_trans hol (by omega)
        go_wp2_with (at_builtin; refine wpList_append_src_at rfl _ _ 22 22 rfl w.heap.size 5 i0 (.int .u8 0) 1 1 Tryd.underlying22 hi hz0 hz1 hz2 rfl _ _ _ rfl hownC _ rfl z3.length (z3.map (Value.int .u8)) (Src.rd Tryd.underlying22 rfl hr3) (by unfold maxLen; omega) (by omega) hB3.size ?_; intro v4 w4 ho4 hgr4 hat4)
        have hB4 := hB3.grown hgr4 hB3.size (fun k h => (hownC.lt k h).1)
        obtain ⟨css3, y1, y2, y3, y4⟩ := hrow3
        have hdis4 := (dis_app hat4 y4 hdis1.symm).symm
        have hrow4 : RowR 2 49 rMark w.heap.size w4 w.heap.size v1 (ms ++ [(key, (zs.length : Int))]) := ⟨css3, y1, y2, y3, own_other y4 hgr4 hdis1.symm⟩
        have HO4 : Hid (w4.ownsRow w.heap.size 5 1 v4 (outB l (i + 1)).length ((outB l (i + 1)).map (Value.int .u8))) := by
          show w4.ownsRow _ _ _ _ _ _
          rw [HZN.out, ← HZ2.out, ← HZ3.out]
          exact own_congr ho4 (by simp) (by simp)
        have HR4 : Hid (RowR 2 49 rMark w.heap.size w4 w.heap.size v1 (marksB l (i + 1))) := by
          show RowR _ _ _ _ _ _ _ _
          rw [HMN.out, HLK.out]
          have h := hrow4
          rw [HKK.out] at h
          exact h
        clear hownC y1 y2 y3 y4 hrow4 ho4 hgr4 hat4 hr3 hr2
        go_roundw
        case rel => exact ⟨i + 1, by omega, by first | go_num | (congr 1; omega), HO4.out, HR4.out, hdis4, hB4⟩
        case measure => simp [intOf]; omega
      · have HN : Hid (i = nBlk l) := by show i = _; unfold nBlk; rw [HX.out]; omega
        have hi51 : i ≤ 50 := by omega
        have hol := outB_len hw i
        have hoo := outB_ok l i
        have hml := marksB_length l i
        have hms := marksB_small hw i
        have HTB : Hid (tabB l = outB l i ++ frame (putNum (clampN i) ++ idxB l i ++ flt (keysP l)) ++ four (outB l i).length) := by show tabB l = _; unfold tabB; rw [HN.out]
        have HIM := Hid.mk (idxB_marks l i)
        generalize outB l i = zs at *
        generalize marksB l i = ms at *
        have hoz : zs.length ≤ 52432450 := Nat.le_trans hol (by omega)
        obtain ⟨ro, qo, rfl, _, _⟩ := own_rd rfl hown
        obtain ⟨am, cm, rfl, hLM⟩ := RowR.leaf rMark_good hrow hbk.size
        rw [hml]
        have HML := Hid.mk hml
        clear hml
        have HLM := Hid.mk hLM
        clear hLM hrow hdis
        have HLk := Hid.mk (LeafL.mono rPair_good (LeafL.below rPair_good HL.out hbk) hbk.size)
        go_wp2_with fail
        refine (keysOf_any a n c l wr HX.out hn HLk.out).mono ?_
        rintro e w1 ⟨v1, rfl, ho1, hx1⟩
        have hB1 := hbk.trans (hx1.mono hbk.size)
        have hkl : (keysP l).length = n := by unfold keysP; rw [List.length_map]; exact HX.out
        obtain ⟨ak, ck, rfl, _, _, hrk⟩ := rdT_own (F := _) (l := keysP l) ⟨own_base (own_congr ho1 hkl.symm rfl) (Nat.zero_le _), rfl⟩
        have hsk : ∀ s, s ∈ keysP l → s.size ≤ 140737488351232 := fun s hs => by
          unfold keysP at hs
          obtain ⟨p, hp, rfl⟩ := List.mem_map.1 hs
          obtain ⟨k, hk, rfl⟩ := List.getElem_of_mem hp
          have h1 := sumW_le (f := wPair) hk
          have h2 : wPair l[k] = l[k].fKey.size + l[k].fVal.size := rfl
          omega
        have hownA := own_below hown hx1
        clear ho1 hown
        rw [hkl]
        go_wp2_with fail
        refine (implFilter_any ak n ck (keysP l) w1 hkl (by omega) hsk hrk (HTT.out.below hB1 HTT.out.size)).mono ?_
        rintro e w2 ⟨v2, rfl, ho2, hx2⟩
        have hB2 := hB1.trans (hx2.mono hB1.size)
        have hfl := flt_length (keysP l)
        have hfo := flt_ok (keysP l)
        obtain ⟨fs, HFS⟩ : ∃ f, Hid (f = flt (keysP l)) := ⟨_, rfl⟩
        rw [← HFS.out] at ho2 hfl hfo
        obtain ⟨r2, q2, rfl, _, hr2⟩ := own_rd hfl ho2
        have hownB := own_below hownA hx2
        clear ho2 hownA hrk
        have hLM2 : LeafL 2 rMark w2.heap.size w2 am cm ms := LeafL.mono rMark_good (LeafL.below rMark_good (LeafL.mono rMark_good (LeafL.below rMark_good HLM.out hx1) hx1.size) hx2) hx2.size
        go_wp2_with fail
        refine (indexBody_any am r2 i cm 8 q2 ms fs w2 HML.out (by omega) hLM2 hms hfl (by omega) hr2).mono ?_
        rintro e w3 ⟨v3, rfl, ho3, hx3⟩
        have hB3 := hB2.trans (hx3.mono hB2.size)
        obtain ⟨z3, HZ3⟩ : ∃ z, Hid (z = putNum (clampN i) ++ idxM ms ++ fs) := ⟨_, rfl⟩
        have hl3 : z3.length ≤ 53000000 := by
          rw [HZ3.out]
          have h1 := putNum_length (clampN i)
          have h2 := idxM_len ms hms
          have h3 : 1048586 * ms.length ≤ 1048586 * 50 := Nat.mul_le_mul_left _ (by rw [HML.out]; omega)
          simp only [List.length_append, hfl]
          omega
        have ho3k : BytesOk z3 := by rw [HZ3.out]; exact ((putNum_ok _).append (idxM_ok ms)).append hfo
        rw [← HZ3.out] at ho3
        obtain ⟨r3, q3, rfl, _, hr3⟩ := own_rd rfl ho3
        have hownC := own_below hownB hx3
        clear ho3 hownB hr2 hLM2
        go_wp2_with fail
        refine (implFrame_R r3 _ q3 z3 w3 rfl (by omega) hr3 ho3k (HTT.out.below hB3 HTT.out.size)).mono ?_
        rintro e w4 ⟨v4, rfl, ho4, hx4⟩
        have hB4 := hB3.trans (hx4.mono hB3.size)
        obtain ⟨z4, HZ4⟩ : ∃ z, Hid (z = frame z3) := ⟨_, rfl⟩
        have hl4 : z4.length ≤ 53000009 := by rw [HZ4.out]; have := frame_len z3; omega
        rw [← HZ4.out] at ho4
        obtain ⟨r4, q4, rfl, _, hr4⟩ := own_rd rfl ho4
        have hownD := own_below hownC hx4
        clear ho4 hownC hr3
        go_wp2_with (at_builtin; refine wpList_append_src_at rfl _ _ 22 22 rfl w.heap.size 5 i0 (.int .u8 0) 1 1 Tryd.underlying22 hi hz0 hz1 hz2 rfl _ _ _ rfl hownD _ rfl z4.length (z4.map (Value.int .u8)) (Src.rd Tryd.underlying22 rfl hr4) (by unfold maxLen; omega) (by omega) hB4.size ?_; intro v5 w5 ho5 hgr5 hat5)
        have hB5 := hB4.grown hgr5 hB4.size (fun k h => (hownD.lt k h).1)
        obtain ⟨z5, HZ5⟩ : ∃ z, Hid (z = zs ++ z4) := ⟨_, rfl⟩
        have hl5 : z5.length ≤ 110000000 := by rw [HZ5.out, List.length_append]; omega
        have ho5' : w5.ownsRow w.heap.size 5 1 v5 z5.length (z5.map (Value.int .u8)) := own_congr ho5 (by rw [HZ5.out]; simp) (by rw [HZ5.out]; simp)
        obtain ⟨r5, q5, rfl, _, _⟩ := own_rd rfl ho5'
        clear ho5 hgr5 hat5 hownD hr4
        refine (implFour_any zs.length w5 (by omega) (by omega)).mono ?_
        rintro e w6 ⟨rfl, ho6, hx6⟩
        have hB6 := hB5.trans (hx6.mono hB5.size)
        have hownE := own_below ho5' hx6
        have hr6 := Rd.own rfl ho6
        clear ho5' ho6
        go_wp2_with (at_builtin; refine wpList_append_src_at rfl _ _ 22 22 rfl w.heap.size 5 i0 (.int .u8 0) 1 1 Tryd.underlying22 hi hz0 hz1 hz2 rfl _ _ _ rfl hownE _ rfl 4 ((four zs.length).map (Value.int .u8)) (Src.rd Tryd.underlying22 rfl hr6) (by unfold maxLen; omega) (by omega) hB6.size ?_; intro v7 w7 ho7 hgr7 hat7)
        have hB7 := hB6.grown hgr7 hB6.size (fun k h => (hownE.lt k h).1)
        have HO7 : Hid (w7.ownsRow w.heap.size 5 1 v7 (tabP l).length ((tabP l).map (Value.int .u8))) := by
          show w7.ownsRow _ _ _ _ _ _
          rw [HV.out, HTB.out, HIM.out, ← HFS.out, ← HZ3.out, ← HZ4.out, ← HZ5.out]
          exact own_congr ho7 (by simp [four_length]) (by simp)
        clear ho7 hgr7 hat7 hownE
        go_wp2_with fail
        go_ret
        exact ⟨v7, rfl, HO7.out, hB7⟩

end Go.Proofs.YtmedljankefhbaaDoor
