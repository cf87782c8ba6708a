/-
  The program's body of an index.
-/
import Derived.Test.YtjaaaopbidmknaaDoorRegK
import Derived.Test.YtjaaaopbidmknaaDoorBlkB
namespace Go.Proofs.YtjaaaopbidmknaaDoor
open Go.RowKit
set_option linter.unusedVariables false
set_option linter.unusedSimpArgs false
set_option maxRecDepth 10000
abbrev q44e_83_5_0 : Oper := ⟨some 18, .move (.tmp 5), 27, "l05_table.go:171", #[], none⟩
abbrev q44e_83_5_1 : Oper := ⟨some 19, .fieldAddr 97 (.tmp 7) 0, 0, "l05_table.go:171", #[], none⟩
abbrev q44e_83_5_2 : Oper := ⟨some 20, .load 9 (.tmp 19), 9, "l05_table.go:171", #[⟨1, .data⟩], none⟩
abbrev q44e_83_5_4 : Oper := ⟨some 22, .fieldAddr 97 (.tmp 7) 1, 0, "l05_table.go:171", #[], none⟩
abbrev q44e_83_5_5 : Oper := ⟨some 23, .load 3 (.tmp 22), 3, "l05_table.go:171", #[⟨4, .data⟩], none⟩
abbrev q44e_83_5_6 : Oper := ⟨some 24, .buildSlice 73 1 #[(0, .tmp 23)], 73, "l05_table.go:171", #[⟨5, .data⟩], none⟩
abbrev q44e_83_5_3 : Oper := ⟨some 21, .call { callee := .value (.func 118), args := #[.tmp 18, .tmp 20], argTypes := #[27, 9] }, 27, "l05_table.go:171", #[⟨0, .data⟩, ⟨2, .data⟩], none⟩
abbrev q44e_83_5_7 : Oper := ⟨some 25, .call { callee := .value (.func 105), args := #[.tmp 21, .tmp 24], argTypes := #[27, 73] }, 27, "l05_table.go:171", #[⟨3, .data⟩, ⟨6, .data⟩, ⟨3, .chain⟩], none⟩
abbrev q44e_83_5_8 : Oper := ⟨some 5, .assign (.tmp 25), 27, "l05_table.go:171", #[⟨7, .data⟩, ⟨7, .chain⟩, ⟨0, .phase⟩, ⟨1, .phase⟩, ⟨2, .phase⟩, ⟨3, .phase⟩, ⟨4, .phase⟩, ⟨5, .phase⟩, ⟨6, .phase⟩, ⟨7, .phase⟩], none⟩

/-- What the index says of a block: its last key, and where it begins. -/
def rMark : Rep (ByteArray × Int) := fun _ _ cs m => cs = [.string m.1, .int .i64 m.2]
theorem rMark_good : rMark.Good := ⟨fun h _ => h, fun h _ => h⟩
def mark1 (m : ByteArray × Int) : List Int := putText [] m.1 ++ putNum (clampN m.2)
def idxM : List (ByteArray × Int) → List Int
  | [] => []
  | m :: r => mark1 m ++ idxM r
theorem idxM_snoc (l : List (ByteArray × Int)) (m : ByteArray × Int) : idxM (l ++ [m]) = idxM l ++ mark1 m := by
  induction l with
  | nil => simp [idxM]
  | cons x l ih => simp [idxM, ih]
theorem mark1_ok (m : ByteArray × Int) : BytesOk (mark1 m) := (putText_ok (by intro z hz; cases hz) _).append (putNum_ok _)
theorem idxM_ok (l : List (ByteArray × Int)) : BytesOk (idxM l) := by
  induction l with
  | nil => intro z hz; cases hz
  | cons x l ih => exact (mark1_ok x).append ih
theorem mark1_len {m : ByteArray × Int} (h : m.1.size ≤ 1048576) : (mark1 m).length ≤ 1048586 := by
  have h1 := putText_len [] m.1
  have h2 := (putNum_length (clampN m.2)).2
  simp only [mark1, List.length_append, List.length_nil] at *
  omega
theorem idxM_len (l : List (ByteArray × Int)) (h : ∀ m, m ∈ l → m.1.size ≤ 1048576) : (idxM l).length ≤ 1048586 * l.length := by
  induction l with
  | nil => simp [idxM]
  | cons x l ih =>
    have h1 := mark1_len (h x (by simp))
    have h2 := ih (fun m hm => h m (by simp [hm]))
    simp only [idxM, List.length_append, List.length_cons]
    omega
theorem idxM_step {l : List (ByteArray × Int)} {k : Nat} (h : k < l.length) : idxM (l.take (k + 1)) = idxM (l.take k) ++ mark1 l[k] := by
  rw [List.take_succ_eq_append_getElem h, idxM_snoc]

set_option maxHeartbeats 4000000 in
theorem indexBody_any (a fa : Option Addr) (n c fn fc : Nat) (l : List (ByteArray × Int)) (fs : List Int) (w : World) (hx : l.length = n) (hn : n ≤ 1000) (hL : LeafL 2 rMark w.heap.size w a c l) (hsz : ∀ m, m ∈ l → m.1.size ≤ 1048576) (hfx : fs.length = fn) (hfn : fn ≤ 1000) (hF : Rd .u8 w.heap.size w fa fs) :
    Calls Tryd.prog 83 #[.slice a n c, .slice fa fn fc] w fun e w' => ∃ v, e = .returned v ∧
      w'.ownsRow w.heap.size 5 1 v (putNum (clampN n) ++ idxM l ++ fs).length ((putNum (clampN n) ++ idxM l ++ fs).map (Value.int .u8)) ∧ Below w.heap.size w w' := by
  obtain ⟨i0, hi, hz0, hz1, hz2⟩ := info_parts Tryd.info5
  have HX := Hid.mk hx
  have HL := Hid.mk hL
  have HFX := Hid.mk hfx
  have HF := Hid.mk hF
  have hpn := putNum_length (clampN n)
  have hbd : ∀ k, k ≤ n → (putNum (clampN n) ++ idxM (l.take k)).length ≤ 1048600000 := fun k hk => by
    have h1 := idxM_len (l.take k) (fun m hm => hsz m (List.mem_of_mem_take hm))
    have h2 : (l.take k).length ≤ n := by simp; omega
    have h3 : 1048586 * (l.take k).length ≤ 1048586 * 1000 := Nat.mul_le_mul_left _ (by omega)
    rw [List.length_append]
    omega
  clear hx hL hfx hF
  go_enter Tryd.func83, Tryd.ntmps83
  go_wp2_with fail
  obtain ⟨wq, hwq⟩ : ∃ x, x = w.alloc (.cells #[.int .i64 n] 3) := ⟨_, rfl⟩
  have hbq : Below w.heap.size w wq := by rw [hwq]; exact (Below.refl _ _).alloc (Nat.le_refl _) _
  have hrq : Rd .i64 wq.heap.size wq (some ⟨w.heap.size, 0, none⟩) [(n : Int)] := by rw [hwq]; exact (rd_one .i64 w (n : Int) 3).mono (by simp)
  rw [← hwq]
  clear hwq
  refine (putNums_any none (some ⟨w.heap.size, 0, none⟩) 0 0 1 1 [] [(n : Int)] wq rfl rfl (by omega) (by omega) (fun j hj => by simp at hj) hrq).mono ?_
  rintro e w1 ⟨v1, rfl, ho1, hx1⟩
  have hb1 := hbq.trans (hx1.mono hbq.size)
  have hown1 : w1.ownsRow w.heap.size 5 1 v1 (putNum (clampN n) ++ idxM (l.take 0)).length ((putNum (clampN n) ++ idxM (l.take 0)).map (Value.int .u8)) := own_base (own_congr ho1 (by simp [putNums, idxM]) (by simp [putNums, idxM])) hbq.size
  clear ho1 hrq hx1 hbq
  go_wp2_with fail
  go_loopw [5, 14] (fun b i wr => ∃ k : Nat, k ≤ n ∧ i = .int .i64 k ∧ wr.ownsRow w.heap.size 5 1 b (putNum (clampN n) ++ idxM (l.take k)).length ((putNum (clampN n) ++ idxM (l.take k)).map (Value.int .u8)) ∧ Below w.heap.size w wr) (fun _ i _ => n - (intOf i).toNat)
  case atStart => exact ⟨0, Nat.zero_le _, rfl, hown1, hb1⟩
  case round =>
    obtain ⟨k, hk, rfl, hownk, hbk⟩ := hrel
    clear hown1 hb1
    by_cases hlt : k < n
    · have hkl : k < l.length := by rw [HX.out]; exact hlt
      have HS := Hid.mk (idxM_step hkl)
      have hzl := hbd k hk
      have hmk := hsz _ (List.getElem_mem hkl)
      obtain ⟨b1, o1, rfl, hbB, cs, hcl, hcell, hrT⟩ := (HL.out.2.2.below rMark_good hbk) k hkl
      generalize l[k] = m at *
      obtain rfl : cs = [.string m.1, .int .i64 m.2] := hrT
      have k0 := hcell 0 _ rfl
      have k1 := hcell 1 _ rfl
      rw [Nat.add_zero] at k0
      clear hcell hcl
      obtain ⟨zs, HZ⟩ : ∃ zs, Hid (zs = putNum (clampN n) ++ idxM (l.take k)) := ⟨_, rfl⟩
      rw [← HZ.out] at hownk hzl
      obtain ⟨ra, qa, rfl, _, hrd⟩ := own_rd rfl hownk
      clear hownk
      obtain ⟨wp, hwp⟩ : ∃ wp, wp = wr.alloc (.cells #[.string m.1, .int .i64 m.2] 97) := ⟨_, rfl⟩
      have hbp : Below wr.heap.size wr wp := by rw [hwp]; exact (Below.refl _ _).alloc (Nat.le_refl _) _
      have hbv : Bx wp wr.heap.size [.string m.1, .int .i64 m.2] := by rw [hwp]; exact Bx.new _ _ _
      have hBp := hbk.trans (hbp.mono hbk.size)
      have HRP := Hid.mk ((hrd.below hbp).mono hbp.size)
      obtain ⟨z2, HZ2⟩ : ∃ z, Hid (z = putText zs m.1) := ⟨_, rfl⟩
      have hl2 : z2.length ≤ 1050000000 := by rw [HZ2.out]; have := putText_len zs m.1; omega
      go_wp2_with fail
      rw [← hwp]
      clear hwp hrd k0 k1
      obtain ⟨g, hg⟩ : ∃ g, g = wr.heap.size := ⟨_, rfl⟩
      rw [← hg] at hbv ⊢
      clear hg
      have hgl := hbv.1
      have y0 := hbv.2 0 _ rfl
      have y1 := hbv.2 1 _ rfl
      have HC : Hid (∀ W, Below wp.heap.size wp W → W.cell? ⟨g, 0, none⟩ = some (.string m.1) ∧ W.cell? ⟨g, 1, none⟩ = some (.int .i64 m.2)) := fun W hW =>
        ⟨(hW.cell (p := ⟨g, 0, none⟩) hgl).trans y0, (hW.cell (p := ⟨g, 1, none⟩) hgl).trans y1⟩
      refine wp_region_held_drew (S := fun W => (W.cell? ⟨g, 0, none⟩ = some (.string m.1) ∧ W.cell? ⟨g, 1, none⟩ = some (.int .i64 m.2)) ∧ Below wp.heap.size wp W) (by kernel_rfl) (⟨⟨y0, y1⟩, Below.drew (Below.refl _ _)⟩) (fun hHeld => ?_)
      obtain ⟨wS, hwS⟩ : ∃ wS, wS = wp.drew := ⟨_, rfl⟩
      rw [← hwS] at hHeld ⊢
      clear hwS
      refine tk 0 q44e_83_5_0 (some 18) (v := ?v1) rfl rfl (by kernel_rfl) hHeld (by rfl) (fun _ _ _ x => x) (fun w h => ?y1) ?_; (case y1 => (try dsimp only at h); go_simp; try (with_reducible rfl)); try simp only [Act.put, sa, s0, s1]
      refine tk 1 q44e_83_5_1 (some 19) (v := ?v2) rfl rfl (by kernel_rfl) hHeld (by rfl) (fun _ _ _ x => x) (fun w h => ?y2) ?_; (case y2 => (try dsimp only at h); go_simp; try (with_reducible rfl)); try simp only [Act.put, sa, s0, s1]
      refine tk 2 q44e_83_5_2 (some 20) (v := ?v3) rfl rfl (by kernel_rfl) hHeld (by rfl) (fun _ _ _ x => x) (fun w h => ?y3) ?_; (case y3 => (try dsimp only at h); go_simp; try (with_reducible rfl)); try simp only [Act.put, sa, s0, s1]
      refine tk 4 q44e_83_5_4 (some 22) (v := ?v4) rfl rfl (by kernel_rfl) hHeld (by rfl) (fun _ _ _ x => x) (fun w h => ?y4) ?_; (case y4 => (try dsimp only at h); go_simp; try (with_reducible rfl)); try simp only [Act.put, sa, s0, s1]
      refine tk 5 q44e_83_5_5 (some 23) (v := ?v5) rfl rfl (by kernel_rfl) hHeld (by rfl) (fun _ _ _ x => x) (fun w h => ?y5) ?_; (case y5 => (try dsimp only at h); go_simp; try (with_reducible rfl)); try simp only [Act.put, sa, s0, s1]
      refine wpAnyH_ready (rs := [3, 6]) (by kernel_rfl) (by simp) ?_
      refine (AllReadyH.cons (o := q44e_83_5_3) rfl (fun K hK => ?_) (AllReadyH.cons (o := q44e_83_5_6) rfl (fun K hK => ?_) AllReadyH.nil))
      · go_simp
        refine Calls.mono (implPutText_R ra _ qa zs m.1 wS rfl (by omega) ((HRP.out.below hHeld.2).mono hHeld.2.size) (by omega)) ?_
        rintro e wE3 ⟨v3, rfl, ho3, hop3⟩
        rw [← HZ2.out] at ho3
        have HB3 := hHeld.2.trans (hop3.mono hHeld.2.size)
        have ho3' := own_base ho3 hHeld.2.size
        obtain ⟨r3, q3, rfl, _, hr3⟩ := own_rd rfl ho3'
        have HR3 := Hid.mk hr3
        clear ho3 ho3' hr3
        go_wp2_with fail
        refine hK.out _ _ (⟨HC.out _ HB3, HB3⟩) (fun hHeld => ?_)
        clear hK K
        try simp only [Act.put, sa, s0, s1]
        refine wpAnyH_ready (rs := [6]) (by kernel_rfl) (by simp) ?_
        refine (AllReadyH.cons (o := q44e_83_5_6) rfl (fun K hK => ?_) AllReadyH.nil)
        · go_simp
          obtain ⟨wE6, hq6⟩ : ∃ x, x = wE3.alloc (.cells #[.int .i64 m.2] 3) := ⟨_, rfl⟩
          have hop6 : Below wE3.heap.size wE3 wE6 := by rw [hq6]; exact (Below.refl _ _).alloc (Nat.le_refl _) _
          have HB6 := hHeld.2.trans (hop6.mono hHeld.2.size)
          obtain ⟨g6, HG6⟩ : ∃ g, Hid (g = wE3.heap.size) := ⟨_, rfl⟩
          have HR6 : Hid (Rd .i64 wE6.heap.size wE6 (some ⟨g6, 0, none⟩) [m.2]) := by unfold Hid; rw [HG6.out, hq6]; exact (rd_one .i64 wE3 m.2 3).mono (by simp)
          rw [← HG6.out]
          rw [← hq6]
          clear hq6
          refine hK.out _ _ (⟨HC.out _ HB6, HB6⟩) (fun hHeld => ?_)
          clear hK K
          try simp only [Act.put, sa, s0, s1]
          refine wpAnyH_ready (rs := [7]) (by kernel_rfl) (by simp) ?_
          refine (AllReadyH.cons (o := q44e_83_5_7) rfl (fun K hK => ?_) AllReadyH.nil)
          · go_simp
            refine Calls.mono (putNums_any r3 (some ⟨g6, 0, none⟩) z2.length q3 1 1 z2 [m.2] wE6 rfl rfl (by omega) (by omega) ((HR3.out.below (show Below wE3.heap.size wE3 wE6 from bthen (Below.refl _ _) hop6)).mono ((show Below wE3.heap.size wE3 wE6 from bthen (Below.refl _ _) hop6)).size) ((HR6.out.below (show Below wE6.heap.size wE6 wE6 from Below.refl _ _)).mono ((show Below wE6.heap.size wE6 wE6 from Below.refl _ _)).size)) ?_
            rintro e wE7 ⟨v7, rfl, ho7, hop7⟩
            have HB7 := hHeld.2.trans (hop7.mono hHeld.2.size)
            have HO7 : Hid (wE7.ownsRow w.heap.size 5 1 v7 (zs ++ mark1 m).length ((zs ++ mark1 m).map (Value.int .u8))) := own_base (own_congr ho7 (by rw [HZ2.out]; simp [putNums, mark1, putText]; omega) (by rw [HZ2.out]; simp [putNums, mark1, putText])) (Nat.le_trans hBp.size hHeld.2.size)
            clear ho7
            go_wp2_with fail
            refine hK.out _ _ (⟨HC.out _ HB7, HB7⟩) (fun hHeld => ?_)
            clear hK K
            try simp only [Act.put, sa, s0, s1]
            refine tk 8 q44e_83_5_8 (some 5) (v := ?v6) rfl rfl (by kernel_rfl) hHeld (by rfl) (fun _ _ _ x => x) (fun w h => ?y6) ?_; (case y6 => (try dsimp only at h); go_simp; try (with_reducible rfl)); try simp only [Act.put, sa, s0, s1]
            refine wpAnyH_done (by kernel_rfl) ?_ _
            go_wp2_with fail
            go_roundw
            case rel => exact ⟨k + 1, by omega, by go_num, by rw [HS.out, ← List.append_assoc, ← HZ.out]; exact HO7.out, hBp.trans (HB7.mono hBp.size)⟩
            case measure => simp [intOf]; omega
      · go_simp
        obtain ⟨wE6, hq6⟩ : ∃ x, x = wS.alloc (.cells #[.int .i64 m.2] 3) := ⟨_, rfl⟩
        have hop6 : Below wS.heap.size wS wE6 := by rw [hq6]; exact (Below.refl _ _).alloc (Nat.le_refl _) _
        have HB6 := hHeld.2.trans (hop6.mono hHeld.2.size)
        obtain ⟨g6, HG6⟩ : ∃ g, Hid (g = wS.heap.size) := ⟨_, rfl⟩
        have HR6 : Hid (Rd .i64 wE6.heap.size wE6 (some ⟨g6, 0, none⟩) [m.2]) := by unfold Hid; rw [HG6.out, hq6]; exact (rd_one .i64 wS m.2 3).mono (by simp)
        rw [← HG6.out]
        rw [← hq6]
        clear hq6
        refine hK.out _ _ (⟨HC.out _ HB6, HB6⟩) (fun hHeld => ?_)
        clear hK K
        try simp only [Act.put, sa, s0, s1]
        refine wpAnyH_ready (rs := [3]) (by kernel_rfl) (by simp) ?_
        refine (AllReadyH.cons (o := q44e_83_5_3) rfl (fun K hK => ?_) AllReadyH.nil)
        · go_simp
          refine Calls.mono (implPutText_R ra _ qa zs m.1 wE6 rfl (by omega) ((HRP.out.below hHeld.2).mono hHeld.2.size) (by omega)) ?_
          rintro e wE3 ⟨v3, rfl, ho3, hop3⟩
          rw [← HZ2.out] at ho3
          have HB3 := hHeld.2.trans (hop3.mono hHeld.2.size)
          have ho3' := own_base ho3 hHeld.2.size
          obtain ⟨r3, q3, rfl, _, hr3⟩ := own_rd rfl ho3'
          have HR3 := Hid.mk hr3
          clear ho3 ho3' hr3
          go_wp2_with fail
          refine hK.out _ _ (⟨HC.out _ HB3, HB3⟩) (fun hHeld => ?_)
          clear hK K
          try simp only [Act.put, sa, s0, s1]
          refine wpAnyH_ready (rs := [7]) (by kernel_rfl) (by simp) ?_
          refine (AllReadyH.cons (o := q44e_83_5_7) rfl (fun K hK => ?_) AllReadyH.nil)
          · go_simp
            refine Calls.mono (putNums_any r3 (some ⟨g6, 0, none⟩) z2.length q3 1 1 z2 [m.2] wE3 rfl rfl (by omega) (by omega) ((HR3.out.below (show Below wE3.heap.size wE3 wE3 from Below.refl _ _)).mono ((show Below wE3.heap.size wE3 wE3 from Below.refl _ _)).size) ((HR6.out.below (show Below wE6.heap.size wE6 wE3 from bthen (Below.refl _ _) hop3)).mono ((show Below wE6.heap.size wE6 wE3 from bthen (Below.refl _ _) hop3)).size)) ?_
            rintro e wE7 ⟨v7, rfl, ho7, hop7⟩
            have HB7 := hHeld.2.trans (hop7.mono hHeld.2.size)
            have HO7 : Hid (wE7.ownsRow w.heap.size 5 1 v7 (zs ++ mark1 m).length ((zs ++ mark1 m).map (Value.int .u8))) := own_base (own_congr ho7 (by rw [HZ2.out]; simp [putNums, mark1, putText]; omega) (by rw [HZ2.out]; simp [putNums, mark1, putText])) (Nat.le_trans hBp.size hHeld.2.size)
            clear ho7
            go_wp2_with fail
            refine hK.out _ _ (⟨HC.out _ HB7, HB7⟩) (fun hHeld => ?_)
            clear hK K
            try simp only [Act.put, sa, s0, s1]
            refine tk 8 q44e_83_5_8 (some 5) (v := ?v7) rfl rfl (by kernel_rfl) hHeld (by rfl) (fun _ _ _ x => x) (fun w h => ?y7) ?_; (case y7 => (try dsimp only at h); go_simp; try (with_reducible rfl)); try simp only [Act.put, sa, s0, s1]
            refine wpAnyH_done (by kernel_rfl) ?_ _
            go_wp2_with fail
            go_roundw
            case rel => exact ⟨k + 1, by omega, by go_num, by rw [HS.out, ← List.append_assoc, ← HZ.out]; exact HO7.out, hBp.trans (HB7.mono hBp.size)⟩
            case measure => simp [intOf]; omega
    · have HT1 : Hid (l.take k = l) := List.take_of_length_le (by rw [HX.out]; omega)
      have hzl := hbd k hk
      rw [HT1.out] at hownk hzl
      obtain ⟨zs, HZ⟩ : ∃ zs, Hid (zs = putNum (clampN n) ++ idxM l) := ⟨_, rfl⟩
      rw [← HZ.out] at hownk hzl
      have hF1 := HF.out.below hbk
      go_wp2_with (at_builtin; refine wpList_append_src _ rfl _ _ 27 27 rfl w.heap.size 5 i0 (.int .u8 0) 1 1 Tryd.underlying27 hi hz0 hz1 hz2 rfl _ _ _ rfl hownk fn (fs.map (Value.int .u8)) (Src.rd Tryd.underlying27 HFX.out hF1) (by unfold maxLen; omega) (by omega) hbk.size ?_)
      intro v9 w9 ho9 hgr9
      have hb9 := hbk.grown hgr9 hbk.size (fun k h => (hownk.lt k h).1)
      have ho9' : w9.ownsRow w.heap.size 5 1 v9 (putNum (clampN n) ++ idxM l ++ fs).length ((putNum (clampN n) ++ idxM l ++ fs).map (Value.int .u8)) := own_congr ho9 (by rw [← HZ.out, List.length_append, HFX.out]) (by rw [← HZ.out]; simp)
      clear ho9 hgr9 hownk
      go_wp2_with fail
      go_ret
      exact ⟨v9, rfl, ho9', hb9⟩

end Go.Proofs.YtjaaaopbidmknaaDoor
