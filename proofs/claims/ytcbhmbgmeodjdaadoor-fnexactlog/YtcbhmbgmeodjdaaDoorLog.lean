/-
  Log: Append of a body's frame.
-/
import Derived.Test.YtcbhmbgmeodjdaaDoorAppe
import Derived.Test.YtcbhmbgmeodjdaaDoorAppeS
import Derived.Test.YtcbhmbgmeodjdaaDoorFrame
namespace Go.Proofs.YtcbhmbgmeodjdaaDoor
open Go.RowKit Go.Maps
set_option linter.unusedVariables false
set_option linter.unusedSimpArgs false
set_option maxRecDepth 10000

theorem frame_len (zs : List Int) : (frame zs).length ≤ zs.length + 16 := by
  have h1 := putNum_length (clampN zs.length)
  simp only [frame, List.length_append, four_length]
  omega
theorem frame_bytes {zs : List Int} (h : BytesOk zs) : BytesOk (frame zs) := by
  have hc := crc_bd h
  exact BytesOk.append (BytesOk.append (four_ok hc.1 hc.2) (putNum_ok _)) h
theorem boundLog_0 (m : MDisk) (s : ByteArray) (b : List Int) (hw : wDisk m ≤ 1048576) (hw1 : s.size ≤ 1048576) (hw2 : b.length ≤ 1048576) : wDisk (appendP m s (frame b)) ≤ 1099511627776 := by
  have h0 := frame_len b
  generalize frame b = z at *
  unfold appendP
  split
  · unfold appendD
    rw [wDisk_eq] at hw ⊢
    have h1 := sumW_updI (l := m.fInodes) (k := fileAt m s) (f := longI z) (c := z.length) (fun n => by unfold longI wInode; simp)
    have h2 := updI_length (l := m.fInodes) (k := fileAt m s) (f := longI z)
    simp only [h2]
    omega
  · omega
theorem frame_rd {B : Nat} {w : World} {v : Value} {zs : List Int} (h : w.ownsRow B 5 1 v (frame zs).length ((frame zs).map (Value.int .u8))) (hb : BytesOk zs) : rdB w.heap.size w v (frame zs) :=
  rdB_own (e := 5) ⟨own_base h (Nat.zero_le _), frame_bytes hb, rfl⟩

set_option maxHeartbeats 4000000 in
theorem implLog_c (cs : List Value) (m : MDisk) (s : ByteArray) (vb : Value) (zb : List Int) (w : World) (hr : rDisk w.heap.size w cs m) (hs : s.size ≤ 9223372036854775807) (hrb : rdB w.heap.size w vb zb) (hw : wDisk m ≤ 1048576) (hw1 : s.size ≤ 1048576) (hwb : zb.length ≤ 1048576) (ht : TabAt w) :
    Calls Tryd.prog 31 #[.agg cs.toArray, .string s, vb] w fun e w' => ∃ (cs' : List Value) (F : List Nat), e = .returned (.tuple #[.agg cs'.toArray, .int .i64 (appendC m s (frame zb))]) ∧ oDisk w' cs' (appendP m s (frame zb)) F ∧ F.Nodup ∧ (∀ b, b ∈ F → w.heap.size ≤ b) ∧ Below w.heap.size w w' := by
  have hsz := World.block_lt_of_cell? _ _ (ht 0 (by decide))
  have HTB := Hid.mk ht
  clear ht
  obtain ⟨ab, cb, rfl, hlb⟩ := hrb
  have HLB := Hid.mk hlb
  clear hlb
  have hq := hr
  obtain ⟨a0, c0, a1, c1, a2, c2, rfl, hI, hNm, hSf, hnx, _⟩ := hq
  have hw2 : m.fInodes.length + sumW wInode m.fInodes + (m.fNames.length + sumW wEntry m.fNames) + (m.fSafe.length + sumW wEntry m.fSafe) ≤ 1048576 := hw
  have HW := Hid.mk hw
  have HR := Hid.mk hr
  clear hr hI hNm hSf hw
  go_enter Tryd.func31, Tryd.ntmps31
  go_wp2_with fail
  obtain ⟨wq, hwq⟩ : ∃ wq, wq = ((w.alloc (.cells #[.slice a0 m.fInodes.length c0, .slice a1 m.fNames.length c1, .slice a2 m.fSafe.length c2, .int .i64 m.fNext] 43)).alloc (.cells #[.slice none 0 0, .slice none 0 0, .slice none 0 0, .int .i64 0] 43)) := ⟨_, rfl⟩
  have hbW : Below w.heap.size w wq := by rw [hwq]; exact Below.alloc (Below.alloc (Below.refl _ _) (by exact Nat.le_refl _) _) (by simp; try omega) _
  have hbd : Bw wq (w.heap.size) 43 [.slice a0 m.fInodes.length c0, .slice a1 m.fNames.length c1, .slice a2 m.fSafe.length c2, .int .i64 m.fNext] := by rw [hwq]; exact Bw.alloc (Bw.new' _ _ _ (by simp)) _
  have hbr : Bw wq (w.heap.size + 1) 43 [.slice none 0 0, .slice none 0 0, .slice none 0 0, .int .i64 0] := by rw [hwq]; exact Bw.new' _ _ _ (by simp)
  rw [← hwq]
  clear hwq
  have hzW := hbW.size
  have hlr := hbr.lt
  have hld := hbd.lt
  have p0 : ∀ W, Turn [w.heap.size + 1] wq W → W.cell? ⟨w.heap.size, 0, none⟩ = some (.slice a0 m.fInodes.length c0) := fun W hb => (hbd.turn hb (by simp)).cell 0 _ rfl
  have p1 : ∀ W, Turn [w.heap.size + 1] wq W → W.cell? ⟨w.heap.size, 1, none⟩ = some (.slice a1 m.fNames.length c1) := fun W hb => (hbd.turn hb (by simp)).cell 1 _ rfl
  have p2 : ∀ W, Turn [w.heap.size + 1] wq W → W.cell? ⟨w.heap.size, 2, none⟩ = some (.slice a2 m.fSafe.length c2) := fun W hb => (hbd.turn hb (by simp)).cell 2 _ rfl
  have p3 : ∀ W, Turn [w.heap.size + 1] wq W → W.cell? ⟨w.heap.size, 3, none⟩ = some (.int .i64 m.fNext) := fun W hb => (hbd.turn hb (by simp)).cell 3 _ rfl
  have hfl := frame_len zb
  have hCf := fun W (hb : Below wq.heap.size wq W) => implFrame_R ab zb.length cb zb W rfl (by omega) ((HLB.out.2.2.1.below (bthen hbW hb)).mono (bthen hbW hb).size) HLB.out.2.2.2 (HTB.out.below (bthen hbW hb) hsz)
  have hCa := fun W v (hb : Below wq.heap.size wq W) (hv : rdB W.heap.size W v (frame zb)) => implAppend_b _ m s v (frame zb) W (rDisk_good.mono (rDisk_good.below HR.out (bthen hbW hb)) (bthen hbW hb).size) hs hv HW.out hw1 (by omega)
  obtain ⟨fz, hfz⟩ : ∃ fz, fz = frame zb := ⟨_, rfl⟩
  have HFR := Hid.mk (fun (B : Nat) (W : World) (v : Value) h => frame_rd (B := B) (w := W) (v := v) h HLB.out.2.2.2)
  rw [← hfz] at hCf hCa HFR hfl
  have HFZ := Hid.mk hfz
  clear hfz
  obtain ⟨D2, hD2⟩ : ∃ D2, D2 = appendP m s fz := ⟨_, rfl⟩
  obtain ⟨C2, hC2⟩ : ∃ C2, C2 = appendC m s fz := ⟨_, rfl⟩
  rw [← hD2, ← hC2] at hCa
  have HD2 := Hid.mk hD2
  have HC2 := Hid.mk hC2
  clear hD2 hC2
  refine wp_region_held_drew (S := fun W => Turn [w.heap.size + 1] wq W) (by kernel_rfl) (Turn.ofBelow (Below.drew (Below.refl _ _))) (fun hHeld => ?_)
  refine wpAnyH_take (i := 0) (oi := ⟨some 8, .load 43 (.tmp 3), 43, "l03_log.go:43", #[], none⟩) (v := ?v1) rfl (by kernel_rfl) (by kernel_rfl) (by kernel_rfl) (fun _ _ _ h => h) (Or.inl ⟨by rfl, ?hy1⟩) (by assumption) ?rest1
  case hy1 => (intro w hSw; (try dsimp only at hSw); go_simp; try (with_reducible rfl))
  try simp only [Act.put, List.setIfInBounds_toArray, List.set_cons_zero, List.set_cons_succ]
  refine wpAnyH_take (i := 1) (oi := ⟨some 9, .move (.tmp 1), 9, "l03_log.go:43", #[], none⟩) (v := ?v2) rfl (by kernel_rfl) (by kernel_rfl) (by kernel_rfl) (fun _ _ _ h => h) (Or.inl ⟨by rfl, ?hy2⟩) (by assumption) ?rest2
  case hy2 => (intro w hSw; (try dsimp only at hSw); go_simp; try (with_reducible rfl))
  try simp only [Act.put, List.setIfInBounds_toArray, List.set_cons_zero, List.set_cons_succ]
  refine wpAnyH_take (i := 2) (oi := ⟨some 10, .move (.tmp 2), 22, "l03_log.go:43", #[], none⟩) (v := ?v3) rfl (by kernel_rfl) (by kernel_rfl) (by kernel_rfl) (fun _ _ _ h => h) (Or.inl ⟨by rfl, ?hy3⟩) (by assumption) ?rest3
  case hy3 => (intro w hSw; (try dsimp only at hSw); go_simp; try (with_reducible rfl))
  try simp only [Act.put, List.setIfInBounds_toArray, List.set_cons_zero, List.set_cons_succ]
  refine wpAnyH_ready (rs := [3]) (by kernel_rfl) (by simp) ?_
  refine AllReadyH.cons (o := ⟨some 11, .call { callee := .value (.func 16), args := #[.tmp 10], argTypes := #[22] }, 22, "l03_log.go:43", #[⟨2, .data⟩], none⟩) rfl (fun K hK => ?_) AllReadyH.nil
  go_simp
  refine Calls.mono (hCf _ (Below.drew (Below.refl _ _))) ?_
  rintro e wy1 ⟨vf, rfl, hof, hy1⟩
  have hY1 : Below wq.heap.size wq wy1 := bthen (Below.drew (Below.refl _ _)) hy1
  have hCa1 := hCa wy1 vf hY1 (HFR.out _ _ _ hof)
  clear hof
  go_wp2_with fail
  refine hK.out _ _ (Turn.ofBelow hY1) (fun hHeld => ?_)
  clear hK K
  try simp only [Act.put, List.setIfInBounds_toArray, List.set_cons_zero, List.set_cons_succ]
  refine wpAnyH_ready (rs := [4]) (by kernel_rfl) (by simp) ?_
  refine AllReadyH.cons (o := ⟨some 12, .call { callee := .value (.func 86), args := #[.tmp 8, .tmp 9, .tmp 11], argTypes := #[43, 9, 22] }, 44, "l03_log.go:43", #[⟨0, .data⟩, ⟨1, .data⟩, ⟨3, .data⟩, ⟨3, .chain⟩], none⟩) rfl (fun K hK => ?_) AllReadyH.nil
  go_simp
  refine Calls.mono hCa1 ?_
  rintro e wy2 ⟨cs4, F4, rfl, ho4, hN4, hge4, hy2⟩
  have hY2 : Below wq.heap.size wq wy2 := bthen hY1 hy2
  obtain ⟨q0, p0', q1, p1', q2, p2', E0, E1, E2, rfl, _, _, _, _, rfl⟩ := oDisk_cells ho4
  have hbr2 := hbr.under hY2
  have hl2 := hbr2.lt
  have ze0 := hbr2.cell 0 _ rfl
  have ze1 := hbr2.cell 1 _ rfl
  have ze2 := hbr2.cell 2 _ rfl
  have ze3 := hbr2.cell 3 _ rfl
  have zf0 := hbr2.free 0
  have zf1 := hbr2.free 1
  have zf2 := hbr2.free 2
  have zf3 := hbr2.free 3
  go_wp2_with fail
  refine hK.out _ _ (Turn.ofBelow hY2) (fun hHeld => ?_)
  clear hK K
  try simp only [Act.put, List.setIfInBounds_toArray, List.set_cons_zero, List.set_cons_succ]
  refine wpAnyH_take (i := 5) (oi := ⟨some 13, .extract (.tmp 12) 0, 43, "l03_log.go:43", #[⟨4, .data⟩], none⟩) (v := ?v4) rfl (by kernel_rfl) (by kernel_rfl) (by kernel_rfl) (fun _ _ _ h => h) (Or.inl ⟨by rfl, ?hy4⟩) (by assumption) ?rest4
  case hy4 => (intro w hSw; (try dsimp only at hSw); go_simp; try (with_reducible rfl))
  try simp only [Act.put, List.setIfInBounds_toArray, List.set_cons_zero, List.set_cons_succ]
  refine wpAnyH_take (i := 6) (oi := ⟨some 14, .extract (.tmp 12) 1, 3, "l03_log.go:43", #[⟨4, .data⟩], none⟩) (v := ?v5) rfl (by kernel_rfl) (by kernel_rfl) (by kernel_rfl) (fun _ _ _ h => h) (Or.inl ⟨by rfl, ?hy5⟩) (by assumption) ?rest5
  case hy5 => (intro w hSw; (try dsimp only at hSw); go_simp; try (with_reducible rfl))
  try simp only [Act.put, List.setIfInBounds_toArray, List.set_cons_zero, List.set_cons_succ]
  refine wpAnyH_ready (rs := [7]) (by kernel_rfl) (by simp) ?_
  refine AllReadyH.cons (o := ⟨none, .store 43 (.tmp 6) (.tmp 13), 0, "l03_log.go:43", #[⟨5, .data⟩, ⟨4, .chain⟩, ⟨0, .phase⟩, ⟨1, .phase⟩, ⟨2, .phase⟩, ⟨3, .phase⟩, ⟨4, .phase⟩, ⟨5, .phase⟩, ⟨6, .phase⟩], none⟩) rfl (fun K hK => ?_) AllReadyH.nil
  go_simp
  go_simp
  refine hK.out _ _ ((Turn.ofBelow hY2).trans (turn4 _ _ _ _ _ _)) (fun hHeld => ?_)
  clear hK K
  try simp only [Act.put, List.setIfInBounds_toArray, List.set_cons_zero, List.set_cons_succ]
  refine wpAnyH_take (i := 8) (oi := ⟨some 7, .assign (.tmp 14), 3, "l03_log.go:43", #[⟨6, .data⟩, ⟨7, .chain⟩, ⟨0, .phase⟩, ⟨1, .phase⟩, ⟨2, .phase⟩, ⟨3, .phase⟩, ⟨4, .phase⟩, ⟨5, .phase⟩, ⟨6, .phase⟩, ⟨7, .phase⟩], none⟩) (v := ?v6) rfl (by kernel_rfl) (by kernel_rfl) (by kernel_rfl) (fun _ _ _ h => h) (Or.inl ⟨by rfl, ?hy6⟩) (by assumption) ?rest6
  case hy6 => (intro w hSw; (try dsimp only at hSw); go_simp; try (with_reducible rfl))
  try simp only [Act.put, List.setIfInBounds_toArray, List.set_cons_zero, List.set_cons_succ]
  refine wpAnyH_done (by kernel_rfl) ?_ _
  have hT := hHeld
  have HBF : Below w.heap.size w ((((wy2.setCell ⟨w.heap.size + 1, 0, none⟩ (.slice q0 D2.fInodes.length p0')).setCell ⟨w.heap.size + 1, 1, none⟩ (.slice q1 D2.fNames.length p1')).setCell ⟨w.heap.size + 1, 2, none⟩ (.slice q2 D2.fSafe.length p2')).setCell ⟨w.heap.size + 1, 3, none⟩ (.int .i64 D2.fNext)) := hbW.trans (hT.below (fun k hk => by simp at hk; omega) hbW.size)
  have hgE : ∀ b, b ∈ E0 ++ E1 ++ E2 ++ [] → w.heap.size + 2 ≤ b := fun b hb => by have := hge4 b hb; have := hY1.size; omega
  have HOF : oDisk ((((wy2.setCell ⟨w.heap.size + 1, 0, none⟩ (.slice q0 D2.fInodes.length p0')).setCell ⟨w.heap.size + 1, 1, none⟩ (.slice q1 D2.fNames.length p1')).setCell ⟨w.heap.size + 1, 2, none⟩ (.slice q2 D2.fSafe.length p2')).setCell ⟨w.heap.size + 1, 3, none⟩ (.int .i64 D2.fNext)) [.slice q0 D2.fInodes.length p0', .slice q1 D2.fNames.length p1', .slice q2 D2.fSafe.length p2', .int .i64 D2.fNext] D2 (E0 ++ E1 ++ E2 ++ []) := oDisk_good.frame ho4 (fun b hb => (turn4 wy2 (w.heap.size + 1) _ _ _ _).block b (oDisk_good.lt ho4 b hb) (by intro h; simp at h; have := hgE b hb; omega))
  have HB := Hid.mk HBF
  have HO := Hid.mk HOF
  have HG := Hid.mk hgE
  have HN := Hid.mk hN4
  clear HBF HOF hgE ho4 hge4 hHeld hT hN4
  go_wp2_with fail
  exact bodyPost_ret (v := .tuple #[.agg #[.slice q0 D2.fInodes.length p0', .slice q1 D2.fNames.length p1', .slice q2 D2.fSafe.length p2', .int .i64 D2.fNext], .int .i64 C2]) (by simp [results, Tryd.results31, go_sem, *]) rfl ⟨[.slice q0 D2.fInodes.length p0', .slice q1 D2.fNames.length p1', .slice q2 D2.fSafe.length p2', .int .i64 D2.fNext], _, by rw [← HFZ.out, ← HC2.out], by rw [← HFZ.out, ← HD2.out]; exact HO.out, HN.out, (fun b hb => by have := HG.out b hb; omega), HB.out⟩


set_option maxHeartbeats 4000000 in
theorem specLog_c (cs : List Value) (m : MDisk) (s : ByteArray) (vb : Value) (zb : List Int) (w : World) (hr : rDisk w.heap.size w cs m) (hs : s.size ≤ 9223372036854775807) (hrb : rdB w.heap.size w vb zb) (hw : wDisk m ≤ 1048576) (hw1 : s.size ≤ 1048576) (hwb : zb.length ≤ 1048576) (ht : TabAt w) :
    Calls Tryd.prog 29 #[.agg cs.toArray, .string s, vb] w fun e w' => ∃ cs' : List Value, e = .returned (.tuple #[.agg cs'.toArray, .int .i64 (appendC m s (frame zb))]) ∧ rDisk w'.heap.size w' cs' (appendP m s (frame zb)) ∧ Below w.heap.size w w' := by
  have hsz := World.block_lt_of_cell? _ _ (ht 0 (by decide))
  have HTB := Hid.mk ht
  clear ht
  obtain ⟨ab, cb, rfl, hlb⟩ := hrb
  have HLB := Hid.mk hlb
  clear hlb
  have hq := hr
  obtain ⟨a0, c0, a1, c1, a2, c2, rfl, hI, hNm, hSf, hnx, _⟩ := hq
  have hw2 : m.fInodes.length + sumW wInode m.fInodes + (m.fNames.length + sumW wEntry m.fNames) + (m.fSafe.length + sumW wEntry m.fSafe) ≤ 1048576 := hw
  have HW := Hid.mk hw
  have HR := Hid.mk hr
  clear hr hI hNm hSf hw
  go_enter Tryd.func29, Tryd.ntmps29
  go_wp2_with fail
  obtain ⟨wq, hwq⟩ : ∃ wq, wq = ((w.alloc (.cells #[.slice a0 m.fInodes.length c0, .slice a1 m.fNames.length c1, .slice a2 m.fSafe.length c2, .int .i64 m.fNext] 43)).alloc (.cells #[.slice none 0 0, .slice none 0 0, .slice none 0 0, .int .i64 0] 43)) := ⟨_, rfl⟩
  have hbW : Below w.heap.size w wq := by rw [hwq]; exact Below.alloc (Below.alloc (Below.refl _ _) (by exact Nat.le_refl _) _) (by simp; try omega) _
  have hbd : Bw wq (w.heap.size) 43 [.slice a0 m.fInodes.length c0, .slice a1 m.fNames.length c1, .slice a2 m.fSafe.length c2, .int .i64 m.fNext] := by rw [hwq]; exact Bw.alloc (Bw.new' _ _ _ (by simp)) _
  have hbr : Bw wq (w.heap.size + 1) 43 [.slice none 0 0, .slice none 0 0, .slice none 0 0, .int .i64 0] := by rw [hwq]; exact Bw.new' _ _ _ (by simp)
  rw [← hwq]
  clear hwq
  have hzW := hbW.size
  have hlr := hbr.lt
  have hld := hbd.lt
  have p0 : ∀ W, Turn [w.heap.size + 1] wq W → W.cell? ⟨w.heap.size, 0, none⟩ = some (.slice a0 m.fInodes.length c0) := fun W hb => (hbd.turn hb (by simp)).cell 0 _ rfl
  have p1 : ∀ W, Turn [w.heap.size + 1] wq W → W.cell? ⟨w.heap.size, 1, none⟩ = some (.slice a1 m.fNames.length c1) := fun W hb => (hbd.turn hb (by simp)).cell 1 _ rfl
  have p2 : ∀ W, Turn [w.heap.size + 1] wq W → W.cell? ⟨w.heap.size, 2, none⟩ = some (.slice a2 m.fSafe.length c2) := fun W hb => (hbd.turn hb (by simp)).cell 2 _ rfl
  have p3 : ∀ W, Turn [w.heap.size + 1] wq W → W.cell? ⟨w.heap.size, 3, none⟩ = some (.int .i64 m.fNext) := fun W hb => (hbd.turn hb (by simp)).cell 3 _ rfl
  have hfl := frame_len zb
  have hCf := fun W (hb : Below wq.heap.size wq W) => specFrame_R ab zb.length cb zb W rfl (by omega) ((HLB.out.2.2.1.below (bthen hbW hb)).mono (bthen hbW hb).size) HLB.out.2.2.2 (HTB.out.below (bthen hbW hb) hsz)
  have hCa := fun W v (hb : Below wq.heap.size wq W) (hv : rdB W.heap.size W v (frame zb)) => specAppend_o _ m s v (frame zb) W (rDisk_good.mono (rDisk_good.below HR.out (bthen hbW hb)) (bthen hbW hb).size) hs hv HW.out hw1 (by omega)
  obtain ⟨fz, hfz⟩ : ∃ fz, fz = frame zb := ⟨_, rfl⟩
  have HFR := Hid.mk (fun (B : Nat) (W : World) (v : Value) h => frame_rd (B := B) (w := W) (v := v) h HLB.out.2.2.2)
  rw [← hfz] at hCf hCa HFR hfl
  have HFZ := Hid.mk hfz
  clear hfz
  obtain ⟨D2, hD2⟩ : ∃ D2, D2 = appendP m s fz := ⟨_, rfl⟩
  obtain ⟨C2, hC2⟩ : ∃ C2, C2 = appendC m s fz := ⟨_, rfl⟩
  rw [← hD2, ← hC2] at hCa
  have HD2 := Hid.mk hD2
  have HC2 := Hid.mk hC2
  clear hD2 hC2
  refine wp_region_held_drew (S := fun W => Turn [w.heap.size + 1] wq W) (by kernel_rfl) (Turn.ofBelow (Below.drew (Below.refl _ _))) (fun hHeld => ?_)
  refine wpAnyH_take (i := 0) (oi := ⟨some 8, .load 43 (.tmp 3), 43, "l03_log.go:18", #[], none⟩) (v := ?v7) rfl (by kernel_rfl) (by kernel_rfl) (by kernel_rfl) (fun _ _ _ h => h) (Or.inl ⟨by rfl, ?hy7⟩) (by assumption) ?rest7
  case hy7 => (intro w hSw; (try dsimp only at hSw); go_simp; try (with_reducible rfl))
  try simp only [Act.put, List.setIfInBounds_toArray, List.set_cons_zero, List.set_cons_succ]
  refine wpAnyH_take (i := 1) (oi := ⟨some 9, .move (.tmp 1), 9, "l03_log.go:18", #[], none⟩) (v := ?v8) rfl (by kernel_rfl) (by kernel_rfl) (by kernel_rfl) (fun _ _ _ h => h) (Or.inl ⟨by rfl, ?hy8⟩) (by assumption) ?rest8
  case hy8 => (intro w hSw; (try dsimp only at hSw); go_simp; try (with_reducible rfl))
  try simp only [Act.put, List.setIfInBounds_toArray, List.set_cons_zero, List.set_cons_succ]
  refine wpAnyH_take (i := 2) (oi := ⟨some 10, .move (.tmp 2), 22, "l03_log.go:18", #[], none⟩) (v := ?v9) rfl (by kernel_rfl) (by kernel_rfl) (by kernel_rfl) (fun _ _ _ h => h) (Or.inl ⟨by rfl, ?hy9⟩) (by assumption) ?rest9
  case hy9 => (intro w hSw; (try dsimp only at hSw); go_simp; try (with_reducible rfl))
  try simp only [Act.put, List.setIfInBounds_toArray, List.set_cons_zero, List.set_cons_succ]
  refine wpAnyH_ready (rs := [3]) (by kernel_rfl) (by simp) ?_
  refine AllReadyH.cons (o := ⟨some 11, .call { callee := .value (.func 83), args := #[.tmp 10], argTypes := #[22] }, 22, "l03_log.go:18", #[⟨2, .data⟩], none⟩) rfl (fun K hK => ?_) AllReadyH.nil
  go_simp
  refine Calls.mono (hCf _ (Below.drew (Below.refl _ _))) ?_
  rintro e wy1 ⟨vf, rfl, hof, hy1⟩
  have hY1 : Below wq.heap.size wq wy1 := bthen (Below.drew (Below.refl _ _)) hy1
  have hCa1 := hCa wy1 vf hY1 (HFR.out _ _ _ hof)
  clear hof
  go_wp2_with fail
  refine hK.out _ _ (Turn.ofBelow hY1) (fun hHeld => ?_)
  clear hK K
  try simp only [Act.put, List.setIfInBounds_toArray, List.set_cons_zero, List.set_cons_succ]
  refine wpAnyH_ready (rs := [4]) (by kernel_rfl) (by simp) ?_
  refine AllReadyH.cons (o := ⟨some 12, .call { callee := .value (.func 82), args := #[.tmp 8, .tmp 9, .tmp 11], argTypes := #[43, 9, 22] }, 44, "l03_log.go:18", #[⟨0, .data⟩, ⟨1, .data⟩, ⟨3, .data⟩, ⟨3, .chain⟩], none⟩) rfl (fun K hK => ?_) AllReadyH.nil
  go_simp
  refine Calls.mono hCa1 ?_
  rintro e wy2 ⟨cs4, F4, rfl, ho4, hge4, hy2⟩
  have hY2 : Below wq.heap.size wq wy2 := bthen hY1 hy2
  obtain ⟨q0, p0', q1, p1', q2, p2', E0, E1, E2, rfl, _, _, _, _, rfl⟩ := oDisk_cells ho4
  have hbr2 := hbr.under hY2
  have hl2 := hbr2.lt
  have ze0 := hbr2.cell 0 _ rfl
  have ze1 := hbr2.cell 1 _ rfl
  have ze2 := hbr2.cell 2 _ rfl
  have ze3 := hbr2.cell 3 _ rfl
  have zf0 := hbr2.free 0
  have zf1 := hbr2.free 1
  have zf2 := hbr2.free 2
  have zf3 := hbr2.free 3
  go_wp2_with fail
  refine hK.out _ _ (Turn.ofBelow hY2) (fun hHeld => ?_)
  clear hK K
  try simp only [Act.put, List.setIfInBounds_toArray, List.set_cons_zero, List.set_cons_succ]
  refine wpAnyH_take (i := 5) (oi := ⟨some 13, .extract (.tmp 12) 0, 43, "l03_log.go:18", #[⟨4, .data⟩], none⟩) (v := ?v10) rfl (by kernel_rfl) (by kernel_rfl) (by kernel_rfl) (fun _ _ _ h => h) (Or.inl ⟨by rfl, ?hy10⟩) (by assumption) ?rest10
  case hy10 => (intro w hSw; (try dsimp only at hSw); go_simp; try (with_reducible rfl))
  try simp only [Act.put, List.setIfInBounds_toArray, List.set_cons_zero, List.set_cons_succ]
  refine wpAnyH_take (i := 6) (oi := ⟨some 14, .extract (.tmp 12) 1, 3, "l03_log.go:18", #[⟨4, .data⟩], none⟩) (v := ?v11) rfl (by kernel_rfl) (by kernel_rfl) (by kernel_rfl) (fun _ _ _ h => h) (Or.inl ⟨by rfl, ?hy11⟩) (by assumption) ?rest11
  case hy11 => (intro w hSw; (try dsimp only at hSw); go_simp; try (with_reducible rfl))
  try simp only [Act.put, List.setIfInBounds_toArray, List.set_cons_zero, List.set_cons_succ]
  refine wpAnyH_ready (rs := [7]) (by kernel_rfl) (by simp) ?_
  refine AllReadyH.cons (o := ⟨none, .store 43 (.tmp 6) (.tmp 13), 0, "l03_log.go:18", #[⟨5, .data⟩, ⟨4, .chain⟩, ⟨0, .phase⟩, ⟨1, .phase⟩, ⟨2, .phase⟩, ⟨3, .phase⟩, ⟨4, .phase⟩, ⟨5, .phase⟩, ⟨6, .phase⟩], none⟩) rfl (fun K hK => ?_) AllReadyH.nil
  go_simp
  go_simp
  refine hK.out _ _ ((Turn.ofBelow hY2).trans (turn4 _ _ _ _ _ _)) (fun hHeld => ?_)
  clear hK K
  try simp only [Act.put, List.setIfInBounds_toArray, List.set_cons_zero, List.set_cons_succ]
  refine wpAnyH_take (i := 8) (oi := ⟨some 7, .assign (.tmp 14), 3, "l03_log.go:18", #[⟨6, .data⟩, ⟨7, .chain⟩, ⟨0, .phase⟩, ⟨1, .phase⟩, ⟨2, .phase⟩, ⟨3, .phase⟩, ⟨4, .phase⟩, ⟨5, .phase⟩, ⟨6, .phase⟩, ⟨7, .phase⟩], none⟩) (v := ?v12) rfl (by kernel_rfl) (by kernel_rfl) (by kernel_rfl) (fun _ _ _ h => h) (Or.inl ⟨by rfl, ?hy12⟩) (by assumption) ?rest12
  case hy12 => (intro w hSw; (try dsimp only at hSw); go_simp; try (with_reducible rfl))
  try simp only [Act.put, List.setIfInBounds_toArray, List.set_cons_zero, List.set_cons_succ]
  refine wpAnyH_done (by kernel_rfl) ?_ _
  have hT := hHeld
  have HBF : Below w.heap.size w ((((wy2.setCell ⟨w.heap.size + 1, 0, none⟩ (.slice q0 D2.fInodes.length p0')).setCell ⟨w.heap.size + 1, 1, none⟩ (.slice q1 D2.fNames.length p1')).setCell ⟨w.heap.size + 1, 2, none⟩ (.slice q2 D2.fSafe.length p2')).setCell ⟨w.heap.size + 1, 3, none⟩ (.int .i64 D2.fNext)) := hbW.trans (hT.below (fun k hk => by simp at hk; omega) hbW.size)
  have hgE : ∀ b, b ∈ E0 ++ E1 ++ E2 ++ [] → w.heap.size + 2 ≤ b := fun b hb => by have := hge4 b hb; have := hY1.size; omega
  have HOF : oDisk ((((wy2.setCell ⟨w.heap.size + 1, 0, none⟩ (.slice q0 D2.fInodes.length p0')).setCell ⟨w.heap.size + 1, 1, none⟩ (.slice q1 D2.fNames.length p1')).setCell ⟨w.heap.size + 1, 2, none⟩ (.slice q2 D2.fSafe.length p2')).setCell ⟨w.heap.size + 1, 3, none⟩ (.int .i64 D2.fNext)) [.slice q0 D2.fInodes.length p0', .slice q1 D2.fNames.length p1', .slice q2 D2.fSafe.length p2', .int .i64 D2.fNext] D2 (E0 ++ E1 ++ E2 ++ []) := oDisk_good.frame ho4 (fun b hb => (turn4 wy2 (w.heap.size + 1) _ _ _ _).block b (oDisk_good.lt ho4 b hb) (by intro h; simp at h; have := hgE b hb; omega))
  have HB := Hid.mk HBF
  have HO := Hid.mk HOF
  have HG := Hid.mk hgE
  clear HBF HOF hgE ho4 hge4 hHeld hT
  go_wp2_with fail
  exact bodyPost_ret (v := .tuple #[.agg #[.slice q0 D2.fInodes.length p0', .slice q1 D2.fNames.length p1', .slice q2 D2.fSafe.length p2', .int .i64 D2.fNext], .int .i64 C2]) (by simp [results, Tryd.results29, go_sem, *]) rfl ⟨[.slice q0 D2.fInodes.length p0', .slice q1 D2.fNames.length p1', .slice q2 D2.fSafe.length p2', .int .i64 D2.fNext], by rw [← HFZ.out, ← HC2.out], by rw [← HFZ.out, ← HD2.out]; exact oDisk_good.read HO.out, HB.out⟩


end Go.Proofs.YtcbhmbgmeodjdaaDoor
