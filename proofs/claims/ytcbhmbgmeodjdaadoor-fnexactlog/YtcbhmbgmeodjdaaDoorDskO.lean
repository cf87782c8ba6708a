/-
  The specification's DiskOk.
-/
import Derived.Test.YtcbhmbgmeodjdaaDoorDskE
namespace Go.Proofs.YtcbhmbgmeodjdaaDoor
open Go.RowKit
set_option linter.unusedVariables false
set_option linter.unusedSimpArgs false
set_option maxRecDepth 10000

theorem okIN_step {d : MDisk} {l : List MInode} {k : Nat} (h : k < l.length) : (okI d.fNext (prevId l k) (l.drop k) && (l.drop k).all (isNamed d)) = (stepI d.fNext (prevId l k) l[k] && isNamed d l[k] && (okI d.fNext (prevId l (k + 1)) (l.drop (k + 1)) && (l.drop (k + 1)).all (isNamed d))) := by
  rw [okI_step h]
  rw [show (l.drop k).all (isNamed d) = (isNamed d l[k] && (l.drop (k + 1)).all (isNamed d)) from by rw [List.drop_eq_getElem_cons h, List.all_cons]]
  cases stepI d.fNext (prevId l k) l[k] <;> cases isNamed d l[k] <;> simp

/-- What the specification's loop and its tests come to. -/
def specOk (d : MDisk) : Bool :=
  inRange d.fNext 1 1000000 && decide (d.fInodes.length ≤ 60) && (okI d.fNext 0 d.fInodes && d.fInodes.all (isNamed d)) && decide (sumW wInode d.fInodes ≤ 60000) &&
    (okE d.fInodes [] ByteArray.empty d.fNames && decide (d.fNames.length ≤ 30)) && (okE d.fInodes [] ByteArray.empty d.fSafe && decide (d.fSafe.length ≤ 30))

theorem specOk_eq (d : MDisk) : specOk d = diskOk d := by
  unfold specOk diskOk inRange
  cases h1 : okI d.fNext 0 d.fInodes
  · simp
  · cases h2 : d.fInodes.all (isNamed d)
    · simp
    · have h3 := named_fit h1 h2
      by_cases h4 : d.fNames.length ≤ 30
      · by_cases h5 : d.fSafe.length ≤ 30
        · have h6 : d.fInodes.length ≤ 60 := by omega
          simp [h4, h5, h6]
        · simp [h5]
      · simp [h4]

set_option maxHeartbeats 20000000 in
theorem specDiskOk_any (cs : List Value) (m : MDisk) (w : World) (hr : rDisk w.heap.size w cs m) (hw : wDisk m ≤ 16777216) :
    Calls Tryd.prog 164 #[.agg cs.toArray] w fun e w' => e = .returned (.bool (specOk m)) ∧ Below w.heap.size w w' := by
  have hq := hr
  obtain ⟨a0, c0, a1, c1, a2, c2, rfl, hI, hNm, hSf, hnx, _⟩ := hq
  have hw2 : m.fInodes.length + sumW wInode m.fInodes + (m.fNames.length + sumW wEntry m.fNames) + (m.fSafe.length + sumW wEntry m.fSafe) ≤ 16777216 := hw
  have HR := Hid.mk hr
  have HI := Hid.mk hI.2.2
  have HNL := Hid.mk hNm
  have HSL := Hid.mk hSf
  clear hr hI hNm hSf hw
  have hnb : -9223372036854775808 ≤ m.fNext ∧ m.fNext ≤ 9223372036854775807 := by simpa [Lit.wf, IntKind.min, IntKind.max, IntKind.signed, IntKind.bits] using hnx
  obtain ⟨hnb1, hnb2⟩ := hnb
  by_cases hN1 : 1 ≤ m.fNext ∧ m.fNext ≤ 1000000
  · have e0 : inRange m.fNext 1 1000000 = true := inRange_yes hN1.1 hN1.2
    obtain ⟨hN1, hN2⟩ := hN1
    by_cases hL : m.fInodes.length ≤ 60
    · have HSP : Hid (specOk m = ((okI m.fNext 0 m.fInodes && m.fInodes.all (isNamed m)) && decide (sumW wInode m.fInodes ≤ 60000) && (okE m.fInodes [] ByteArray.empty m.fNames && decide (m.fNames.length ≤ 30)) && (okE m.fInodes [] ByteArray.empty m.fSafe && decide (m.fSafe.length ≤ 30)))) := by
        show specOk m = _
        unfold specOk
        rw [e0, decide_eq_true hL, Bool.true_and, Bool.true_and]
      go_enter Tryd.func164, Tryd.ntmps164
      go_wp2_with (go_at_call 103; refine (l1In_any _ _ _ _).mono ?_; rintro e w' ⟨rfl, rfl⟩)
      go_loopw [3, 4] (fun sv i wr => ∃ k : Nat, k ≤ m.fInodes.length ∧ i = .int .i64 k ∧ sv = .int .i64 (sumW wInode (m.fInodes.take k) : Nat) ∧ 0 ≤ prevId m.fInodes k ∧ (okI m.fNext 0 m.fInodes && m.fInodes.all (isNamed m)) = (okI m.fNext (prevId m.fInodes k) (m.fInodes.drop k) && (m.fInodes.drop k).all (isNamed m)) ∧ Below w.heap.size w wr ∧ Bx wr w.heap.size [.slice a0 m.fInodes.length c0, .slice a1 m.fNames.length c1, .slice a2 m.fSafe.length c2, .int .i64 m.fNext]) (fun _ i _ => m.fInodes.length - (intOf i).toNat)
      case atStart => exact ⟨0, Nat.zero_le _, rfl, rfl, Int.le_refl _, rfl, (Below.refl _ _).alloc (Nat.le_refl _) _, Bx.new _ _ _⟩
      case round =>
        obtain ⟨k, hk, rfl, rfl, hp0, hinv, hbk, hbx⟩ := hrel
        have HINV := Hid.mk hinv
        clear hinv
        have xb0 := hbx.2 0 _ rfl
        have xb1 := hbx.2 1 _ rfl
        have xb2 := hbx.2 2 _ rfl
        have xb3 := hbx.2 3 _ rfl
        have hyb := hbx.1
        by_cases hlt : k < m.fInodes.length
        · obtain ⟨b1, o1, ha0, hB, cs, hcl, hcell, hrI⟩ := (HI.out.below rInode_good hbk) k hlt
          subst ha0
          have hwk := sumW_le (f := wInode) hlt
          have hws := sumW_take_succ (f := wInode) hlt
          have hwl := sumW_take_le wInode m.fInodes (k + 1)
          have HST := Hid.mk (okIN_step (d := m) hlt)
          have HPS := Hid.mk (prevId_succ hlt)
          have hy1 : b1 < wr.heap.size := Nat.lt_of_lt_of_le hB hbk.size
          have HPR : Hid (∀ j, k = j + 1 → (hj : j < m.fInodes.length) → wr.cell? ⟨b1, o1 + j * 3, none⟩ = some (.int .i64 (prevId m.fInodes k))) := by
            intro j hj hjl
            obtain ⟨b2, o2, ha2, _, cs2, _, hcell2, a2', c2', rfl, _⟩ := (HI.out.below rInode_good hbk) j hjl
            simp only [Option.some.injEq, Addr.mk.injEq, and_true] at ha2
            obtain ⟨rfl, rfl⟩ := ha2
            have := hcell2 0 _ rfl
            subst hj
            rw [Nat.add_zero] at this
            rw [prevId_succ hjl]
            exact this
          obtain ⟨n, hn⟩ : ∃ n, m.fInodes[k] = n := ⟨_, rfl⟩
          rw [hn] at hrI hwk hws
          have HNd : Hid (m.fInodes[k] = n) := hn
          clear hn
          obtain ⟨ad, cd, rfl, hid, hda, hsu, _⟩ := hrI
          have k0 := hcell 0 _ rfl
          have k1 := hcell 1 _ rfl
          have k2 := hcell 2 _ rfl
          rw [Nat.add_zero] at k0
          have hdl : n.fData.length ≤ 16777216 := by have : wInode n = n.fData.length := rfl; omega
          have hkb : (sumW wInode (m.fInodes.take k) : Int) + n.fData.length ≤ 16777216 := by have : wInode n = n.fData.length := rfl; omega
          have HWS : Hid (sumW wInode (m.fInodes.take (k + 1)) = sumW wInode (m.fInodes.take k) + n.fData.length) := hws
          have hk60 : k ≤ 60 := by omega
          clear hcell hcl hda hws hwl hwk
          have HFAIL : Hid ((stepI m.fNext (prevId m.fInodes k) n && isNamed m n) = false → specOk m = false) := by
            intro h
            rw [HSP.out, HINV.out, HST.out, HNd.out, h]
            simp
          have HGO : Hid ((stepI m.fNext (prevId m.fInodes k) n && isNamed m n) = true → (okI m.fNext 0 m.fInodes && m.fInodes.all (isNamed m)) = (okI m.fNext (prevId m.fInodes (k + 1)) (m.fInodes.drop (k + 1)) && (m.fInodes.drop (k + 1)).all (isNamed m))) := by
            intro h
            rw [HINV.out, HST.out, HNd.out, h, Bool.true_and]
          have HPI : Hid (prevId m.fInodes (k + 1) = n.fId) := by show _ = _; rw [HPS.out, HNd.out]
          clear HST HPS HNd HINV
          have hz1 : (0 : Int) ≤ (k : Int) := by omega
          have hz2 : (k : Int) < (m.fInodes.length : Int) := by omega
          have hib : -9223372036854775808 ≤ n.fId ∧ n.fId ≤ 9223372036854775807 := by simpa [Lit.wf, IntKind.min, IntKind.max, IntKind.signed, IntKind.bits] using hid
          have hsb : -9223372036854775808 ≤ n.fSure ∧ n.fSure ≤ 9223372036854775807 := by simpa [Lit.wf, IntKind.min, IntKind.max, IntKind.signed, IntKind.bits] using hsu
          obtain ⟨hib1, hib2⟩ := hib
          obtain ⟨hsb1, hsb2⟩ := hsb
          clear hid hsu
          generalize hpv : prevId m.fInodes k = pv at *
          have HPV := Hid.mk hpv
          clear hpv
          go_wp2_with fail
          -- the element lies in a new block
          obtain ⟨wq, hwq⟩ : ∃ wq, wq = wr.alloc (.cells #[.int .i64 n.fId, .slice ad n.fData.length cd, .int .i64 n.fSure] 171) := ⟨_, rfl⟩
          have hbq : Below wr.heap.size wr wq := by rw [hwq]; exact (Below.refl _ _).alloc (Nat.le_refl _) _
          have hbn : Bx wq wr.heap.size [.int .i64 n.fId, .slice ad n.fData.length cd, .int .i64 n.fSure] := by rw [hwq]; exact Bx.new _ _ _
          rw [← hwq]
          clear hwq
          have hbW := bthen hbk hbq
          have hbx2 := hbx.under hbq
          have p0 : ∀ W, Below wq.heap.size wq W → W.cell? ⟨w.heap.size, 0, none⟩ = some (.slice (some ⟨b1, o1, none⟩) m.fInodes.length c0) := fun W hb => (hbx2.under hb).2 0 _ rfl
          have p1 : ∀ W, Below wq.heap.size wq W → W.cell? ⟨w.heap.size, 1, none⟩ = some (.slice a1 m.fNames.length c1) := fun W hb => (hbx2.under hb).2 1 _ rfl
          have p2 : ∀ W, Below wq.heap.size wq W → W.cell? ⟨w.heap.size, 2, none⟩ = some (.slice a2 m.fSafe.length c2) := fun W hb => (hbx2.under hb).2 2 _ rfl
          have p3 : ∀ W, Below wq.heap.size wq W → W.cell? ⟨w.heap.size, 3, none⟩ = some (.int .i64 m.fNext) := fun W hb => (hbx2.under hb).2 3 _ rfl
          have q0 : ∀ W, Below wq.heap.size wq W → W.cell? ⟨wr.heap.size, 0, none⟩ = some (.int .i64 n.fId) := fun W hb => (hbn.under hb).2 0 _ rfl
          have q1 : ∀ W, Below wq.heap.size wq W → W.cell? ⟨wr.heap.size, 1, none⟩ = some (.slice ad n.fData.length cd) := fun W hb => (hbn.under hb).2 1 _ rfl
          have q2 : ∀ W, Below wq.heap.size wq W → W.cell? ⟨wr.heap.size, 2, none⟩ = some (.int .i64 n.fSure) := fun W hb => (hbn.under hb).2 2 _ rfl
          have hCa := fun W (hb : Below wq.heap.size wq W) => l2Named_any a1 _ c1 m.fNames n.fId W w.heap.size rfl (by omega) (HNL.out.2.2.below rEntry_good ((bthen hbW hb).mono (Nat.le_refl _)))
          have hCb := fun W (hb : Below wq.heap.size wq W) => l2Named_any a2 _ c2 m.fSafe n.fId W w.heap.size rfl (by omega) (HSL.out.2.2.below rEntry_good ((bthen hbW hb).mono (Nat.le_refl _)))
          have hwn : IntKind.i64.wrap (m.fNext - 1) = m.fNext - 1 := by simp (disch := omega) only [IntWalk.i64_in]
          have HSI : Hid (stepI m.fNext pv n = decide (pv < n.fId ∧ n.fId < m.fNext ∧ 0 ≤ n.fSure ∧ n.fSure ≤ n.fData.length)) := rfl
          have HNI : Hid (isNamed m n = (named m.fNames n.fId || named m.fSafe n.fId)) := rfl
          by_cases h1 : 1 ≤ n.fId ∧ n.fId ≤ m.fNext - 1
          · have e1 : inRange n.fId 1 (m.fNext - 1) = true := inRange_yes h1.1 h1.2
            obtain ⟨h11, h12⟩ := h1
            by_cases h0 : k = 0
            · have hpv0 : pv = 0 := by rw [← HPV.out, h0]; rfl
              have hgk : ((0 : Int) < (k : Int)) = False := eq_false (by omega)
              have hgk2 : (0 < k) = False := eq_false (by omega)
              clear h0
              by_cases hSu : 0 ≤ n.fSure ∧ n.fSure ≤ n.fData.length
              · have e3 : inRange n.fSure 0 n.fData.length = true := inRange_yes hSu.1 hSu.2
                obtain ⟨hSu1, hSu2⟩ := hSu
                by_cases hA : named m.fNames n.fId = true
                · have HGo := HGO.out (by rw [HSI.out, HNI.out, hA, decide_eq_true (by omega)]; rfl)
                  simp only [hA] at hCa
                  clear hCb HFAIL HGO HSI HNI hA HSP
                  refine wp_region_held_drew (S := fun W => Below wq.heap.size wq W) (by kernel_rfl) (Below.drew (Below.refl _ _)) (fun hHeld => ?_)
                  refine wpAnyH_take (i := 0) (oi := ⟨some 28, .fieldAddr 171 (.tmp 5) 0, 0, "l02_files.go:57", #[], none⟩) (v := ?v1) rfl (by kernel_rfl) (by kernel_rfl) (by kernel_rfl) (fun _ _ _ h => h) (Or.inl ⟨by rfl, ?hy1⟩) (by assumption) ?rest1
                  case hy1 => (intro w hSw; (try dsimp only at hSw); go_simp; try (with_reducible rfl))
                  try simp only [Act.put, List.setIfInBounds_toArray, List.set_cons_zero, List.set_cons_succ]
                  refine wpAnyH_take (i := 1) (oi := ⟨some 29, .load 3 (.tmp 28), 3, "l02_files.go:57", #[⟨0, .data⟩], none⟩) (v := ?v2) rfl (by kernel_rfl) (by kernel_rfl) (by kernel_rfl) (fun _ _ _ h => h) (Or.inl ⟨by rfl, ?hy2⟩) (by assumption) ?rest2
                  case hy2 => (intro w hSw; (try dsimp only at hSw); go_simp; try (with_reducible rfl))
                  try simp only [Act.put, List.setIfInBounds_toArray, List.set_cons_zero, List.set_cons_succ]
                  refine wpAnyH_take (i := 2) (oi := ⟨some 30, .fieldAddr 43 (.tmp 1) 3, 0, "l02_files.go:57", #[], none⟩) (v := ?v3) rfl (by kernel_rfl) (by kernel_rfl) (by kernel_rfl) (fun _ _ _ h => h) (Or.inl ⟨by rfl, ?hy3⟩) (by assumption) ?rest3
                  case hy3 => (intro w hSw; (try dsimp only at hSw); go_simp; try (with_reducible rfl))
                  try simp only [Act.put, List.setIfInBounds_toArray, List.set_cons_zero, List.set_cons_succ]
                  refine wpAnyH_take (i := 3) (oi := ⟨some 31, .load 3 (.tmp 30), 3, "l02_files.go:57", #[⟨2, .data⟩], none⟩) (v := ?v4) rfl (by kernel_rfl) (by kernel_rfl) (by kernel_rfl) (fun _ _ _ h => h) (Or.inl ⟨by rfl, ?hy4⟩) (by assumption) ?rest4
                  case hy4 => (intro w hSw; (try dsimp only at hSw); go_simp; try (with_reducible rfl))
                  try simp only [Act.put, List.setIfInBounds_toArray, List.set_cons_zero, List.set_cons_succ]
                  refine wpAnyH_take (i := 4) (oi := ⟨some 32, .binOp .sub 3 (.tmp 31) (.const (.int .i64 1)) 3, 3, "l02_files.go:57", #[⟨3, .data⟩], none⟩) (v := ?v5) rfl (by kernel_rfl) (by kernel_rfl) (by kernel_rfl) (fun _ _ _ h => h) (Or.inl ⟨by rfl, ?hy5⟩) (by assumption) ?rest5
                  case hy5 => (intro w hSw; (try dsimp only at hSw); go_simp; try (with_reducible rfl))
                  try simp only [Act.put, List.setIfInBounds_toArray, List.set_cons_zero, List.set_cons_succ]
                  refine wpAnyH_ready (rs := [5]) (by kernel_rfl) (by simp) ?_
                  refine AllReadyH.cons (o := ⟨some 33, .call { callee := .value (.func 103), args := #[.tmp 29, .const (.int .i64 1), .tmp 32], argTypes := #[3, 3, 3] }, 4, "l02_files.go:57", #[⟨1, .data⟩, ⟨4, .data⟩], none⟩) rfl (fun K hK => ?_) AllReadyH.nil
                  go_simp
                  refine Calls.mono (l1In_any _ _ _ _) ?_
                  rintro e w1 ⟨rfl, hw1⟩
                  have hx1 := below_same hw1
                  clear hw1
                  (try simp only [e1, e3])
                  go_wp2_with fail
                  refine hK.out _ _ (bthen hHeld hx1) (fun hHeld => ?_)
                  clear hK K
                  try simp only [Act.put, List.setIfInBounds_toArray, List.set_cons_zero, List.set_cons_succ]
                  refine wpAnyH_take (i := 6) (oi := ⟨some 34, .unOp .not 4 (.tmp 33), 4, "l02_files.go:57", #[⟨5, .data⟩], none⟩) (v := ?v6) rfl (by kernel_rfl) (by kernel_rfl) (by kernel_rfl) (fun _ _ _ h => h) (Or.inl ⟨by rfl, ?hy6⟩) (by assumption) ?rest6
                  case hy6 => (intro w hSw; (try dsimp only at hSw); go_simp; try (with_reducible rfl))
                  try simp only [Act.put, List.setIfInBounds_toArray, List.set_cons_zero, List.set_cons_succ]
                  refine wpAnyH_take (i := 7) (oi := ⟨some 35, .move (.tmp 34), 4, "l02_files.go:57", #[⟨6, .data⟩, ⟨5, .chain⟩], none⟩) (v := ?v7) rfl (by kernel_rfl) (by kernel_rfl) (by kernel_rfl) (fun _ _ _ h => h) (Or.inl ⟨by rfl, ?hy7⟩) (by assumption) ?rest7
                  case hy7 => (intro w hSw; (try dsimp only at hSw); go_simp; try (with_reducible rfl))
                  try simp only [Act.put, List.setIfInBounds_toArray, List.set_cons_zero, List.set_cons_succ]
                  refine wpAnyH_take (i := 8) (oi := ⟨some 36, .move (.tmp 4), 3, "l02_files.go:57", #[⟨7, .guard⟩], some (7, false)⟩) (v := ?v8) rfl (by kernel_rfl) (by kernel_rfl) (by kernel_rfl) (fun _ _ _ h => h) (Or.inl ⟨by rfl, ?hy8⟩) (by assumption) ?rest8
                  case hy8 => (intro w hSw; (try dsimp only at hSw); go_simp; try (with_reducible rfl))
                  try simp only [Act.put, List.setIfInBounds_toArray, List.set_cons_zero, List.set_cons_succ]
                  refine wpAnyH_take (i := 9) (oi := ⟨some 37, .binOp .gtr 3 (.tmp 36) (.const (.int .i64 0)) 3, 4, "l02_files.go:57", #[⟨8, .data⟩, ⟨7, .guard⟩], some (7, false)⟩) (v := ?v9) rfl (by kernel_rfl) (by kernel_rfl) (by kernel_rfl) (fun _ _ _ h => h) (Or.inl ⟨by rfl, ?hy9⟩) (by assumption) ?rest9
                  case hy9 => (intro w hSw; (try dsimp only at hSw); go_simp; try (with_reducible rfl))
                  try simp only [Act.put, List.setIfInBounds_toArray, List.set_cons_zero, List.set_cons_succ]
                  refine wpAnyH_take (i := 10) (oi := ⟨some 38, .move (.tmp 37), 4, "l02_files.go:57", #[⟨9, .data⟩, ⟨7, .chain⟩, ⟨7, .guard⟩], some (7, false)⟩) (v := ?v10) rfl (by kernel_rfl) (by kernel_rfl) (by kernel_rfl) (fun _ _ _ h => h) (Or.inl ⟨by rfl, ?hy10⟩) (by assumption) ?rest10
                  case hy10 => (intro w hSw; (try dsimp only at hSw); go_simp; try (with_reducible rfl))
                  try simp only [Act.put, List.setIfInBounds_toArray, List.set_cons_zero, List.set_cons_succ]
                  refine wpAnyH_take (i := 11) (oi := ⟨some 39, .fieldAddr 43 (.tmp 1) 0, 0, "l02_files.go:57", #[⟨10, .guard⟩], some (10, true)⟩) (v := undef) rfl (by kernel_rfl) (by kernel_rfl) (by kernel_rfl) (fun _ _ _ h => h) (Or.inr ⟨by rfl, rfl⟩) (by assumption) ?rest11
                  try simp only [Act.put, List.setIfInBounds_toArray, List.set_cons_zero, List.set_cons_succ]
                  refine wpAnyH_take (i := 12) (oi := ⟨some 40, .load 40 (.tmp 39), 40, "l02_files.go:57", #[⟨11, .data⟩, ⟨10, .guard⟩], some (10, true)⟩) (v := undef) rfl (by kernel_rfl) (by kernel_rfl) (by kernel_rfl) (fun _ _ _ h => h) (Or.inr ⟨by rfl, rfl⟩) (by assumption) ?rest12
                  try simp only [Act.put, List.setIfInBounds_toArray, List.set_cons_zero, List.set_cons_succ]
                  refine wpAnyH_take (i := 13) (oi := ⟨some 41, .move (.tmp 4), 3, "l02_files.go:57", #[⟨10, .guard⟩], some (10, true)⟩) (v := undef) rfl (by kernel_rfl) (by kernel_rfl) (by kernel_rfl) (fun _ _ _ h => h) (Or.inr ⟨by rfl, rfl⟩) (by assumption) ?rest13
                  try simp only [Act.put, List.setIfInBounds_toArray, List.set_cons_zero, List.set_cons_succ]
                  refine wpAnyH_take (i := 14) (oi := ⟨some 42, .binOp .sub 3 (.tmp 41) (.const (.int .i64 1)) 3, 3, "l02_files.go:57", #[⟨13, .data⟩, ⟨10, .guard⟩], some (10, true)⟩) (v := undef) rfl (by kernel_rfl) (by kernel_rfl) (by kernel_rfl) (fun _ _ _ h => h) (Or.inr ⟨by rfl, rfl⟩) (by assumption) ?rest14
                  try simp only [Act.put, List.setIfInBounds_toArray, List.set_cons_zero, List.set_cons_succ]
                  refine wpAnyH_take (i := 15) (oi := ⟨some 43, .indexAddr 40 (.tmp 40) (.tmp 42), 0, "l02_files.go:57", #[⟨12, .data⟩, ⟨14, .data⟩, ⟨10, .guard⟩], some (10, true)⟩) (v := undef) rfl (by kernel_rfl) (by kernel_rfl) (by kernel_rfl) (fun _ _ _ h => h) (Or.inr ⟨by rfl, rfl⟩) (by assumption) ?rest15
                  try simp only [Act.put, List.setIfInBounds_toArray, List.set_cons_zero, List.set_cons_succ]
                  refine wpAnyH_take (i := 16) (oi := ⟨some 44, .fieldAddr 171 (.tmp 43) 0, 0, "l02_files.go:57", #[⟨15, .data⟩, ⟨10, .guard⟩], some (10, true)⟩) (v := undef) rfl (by kernel_rfl) (by kernel_rfl) (by kernel_rfl) (fun _ _ _ h => h) (Or.inr ⟨by rfl, rfl⟩) (by assumption) ?rest16
                  try simp only [Act.put, List.setIfInBounds_toArray, List.set_cons_zero, List.set_cons_succ]
                  refine wpAnyH_take (i := 17) (oi := ⟨some 45, .load 3 (.tmp 44), 3, "l02_files.go:57", #[⟨16, .data⟩, ⟨10, .guard⟩], some (10, true)⟩) (v := undef) rfl (by kernel_rfl) (by kernel_rfl) (by kernel_rfl) (fun _ _ _ h => h) (Or.inr ⟨by rfl, rfl⟩) (by assumption) ?rest17
                  try simp only [Act.put, List.setIfInBounds_toArray, List.set_cons_zero, List.set_cons_succ]
                  refine wpAnyH_take (i := 18) (oi := ⟨some 46, .fieldAddr 171 (.tmp 5) 0, 0, "l02_files.go:57", #[⟨10, .guard⟩], some (10, true)⟩) (v := undef) rfl (by kernel_rfl) (by kernel_rfl) (by kernel_rfl) (fun _ _ _ h => h) (Or.inr ⟨by rfl, rfl⟩) (by assumption) ?rest18
                  try simp only [Act.put, List.setIfInBounds_toArray, List.set_cons_zero, List.set_cons_succ]
                  refine wpAnyH_take (i := 19) (oi := ⟨some 47, .load 3 (.tmp 46), 3, "l02_files.go:57", #[⟨18, .data⟩, ⟨10, .guard⟩], some (10, true)⟩) (v := undef) rfl (by kernel_rfl) (by kernel_rfl) (by kernel_rfl) (fun _ _ _ h => h) (Or.inr ⟨by rfl, rfl⟩) (by assumption) ?rest19
                  try simp only [Act.put, List.setIfInBounds_toArray, List.set_cons_zero, List.set_cons_succ]
                  refine wpAnyH_take (i := 20) (oi := ⟨some 48, .binOp .geq 3 (.tmp 45) (.tmp 47) 3, 4, "l02_files.go:57", #[⟨17, .data⟩, ⟨19, .data⟩, ⟨10, .guard⟩], some (10, true)⟩) (v := undef) rfl (by kernel_rfl) (by kernel_rfl) (by kernel_rfl) (fun _ _ _ h => h) (Or.inr ⟨by rfl, rfl⟩) (by assumption) ?rest20
                  try simp only [Act.put, List.setIfInBounds_toArray, List.set_cons_zero, List.set_cons_succ]
                  refine wpAnyH_take (i := 21) (oi := ⟨some 49, .pick (.tmp 38) (.tmp 48) (.const (.bool false)), 4, "l02_files.go:57", #[⟨10, .data⟩, ⟨20, .data⟩, ⟨7, .guard⟩], some (7, false)⟩) (v := ?v21) rfl (by kernel_rfl) (by kernel_rfl) (by kernel_rfl) (fun _ _ _ h => h) (Or.inl ⟨by rfl, ?hy21⟩) (by assumption) ?rest21
                  case hy21 => (intro w hSw; (try dsimp only at hSw); go_simp; try (with_reducible rfl))
                  try simp only [Act.put, List.setIfInBounds_toArray, List.set_cons_zero, List.set_cons_succ]
                  refine wpAnyH_take (i := 22) (oi := ⟨some 50, .pick (.tmp 35) (.const (.bool true)) (.tmp 49), 4, "l02_files.go:57", #[⟨7, .data⟩, ⟨21, .data⟩], none⟩) (v := ?v22) rfl (by kernel_rfl) (by kernel_rfl) (by kernel_rfl) (fun _ _ _ h => h) (Or.inl ⟨by rfl, ?hy22⟩) (by assumption) ?rest22
                  case hy22 => (intro w hSw; (try dsimp only at hSw); go_simp; try (with_reducible rfl))
                  try simp only [Act.put, List.setIfInBounds_toArray, List.set_cons_zero, List.set_cons_succ]
                  refine wpAnyH_take (i := 23) (oi := ⟨some 51, .move (.tmp 50), 4, "l02_files.go:57", #[⟨22, .data⟩, ⟨10, .chain⟩], none⟩) (v := ?v23) rfl (by kernel_rfl) (by kernel_rfl) (by kernel_rfl) (fun _ _ _ h => h) (Or.inl ⟨by rfl, ?hy23⟩) (by assumption) ?rest23
                  case hy23 => (intro w hSw; (try dsimp only at hSw); go_simp; try (with_reducible rfl))
                  try simp only [Act.put, List.setIfInBounds_toArray, List.set_cons_zero, List.set_cons_succ]
                  refine wpAnyH_take (i := 24) (oi := ⟨some 52, .fieldAddr 171 (.tmp 5) 2, 0, "l02_files.go:57", #[⟨23, .guard⟩], some (23, false)⟩) (v := ?v24) rfl (by kernel_rfl) (by kernel_rfl) (by kernel_rfl) (fun _ _ _ h => h) (Or.inl ⟨by rfl, ?hy24⟩) (by assumption) ?rest24
                  case hy24 => (intro w hSw; (try dsimp only at hSw); go_simp; try (with_reducible rfl))
                  try simp only [Act.put, List.setIfInBounds_toArray, List.set_cons_zero, List.set_cons_succ]
                  refine wpAnyH_take (i := 25) (oi := ⟨some 53, .load 3 (.tmp 52), 3, "l02_files.go:57", #[⟨24, .data⟩, ⟨23, .guard⟩], some (23, false)⟩) (v := ?v25) rfl (by kernel_rfl) (by kernel_rfl) (by kernel_rfl) (fun _ _ _ h => h) (Or.inl ⟨by rfl, ?hy25⟩) (by assumption) ?rest25
                  case hy25 => (intro w hSw; (try dsimp only at hSw); go_simp; try (with_reducible rfl))
                  try simp only [Act.put, List.setIfInBounds_toArray, List.set_cons_zero, List.set_cons_succ]
                  refine wpAnyH_take (i := 26) (oi := ⟨some 54, .fieldAddr 171 (.tmp 5) 1, 0, "l02_files.go:57", #[⟨23, .guard⟩], some (23, false)⟩) (v := ?v26) rfl (by kernel_rfl) (by kernel_rfl) (by kernel_rfl) (fun _ _ _ h => h) (Or.inl ⟨by rfl, ?hy26⟩) (by assumption) ?rest26
                  case hy26 => (intro w hSw; (try dsimp only at hSw); go_simp; try (with_reducible rfl))
                  try simp only [Act.put, List.setIfInBounds_toArray, List.set_cons_zero, List.set_cons_succ]
                  refine wpAnyH_take (i := 27) (oi := ⟨some 55, .load 22 (.tmp 54), 22, "l02_files.go:57", #[⟨26, .data⟩, ⟨23, .guard⟩], some (23, false)⟩) (v := ?v27) rfl (by kernel_rfl) (by kernel_rfl) (by kernel_rfl) (fun _ _ _ h => h) (Or.inl ⟨by rfl, ?hy27⟩) (by assumption) ?rest27
                  case hy27 => (intro w hSw; (try dsimp only at hSw); go_simp; try (with_reducible rfl))
                  try simp only [Act.put, List.setIfInBounds_toArray, List.set_cons_zero, List.set_cons_succ]
                  refine wpAnyH_take (i := 28) (oi := ⟨some 56, .call { callee := .builtin .len, args := #[.tmp 55], argTypes := #[22] }, 3, "l02_files.go:57", #[⟨27, .data⟩, ⟨23, .guard⟩], some (23, false)⟩) (v := ?v28) rfl (by kernel_rfl) (by kernel_rfl) (by kernel_rfl) (fun _ _ _ h => h) (Or.inl ⟨by rfl, ?hy28⟩) (by assumption) ?rest28
                  case hy28 => (intro w hSw; (try dsimp only at hSw); go_simp; try (with_reducible rfl))
                  try simp only [Act.put, List.setIfInBounds_toArray, List.set_cons_zero, List.set_cons_succ]
                  refine wpAnyH_ready (rs := [29]) (by kernel_rfl) (by simp) ?_
                  refine AllReadyH.cons (o := ⟨some 57, .call { callee := .value (.func 103), args := #[.tmp 53, .const (.int .i64 0), .tmp 56], argTypes := #[3, 3, 3] }, 4, "l02_files.go:57", #[⟨25, .data⟩, ⟨28, .data⟩, ⟨23, .chain⟩, ⟨23, .guard⟩], some (23, false)⟩) rfl (fun K hK => ?_) AllReadyH.nil
                  go_simp
                  refine Calls.mono (l1In_any _ _ _ _) ?_
                  rintro e w2 ⟨rfl, hw2⟩
                  have hx2 := below_same hw2
                  clear hw2
                  (try simp only [e1, e3])
                  go_wp2_with fail
                  refine hK.out _ _ (bthen hHeld hx2) (fun hHeld => ?_)
                  clear hK K
                  try simp only [Act.put, List.setIfInBounds_toArray, List.set_cons_zero, List.set_cons_succ]
                  refine wpAnyH_take (i := 30) (oi := ⟨some 58, .unOp .not 4 (.tmp 57), 4, "l02_files.go:57", #[⟨29, .data⟩, ⟨23, .guard⟩], some (23, false)⟩) (v := ?v29) rfl (by kernel_rfl) (by kernel_rfl) (by kernel_rfl) (fun _ _ _ h => h) (Or.inl ⟨by rfl, ?hy29⟩) (by assumption) ?rest29
                  case hy29 => (intro w hSw; (try dsimp only at hSw); go_simp; try (with_reducible rfl))
                  try simp only [Act.put, List.setIfInBounds_toArray, List.set_cons_zero, List.set_cons_succ]
                  refine wpAnyH_take (i := 31) (oi := ⟨some 59, .pick (.tmp 51) (.const (.bool true)) (.tmp 58), 4, "l02_files.go:57", #[⟨23, .data⟩, ⟨30, .data⟩], none⟩) (v := ?v30) rfl (by kernel_rfl) (by kernel_rfl) (by kernel_rfl) (fun _ _ _ h => h) (Or.inl ⟨by rfl, ?hy30⟩) (by assumption) ?rest30
                  case hy30 => (intro w hSw; (try dsimp only at hSw); go_simp; try (with_reducible rfl))
                  try simp only [Act.put, List.setIfInBounds_toArray, List.set_cons_zero, List.set_cons_succ]
                  refine wpAnyH_take (i := 32) (oi := ⟨some 60, .move (.tmp 59), 4, "l02_files.go:57", #[⟨31, .data⟩, ⟨29, .chain⟩], none⟩) (v := ?v31) rfl (by kernel_rfl) (by kernel_rfl) (by kernel_rfl) (fun _ _ _ h => h) (Or.inl ⟨by rfl, ?hy31⟩) (by assumption) ?rest31
                  case hy31 => (intro w hSw; (try dsimp only at hSw); go_simp; try (with_reducible rfl))
                  try simp only [Act.put, List.setIfInBounds_toArray, List.set_cons_zero, List.set_cons_succ]
                  refine wpAnyH_take (i := 33) (oi := ⟨some 61, .fieldAddr 43 (.tmp 1) 1, 0, "l02_files.go:57", #[⟨32, .guard⟩], some (32, false)⟩) (v := ?v32) rfl (by kernel_rfl) (by kernel_rfl) (by kernel_rfl) (fun _ _ _ h => h) (Or.inl ⟨by rfl, ?hy32⟩) (by assumption) ?rest32
                  case hy32 => (intro w hSw; (try dsimp only at hSw); go_simp; try (with_reducible rfl))
                  try simp only [Act.put, List.setIfInBounds_toArray, List.set_cons_zero, List.set_cons_succ]
                  refine wpAnyH_take (i := 34) (oi := ⟨some 62, .load 41 (.tmp 61), 41, "l02_files.go:57", #[⟨33, .data⟩, ⟨32, .guard⟩], some (32, false)⟩) (v := ?v33) rfl (by kernel_rfl) (by kernel_rfl) (by kernel_rfl) (fun _ _ _ h => h) (Or.inl ⟨by rfl, ?hy33⟩) (by assumption) ?rest33
                  case hy33 => (intro w hSw; (try dsimp only at hSw); go_simp; try (with_reducible rfl))
                  try simp only [Act.put, List.setIfInBounds_toArray, List.set_cons_zero, List.set_cons_succ]
                  refine wpAnyH_take (i := 35) (oi := ⟨some 63, .fieldAddr 171 (.tmp 5) 0, 0, "l02_files.go:57", #[⟨32, .guard⟩], some (32, false)⟩) (v := ?v34) rfl (by kernel_rfl) (by kernel_rfl) (by kernel_rfl) (fun _ _ _ h => h) (Or.inl ⟨by rfl, ?hy34⟩) (by assumption) ?rest34
                  case hy34 => (intro w hSw; (try dsimp only at hSw); go_simp; try (with_reducible rfl))
                  try simp only [Act.put, List.setIfInBounds_toArray, List.set_cons_zero, List.set_cons_succ]
                  refine wpAnyH_take (i := 36) (oi := ⟨some 64, .load 3 (.tmp 63), 3, "l02_files.go:57", #[⟨35, .data⟩, ⟨32, .guard⟩], some (32, false)⟩) (v := ?v35) rfl (by kernel_rfl) (by kernel_rfl) (by kernel_rfl) (fun _ _ _ h => h) (Or.inl ⟨by rfl, ?hy35⟩) (by assumption) ?rest35
                  case hy35 => (intro w hSw; (try dsimp only at hSw); go_simp; try (with_reducible rfl))
                  try simp only [Act.put, List.setIfInBounds_toArray, List.set_cons_zero, List.set_cons_succ]
                  refine wpAnyH_ready (rs := [37]) (by kernel_rfl) (by simp) ?_
                  refine AllReadyH.cons (o := ⟨some 65, .call { callee := .value (.func 175), args := #[.tmp 62, .tmp 64], argTypes := #[41, 3] }, 4, "l02_files.go:57", #[⟨34, .data⟩, ⟨36, .data⟩, ⟨32, .chain⟩, ⟨32, .guard⟩], some (32, false)⟩) rfl (fun K hK => ?_) AllReadyH.nil
                  go_simp
                  refine Calls.mono (hCa _ hHeld) ?_
                  rintro e w3 ⟨rfl, hw3⟩
                  have hx3 := below_same hw3
                  clear hw3
                  go_wp2_with fail
                  refine hK.out _ _ (bthen hHeld hx3) (fun hHeld => ?_)
                  clear hK K
                  try simp only [Act.put, List.setIfInBounds_toArray, List.set_cons_zero, List.set_cons_succ]
                  refine wpAnyH_take (i := 38) (oi := ⟨some 66, .unOp .not 4 (.tmp 65), 4, "l02_files.go:57", #[⟨37, .data⟩, ⟨32, .guard⟩], some (32, false)⟩) (v := ?v36) rfl (by kernel_rfl) (by kernel_rfl) (by kernel_rfl) (fun _ _ _ h => h) (Or.inl ⟨by rfl, ?hy36⟩) (by assumption) ?rest36
                  case hy36 => (intro w hSw; (try dsimp only at hSw); go_simp; try (with_reducible rfl))
                  try simp only [Act.put, List.setIfInBounds_toArray, List.set_cons_zero, List.set_cons_succ]
                  refine wpAnyH_take (i := 39) (oi := ⟨some 67, .move (.tmp 66), 4, "l02_files.go:57", #[⟨38, .data⟩, ⟨37, .chain⟩, ⟨32, .guard⟩], some (32, false)⟩) (v := ?v37) rfl (by kernel_rfl) (by kernel_rfl) (by kernel_rfl) (fun _ _ _ h => h) (Or.inl ⟨by rfl, ?hy37⟩) (by assumption) ?rest37
                  case hy37 => (intro w hSw; (try dsimp only at hSw); go_simp; try (with_reducible rfl))
                  try simp only [Act.put, List.setIfInBounds_toArray, List.set_cons_zero, List.set_cons_succ]
                  refine wpAnyH_take (i := 40) (oi := ⟨some 68, .fieldAddr 43 (.tmp 1) 2, 0, "l02_files.go:57", #[⟨39, .guard⟩], some (39, true)⟩) (v := undef) rfl (by kernel_rfl) (by kernel_rfl) (by kernel_rfl) (fun _ _ _ h => h) (Or.inr ⟨by rfl, rfl⟩) (by assumption) ?rest38
                  try simp only [Act.put, List.setIfInBounds_toArray, List.set_cons_zero, List.set_cons_succ]
                  refine wpAnyH_take (i := 41) (oi := ⟨some 69, .load 41 (.tmp 68), 41, "l02_files.go:57", #[⟨40, .data⟩, ⟨39, .guard⟩], some (39, true)⟩) (v := undef) rfl (by kernel_rfl) (by kernel_rfl) (by kernel_rfl) (fun _ _ _ h => h) (Or.inr ⟨by rfl, rfl⟩) (by assumption) ?rest39
                  try simp only [Act.put, List.setIfInBounds_toArray, List.set_cons_zero, List.set_cons_succ]
                  refine wpAnyH_take (i := 42) (oi := ⟨some 70, .fieldAddr 171 (.tmp 5) 0, 0, "l02_files.go:57", #[⟨39, .guard⟩], some (39, true)⟩) (v := undef) rfl (by kernel_rfl) (by kernel_rfl) (by kernel_rfl) (fun _ _ _ h => h) (Or.inr ⟨by rfl, rfl⟩) (by assumption) ?rest40
                  try simp only [Act.put, List.setIfInBounds_toArray, List.set_cons_zero, List.set_cons_succ]
                  refine wpAnyH_take (i := 43) (oi := ⟨some 71, .load 3 (.tmp 70), 3, "l02_files.go:57", #[⟨42, .data⟩, ⟨39, .guard⟩], some (39, true)⟩) (v := undef) rfl (by kernel_rfl) (by kernel_rfl) (by kernel_rfl) (fun _ _ _ h => h) (Or.inr ⟨by rfl, rfl⟩) (by assumption) ?rest41
                  try simp only [Act.put, List.setIfInBounds_toArray, List.set_cons_zero, List.set_cons_succ]
                  refine wpAnyH_take (i := 44) (oi := ⟨some 72, .call { callee := .value (.func 175), args := #[.tmp 69, .tmp 71], argTypes := #[41, 3] }, 4, "l02_files.go:57", #[⟨41, .data⟩, ⟨43, .data⟩, ⟨39, .chain⟩, ⟨39, .guard⟩], some (39, true)⟩) (v := undef) rfl (by kernel_rfl) (by kernel_rfl) (by kernel_rfl) (fun _ _ _ h => h) (Or.inr ⟨by rfl, rfl⟩) (by assumption) ?rest42
                  try simp only [Act.put, List.setIfInBounds_toArray, List.set_cons_zero, List.set_cons_succ]
                  refine wpAnyH_take (i := 45) (oi := ⟨some 73, .unOp .not 4 (.tmp 72), 4, "l02_files.go:57", #[⟨44, .data⟩, ⟨39, .guard⟩], some (39, true)⟩) (v := undef) rfl (by kernel_rfl) (by kernel_rfl) (by kernel_rfl) (fun _ _ _ h => h) (Or.inr ⟨by rfl, rfl⟩) (by assumption) ?rest43
                  try simp only [Act.put, List.setIfInBounds_toArray, List.set_cons_zero, List.set_cons_succ]
                  refine wpAnyH_take (i := 46) (oi := ⟨some 74, .pick (.tmp 67) (.tmp 73) (.const (.bool false)), 4, "l02_files.go:57", #[⟨39, .data⟩, ⟨45, .data⟩, ⟨32, .guard⟩], some (32, false)⟩) (v := ?v44) rfl (by kernel_rfl) (by kernel_rfl) (by kernel_rfl) (fun _ _ _ h => h) (Or.inl ⟨by rfl, ?hy44⟩) (by assumption) ?rest44
                  case hy44 => (intro w hSw; (try dsimp only at hSw); go_simp; try (with_reducible rfl))
                  try simp only [Act.put, List.setIfInBounds_toArray, List.set_cons_zero, List.set_cons_succ]
                  refine wpAnyH_take (i := 47) (oi := ⟨some 75, .pick (.tmp 60) (.const (.bool true)) (.tmp 74), 4, "l02_files.go:57", #[⟨32, .data⟩, ⟨46, .data⟩], none⟩) (v := ?v45) rfl (by kernel_rfl) (by kernel_rfl) (by kernel_rfl) (fun _ _ _ h => h) (Or.inl ⟨by rfl, ?hy45⟩) (by assumption) ?rest45
                  case hy45 => (intro w hSw; (try dsimp only at hSw); go_simp; try (with_reducible rfl))
                  try simp only [Act.put, List.setIfInBounds_toArray, List.set_cons_zero, List.set_cons_succ]
                  refine wpAnyH_done (by kernel_rfl) ?_ _
                  have r1 := q1 _ hHeld
                  have r0 := p0 _ hHeld
                  go_wp2_with fail
                  go_roundw
                  case rel => exact ⟨k + 1, by omega, by go_num, by rw [HWS.out]; go_num, by rw [HPI.out]; omega, HGo, bthen hbW hHeld, hbx2.under hHeld⟩
                  case measure => simp [intOf]; omega
                · have hA2 : named m.fNames n.fId = false := by simpa using hA
                  simp only [hA2] at hCa
                  by_cases hB2 : named m.fSafe n.fId = true
                  · have HGo := HGO.out (by rw [HSI.out, HNI.out, hB2, decide_eq_true (by omega)]; simp)
                    simp only [hB2] at hCb
                    clear HFAIL HGO HSI HNI hA hA2 hB2 HSP
                    refine wp_region_held_drew (S := fun W => Below wq.heap.size wq W) (by kernel_rfl) (Below.drew (Below.refl _ _)) (fun hHeld => ?_)
                    refine wpAnyH_take (i := 0) (oi := ⟨some 28, .fieldAddr 171 (.tmp 5) 0, 0, "l02_files.go:57", #[], none⟩) (v := ?v46) rfl (by kernel_rfl) (by kernel_rfl) (by kernel_rfl) (fun _ _ _ h => h) (Or.inl ⟨by rfl, ?hy46⟩) (by assumption) ?rest46
                    case hy46 => (intro w hSw; (try dsimp only at hSw); go_simp; try (with_reducible rfl))
                    try simp only [Act.put, List.setIfInBounds_toArray, List.set_cons_zero, List.set_cons_succ]
                    refine wpAnyH_take (i := 1) (oi := ⟨some 29, .load 3 (.tmp 28), 3, "l02_files.go:57", #[⟨0, .data⟩], none⟩) (v := ?v47) rfl (by kernel_rfl) (by kernel_rfl) (by kernel_rfl) (fun _ _ _ h => h) (Or.inl ⟨by rfl, ?hy47⟩) (by assumption) ?rest47
                    case hy47 => (intro w hSw; (try dsimp only at hSw); go_simp; try (with_reducible rfl))
                    try simp only [Act.put, List.setIfInBounds_toArray, List.set_cons_zero, List.set_cons_succ]
                    refine wpAnyH_take (i := 2) (oi := ⟨some 30, .fieldAddr 43 (.tmp 1) 3, 0, "l02_files.go:57", #[], none⟩) (v := ?v48) rfl (by kernel_rfl) (by kernel_rfl) (by kernel_rfl) (fun _ _ _ h => h) (Or.inl ⟨by rfl, ?hy48⟩) (by assumption) ?rest48
                    case hy48 => (intro w hSw; (try dsimp only at hSw); go_simp; try (with_reducible rfl))
                    try simp only [Act.put, List.setIfInBounds_toArray, List.set_cons_zero, List.set_cons_succ]
                    refine wpAnyH_take (i := 3) (oi := ⟨some 31, .load 3 (.tmp 30), 3, "l02_files.go:57", #[⟨2, .data⟩], none⟩) (v := ?v49) rfl (by kernel_rfl) (by kernel_rfl) (by kernel_rfl) (fun _ _ _ h => h) (Or.inl ⟨by rfl, ?hy49⟩) (by assumption) ?rest49
                    case hy49 => (intro w hSw; (try dsimp only at hSw); go_simp; try (with_reducible rfl))
                    try simp only [Act.put, List.setIfInBounds_toArray, List.set_cons_zero, List.set_cons_succ]
                    refine wpAnyH_take (i := 4) (oi := ⟨some 32, .binOp .sub 3 (.tmp 31) (.const (.int .i64 1)) 3, 3, "l02_files.go:57", #[⟨3, .data⟩], none⟩) (v := ?v50) rfl (by kernel_rfl) (by kernel_rfl) (by kernel_rfl) (fun _ _ _ h => h) (Or.inl ⟨by rfl, ?hy50⟩) (by assumption) ?rest50
                    case hy50 => (intro w hSw; (try dsimp only at hSw); go_simp; try (with_reducible rfl))
                    try simp only [Act.put, List.setIfInBounds_toArray, List.set_cons_zero, List.set_cons_succ]
                    refine wpAnyH_ready (rs := [5]) (by kernel_rfl) (by simp) ?_
                    refine AllReadyH.cons (o := ⟨some 33, .call { callee := .value (.func 103), args := #[.tmp 29, .const (.int .i64 1), .tmp 32], argTypes := #[3, 3, 3] }, 4, "l02_files.go:57", #[⟨1, .data⟩, ⟨4, .data⟩], none⟩) rfl (fun K hK => ?_) AllReadyH.nil
                    go_simp
                    refine Calls.mono (l1In_any _ _ _ _) ?_
                    rintro e w1 ⟨rfl, hw1⟩
                    have hx1 := below_same hw1
                    clear hw1
                    (try simp only [e1, e3])
                    go_wp2_with fail
                    refine hK.out _ _ (bthen hHeld hx1) (fun hHeld => ?_)
                    clear hK K
                    try simp only [Act.put, List.setIfInBounds_toArray, List.set_cons_zero, List.set_cons_succ]
                    refine wpAnyH_take (i := 6) (oi := ⟨some 34, .unOp .not 4 (.tmp 33), 4, "l02_files.go:57", #[⟨5, .data⟩], none⟩) (v := ?v51) rfl (by kernel_rfl) (by kernel_rfl) (by kernel_rfl) (fun _ _ _ h => h) (Or.inl ⟨by rfl, ?hy51⟩) (by assumption) ?rest51
                    case hy51 => (intro w hSw; (try dsimp only at hSw); go_simp; try (with_reducible rfl))
                    try simp only [Act.put, List.setIfInBounds_toArray, List.set_cons_zero, List.set_cons_succ]
                    refine wpAnyH_take (i := 7) (oi := ⟨some 35, .move (.tmp 34), 4, "l02_files.go:57", #[⟨6, .data⟩, ⟨5, .chain⟩], none⟩) (v := ?v52) rfl (by kernel_rfl) (by kernel_rfl) (by kernel_rfl) (fun _ _ _ h => h) (Or.inl ⟨by rfl, ?hy52⟩) (by assumption) ?rest52
                    case hy52 => (intro w hSw; (try dsimp only at hSw); go_simp; try (with_reducible rfl))
                    try simp only [Act.put, List.setIfInBounds_toArray, List.set_cons_zero, List.set_cons_succ]
                    refine wpAnyH_take (i := 8) (oi := ⟨some 36, .move (.tmp 4), 3, "l02_files.go:57", #[⟨7, .guard⟩], some (7, false)⟩) (v := ?v53) rfl (by kernel_rfl) (by kernel_rfl) (by kernel_rfl) (fun _ _ _ h => h) (Or.inl ⟨by rfl, ?hy53⟩) (by assumption) ?rest53
                    case hy53 => (intro w hSw; (try dsimp only at hSw); go_simp; try (with_reducible rfl))
                    try simp only [Act.put, List.setIfInBounds_toArray, List.set_cons_zero, List.set_cons_succ]
                    refine wpAnyH_take (i := 9) (oi := ⟨some 37, .binOp .gtr 3 (.tmp 36) (.const (.int .i64 0)) 3, 4, "l02_files.go:57", #[⟨8, .data⟩, ⟨7, .guard⟩], some (7, false)⟩) (v := ?v54) rfl (by kernel_rfl) (by kernel_rfl) (by kernel_rfl) (fun _ _ _ h => h) (Or.inl ⟨by rfl, ?hy54⟩) (by assumption) ?rest54
                    case hy54 => (intro w hSw; (try dsimp only at hSw); go_simp; try (with_reducible rfl))
                    try simp only [Act.put, List.setIfInBounds_toArray, List.set_cons_zero, List.set_cons_succ]
                    refine wpAnyH_take (i := 10) (oi := ⟨some 38, .move (.tmp 37), 4, "l02_files.go:57", #[⟨9, .data⟩, ⟨7, .chain⟩, ⟨7, .guard⟩], some (7, false)⟩) (v := ?v55) rfl (by kernel_rfl) (by kernel_rfl) (by kernel_rfl) (fun _ _ _ h => h) (Or.inl ⟨by rfl, ?hy55⟩) (by assumption) ?rest55
                    case hy55 => (intro w hSw; (try dsimp only at hSw); go_simp; try (with_reducible rfl))
                    try simp only [Act.put, List.setIfInBounds_toArray, List.set_cons_zero, List.set_cons_succ]
                    refine wpAnyH_take (i := 11) (oi := ⟨some 39, .fieldAddr 43 (.tmp 1) 0, 0, "l02_files.go:57", #[⟨10, .guard⟩], some (10, true)⟩) (v := undef) rfl (by kernel_rfl) (by kernel_rfl) (by kernel_rfl) (fun _ _ _ h => h) (Or.inr ⟨by rfl, rfl⟩) (by assumption) ?rest56
                    try simp only [Act.put, List.setIfInBounds_toArray, List.set_cons_zero, List.set_cons_succ]
                    refine wpAnyH_take (i := 12) (oi := ⟨some 40, .load 40 (.tmp 39), 40, "l02_files.go:57", #[⟨11, .data⟩, ⟨10, .guard⟩], some (10, true)⟩) (v := undef) rfl (by kernel_rfl) (by kernel_rfl) (by kernel_rfl) (fun _ _ _ h => h) (Or.inr ⟨by rfl, rfl⟩) (by assumption) ?rest57
                    try simp only [Act.put, List.setIfInBounds_toArray, List.set_cons_zero, List.set_cons_succ]
                    refine wpAnyH_take (i := 13) (oi := ⟨some 41, .move (.tmp 4), 3, "l02_files.go:57", #[⟨10, .guard⟩], some (10, true)⟩) (v := undef) rfl (by kernel_rfl) (by kernel_rfl) (by kernel_rfl) (fun _ _ _ h => h) (Or.inr ⟨by rfl, rfl⟩) (by assumption) ?rest58
                    try simp only [Act.put, List.setIfInBounds_toArray, List.set_cons_zero, List.set_cons_succ]
                    refine wpAnyH_take (i := 14) (oi := ⟨some 42, .binOp .sub 3 (.tmp 41) (.const (.int .i64 1)) 3, 3, "l02_files.go:57", #[⟨13, .data⟩, ⟨10, .guard⟩], some (10, true)⟩) (v := undef) rfl (by kernel_rfl) (by kernel_rfl) (by kernel_rfl) (fun _ _ _ h => h) (Or.inr ⟨by rfl, rfl⟩) (by assumption) ?rest59
                    try simp only [Act.put, List.setIfInBounds_toArray, List.set_cons_zero, List.set_cons_succ]
                    refine wpAnyH_take (i := 15) (oi := ⟨some 43, .indexAddr 40 (.tmp 40) (.tmp 42), 0, "l02_files.go:57", #[⟨12, .data⟩, ⟨14, .data⟩, ⟨10, .guard⟩], some (10, true)⟩) (v := undef) rfl (by kernel_rfl) (by kernel_rfl) (by kernel_rfl) (fun _ _ _ h => h) (Or.inr ⟨by rfl, rfl⟩) (by assumption) ?rest60
                    try simp only [Act.put, List.setIfInBounds_toArray, List.set_cons_zero, List.set_cons_succ]
                    refine wpAnyH_take (i := 16) (oi := ⟨some 44, .fieldAddr 171 (.tmp 43) 0, 0, "l02_files.go:57", #[⟨15, .data⟩, ⟨10, .guard⟩], some (10, true)⟩) (v := undef) rfl (by kernel_rfl) (by kernel_rfl) (by kernel_rfl) (fun _ _ _ h => h) (Or.inr ⟨by rfl, rfl⟩) (by assumption) ?rest61
                    try simp only [Act.put, List.setIfInBounds_toArray, List.set_cons_zero, List.set_cons_succ]
                    refine wpAnyH_take (i := 17) (oi := ⟨some 45, .load 3 (.tmp 44), 3, "l02_files.go:57", #[⟨16, .data⟩, ⟨10, .guard⟩], some (10, true)⟩) (v := undef) rfl (by kernel_rfl) (by kernel_rfl) (by kernel_rfl) (fun _ _ _ h => h) (Or.inr ⟨by rfl, rfl⟩) (by assumption) ?rest62
                    try simp only [Act.put, List.setIfInBounds_toArray, List.set_cons_zero, List.set_cons_succ]
                    refine wpAnyH_take (i := 18) (oi := ⟨some 46, .fieldAddr 171 (.tmp 5) 0, 0, "l02_files.go:57", #[⟨10, .guard⟩], some (10, true)⟩) (v := undef) rfl (by kernel_rfl) (by kernel_rfl) (by kernel_rfl) (fun _ _ _ h => h) (Or.inr ⟨by rfl, rfl⟩) (by assumption) ?rest63
                    try simp only [Act.put, List.setIfInBounds_toArray, List.set_cons_zero, List.set_cons_succ]
                    refine wpAnyH_take (i := 19) (oi := ⟨some 47, .load 3 (.tmp 46), 3, "l02_files.go:57", #[⟨18, .data⟩, ⟨10, .guard⟩], some (10, true)⟩) (v := undef) rfl (by kernel_rfl) (by kernel_rfl) (by kernel_rfl) (fun _ _ _ h => h) (Or.inr ⟨by rfl, rfl⟩) (by assumption) ?rest64
                    try simp only [Act.put, List.setIfInBounds_toArray, List.set_cons_zero, List.set_cons_succ]
                    refine wpAnyH_take (i := 20) (oi := ⟨some 48, .binOp .geq 3 (.tmp 45) (.tmp 47) 3, 4, "l02_files.go:57", #[⟨17, .data⟩, ⟨19, .data⟩, ⟨10, .guard⟩], some (10, true)⟩) (v := undef) rfl (by kernel_rfl) (by kernel_rfl) (by kernel_rfl) (fun _ _ _ h => h) (Or.inr ⟨by rfl, rfl⟩) (by assumption) ?rest65
                    try simp only [Act.put, List.setIfInBounds_toArray, List.set_cons_zero, List.set_cons_succ]
                    refine wpAnyH_take (i := 21) (oi := ⟨some 49, .pick (.tmp 38) (.tmp 48) (.const (.bool false)), 4, "l02_files.go:57", #[⟨10, .data⟩, ⟨20, .data⟩, ⟨7, .guard⟩], some (7, false)⟩) (v := ?v66) rfl (by kernel_rfl) (by kernel_rfl) (by kernel_rfl) (fun _ _ _ h => h) (Or.inl ⟨by rfl, ?hy66⟩) (by assumption) ?rest66
                    case hy66 => (intro w hSw; (try dsimp only at hSw); go_simp; try (with_reducible rfl))
                    try simp only [Act.put, List.setIfInBounds_toArray, List.set_cons_zero, List.set_cons_succ]
                    refine wpAnyH_take (i := 22) (oi := ⟨some 50, .pick (.tmp 35) (.const (.bool true)) (.tmp 49), 4, "l02_files.go:57", #[⟨7, .data⟩, ⟨21, .data⟩], none⟩) (v := ?v67) rfl (by kernel_rfl) (by kernel_rfl) (by kernel_rfl) (fun _ _ _ h => h) (Or.inl ⟨by rfl, ?hy67⟩) (by assumption) ?rest67
                    case hy67 => (intro w hSw; (try dsimp only at hSw); go_simp; try (with_reducible rfl))
                    try simp only [Act.put, List.setIfInBounds_toArray, List.set_cons_zero, List.set_cons_succ]
                    refine wpAnyH_take (i := 23) (oi := ⟨some 51, .move (.tmp 50), 4, "l02_files.go:57", #[⟨22, .data⟩, ⟨10, .chain⟩], none⟩) (v := ?v68) rfl (by kernel_rfl) (by kernel_rfl) (by kernel_rfl) (fun _ _ _ h => h) (Or.inl ⟨by rfl, ?hy68⟩) (by assumption) ?rest68
                    case hy68 => (intro w hSw; (try dsimp only at hSw); go_simp; try (with_reducible rfl))
                    try simp only [Act.put, List.setIfInBounds_toArray, List.set_cons_zero, List.set_cons_succ]
                    refine wpAnyH_take (i := 24) (oi := ⟨some 52, .fieldAddr 171 (.tmp 5) 2, 0, "l02_files.go:57", #[⟨23, .guard⟩], some (23, false)⟩) (v := ?v69) rfl (by kernel_rfl) (by kernel_rfl) (by kernel_rfl) (fun _ _ _ h => h) (Or.inl ⟨by rfl, ?hy69⟩) (by assumption) ?rest69
                    case hy69 => (intro w hSw; (try dsimp only at hSw); go_simp; try (with_reducible rfl))
                    try simp only [Act.put, List.setIfInBounds_toArray, List.set_cons_zero, List.set_cons_succ]
                    refine wpAnyH_take (i := 25) (oi := ⟨some 53, .load 3 (.tmp 52), 3, "l02_files.go:57", #[⟨24, .data⟩, ⟨23, .guard⟩], some (23, false)⟩) (v := ?v70) rfl (by kernel_rfl) (by kernel_rfl) (by kernel_rfl) (fun _ _ _ h => h) (Or.inl ⟨by rfl, ?hy70⟩) (by assumption) ?rest70
                    case hy70 => (intro w hSw; (try dsimp only at hSw); go_simp; try (with_reducible rfl))
                    try simp only [Act.put, List.setIfInBounds_toArray, List.set_cons_zero, List.set_cons_succ]
                    refine wpAnyH_take (i := 26) (oi := ⟨some 54, .fieldAddr 171 (.tmp 5) 1, 0, "l02_files.go:57", #[⟨23, .guard⟩], some (23, false)⟩) (v := ?v71) rfl (by kernel_rfl) (by kernel_rfl) (by kernel_rfl) (fun _ _ _ h => h) (Or.inl ⟨by rfl, ?hy71⟩) (by assumption) ?rest71
                    case hy71 => (intro w hSw; (try dsimp only at hSw); go_simp; try (with_reducible rfl))
                    try simp only [Act.put, List.setIfInBounds_toArray, List.set_cons_zero, List.set_cons_succ]
                    refine wpAnyH_take (i := 27) (oi := ⟨some 55, .load 22 (.tmp 54), 22, "l02_files.go:57", #[⟨26, .data⟩, ⟨23, .guard⟩], some (23, false)⟩) (v := ?v72) rfl (by kernel_rfl) (by kernel_rfl) (by kernel_rfl) (fun _ _ _ h => h) (Or.inl ⟨by rfl, ?hy72⟩) (by assumption) ?rest72
                    case hy72 => (intro w hSw; (try dsimp only at hSw); go_simp; try (with_reducible rfl))
                    try simp only [Act.put, List.setIfInBounds_toArray, List.set_cons_zero, List.set_cons_succ]
                    refine wpAnyH_take (i := 28) (oi := ⟨some 56, .call { callee := .builtin .len, args := #[.tmp 55], argTypes := #[22] }, 3, "l02_files.go:57", #[⟨27, .data⟩, ⟨23, .guard⟩], some (23, false)⟩) (v := ?v73) rfl (by kernel_rfl) (by kernel_rfl) (by kernel_rfl) (fun _ _ _ h => h) (Or.inl ⟨by rfl, ?hy73⟩) (by assumption) ?rest73
                    case hy73 => (intro w hSw; (try dsimp only at hSw); go_simp; try (with_reducible rfl))
                    try simp only [Act.put, List.setIfInBounds_toArray, List.set_cons_zero, List.set_cons_succ]
                    refine wpAnyH_ready (rs := [29]) (by kernel_rfl) (by simp) ?_
                    refine AllReadyH.cons (o := ⟨some 57, .call { callee := .value (.func 103), args := #[.tmp 53, .const (.int .i64 0), .tmp 56], argTypes := #[3, 3, 3] }, 4, "l02_files.go:57", #[⟨25, .data⟩, ⟨28, .data⟩, ⟨23, .chain⟩, ⟨23, .guard⟩], some (23, false)⟩) rfl (fun K hK => ?_) AllReadyH.nil
                    go_simp
                    refine Calls.mono (l1In_any _ _ _ _) ?_
                    rintro e w2 ⟨rfl, hw2⟩
                    have hx2 := below_same hw2
                    clear hw2
                    (try simp only [e1, e3])
                    go_wp2_with fail
                    refine hK.out _ _ (bthen hHeld hx2) (fun hHeld => ?_)
                    clear hK K
                    try simp only [Act.put, List.setIfInBounds_toArray, List.set_cons_zero, List.set_cons_succ]
                    refine wpAnyH_take (i := 30) (oi := ⟨some 58, .unOp .not 4 (.tmp 57), 4, "l02_files.go:57", #[⟨29, .data⟩, ⟨23, .guard⟩], some (23, false)⟩) (v := ?v74) rfl (by kernel_rfl) (by kernel_rfl) (by kernel_rfl) (fun _ _ _ h => h) (Or.inl ⟨by rfl, ?hy74⟩) (by assumption) ?rest74
                    case hy74 => (intro w hSw; (try dsimp only at hSw); go_simp; try (with_reducible rfl))
                    try simp only [Act.put, List.setIfInBounds_toArray, List.set_cons_zero, List.set_cons_succ]
                    refine wpAnyH_take (i := 31) (oi := ⟨some 59, .pick (.tmp 51) (.const (.bool true)) (.tmp 58), 4, "l02_files.go:57", #[⟨23, .data⟩, ⟨30, .data⟩], none⟩) (v := ?v75) rfl (by kernel_rfl) (by kernel_rfl) (by kernel_rfl) (fun _ _ _ h => h) (Or.inl ⟨by rfl, ?hy75⟩) (by assumption) ?rest75
                    case hy75 => (intro w hSw; (try dsimp only at hSw); go_simp; try (with_reducible rfl))
                    try simp only [Act.put, List.setIfInBounds_toArray, List.set_cons_zero, List.set_cons_succ]
                    refine wpAnyH_take (i := 32) (oi := ⟨some 60, .move (.tmp 59), 4, "l02_files.go:57", #[⟨31, .data⟩, ⟨29, .chain⟩], none⟩) (v := ?v76) rfl (by kernel_rfl) (by kernel_rfl) (by kernel_rfl) (fun _ _ _ h => h) (Or.inl ⟨by rfl, ?hy76⟩) (by assumption) ?rest76
                    case hy76 => (intro w hSw; (try dsimp only at hSw); go_simp; try (with_reducible rfl))
                    try simp only [Act.put, List.setIfInBounds_toArray, List.set_cons_zero, List.set_cons_succ]
                    refine wpAnyH_take (i := 33) (oi := ⟨some 61, .fieldAddr 43 (.tmp 1) 1, 0, "l02_files.go:57", #[⟨32, .guard⟩], some (32, false)⟩) (v := ?v77) rfl (by kernel_rfl) (by kernel_rfl) (by kernel_rfl) (fun _ _ _ h => h) (Or.inl ⟨by rfl, ?hy77⟩) (by assumption) ?rest77
                    case hy77 => (intro w hSw; (try dsimp only at hSw); go_simp; try (with_reducible rfl))
                    try simp only [Act.put, List.setIfInBounds_toArray, List.set_cons_zero, List.set_cons_succ]
                    refine wpAnyH_take (i := 34) (oi := ⟨some 62, .load 41 (.tmp 61), 41, "l02_files.go:57", #[⟨33, .data⟩, ⟨32, .guard⟩], some (32, false)⟩) (v := ?v78) rfl (by kernel_rfl) (by kernel_rfl) (by kernel_rfl) (fun _ _ _ h => h) (Or.inl ⟨by rfl, ?hy78⟩) (by assumption) ?rest78
                    case hy78 => (intro w hSw; (try dsimp only at hSw); go_simp; try (with_reducible rfl))
                    try simp only [Act.put, List.setIfInBounds_toArray, List.set_cons_zero, List.set_cons_succ]
                    refine wpAnyH_take (i := 35) (oi := ⟨some 63, .fieldAddr 171 (.tmp 5) 0, 0, "l02_files.go:57", #[⟨32, .guard⟩], some (32, false)⟩) (v := ?v79) rfl (by kernel_rfl) (by kernel_rfl) (by kernel_rfl) (fun _ _ _ h => h) (Or.inl ⟨by rfl, ?hy79⟩) (by assumption) ?rest79
                    case hy79 => (intro w hSw; (try dsimp only at hSw); go_simp; try (with_reducible rfl))
                    try simp only [Act.put, List.setIfInBounds_toArray, List.set_cons_zero, List.set_cons_succ]
                    refine wpAnyH_take (i := 36) (oi := ⟨some 64, .load 3 (.tmp 63), 3, "l02_files.go:57", #[⟨35, .data⟩, ⟨32, .guard⟩], some (32, false)⟩) (v := ?v80) rfl (by kernel_rfl) (by kernel_rfl) (by kernel_rfl) (fun _ _ _ h => h) (Or.inl ⟨by rfl, ?hy80⟩) (by assumption) ?rest80
                    case hy80 => (intro w hSw; (try dsimp only at hSw); go_simp; try (with_reducible rfl))
                    try simp only [Act.put, List.setIfInBounds_toArray, List.set_cons_zero, List.set_cons_succ]
                    refine wpAnyH_ready (rs := [37]) (by kernel_rfl) (by simp) ?_
                    refine AllReadyH.cons (o := ⟨some 65, .call { callee := .value (.func 175), args := #[.tmp 62, .tmp 64], argTypes := #[41, 3] }, 4, "l02_files.go:57", #[⟨34, .data⟩, ⟨36, .data⟩, ⟨32, .chain⟩, ⟨32, .guard⟩], some (32, false)⟩) rfl (fun K hK => ?_) AllReadyH.nil
                    go_simp
                    refine Calls.mono (hCa _ hHeld) ?_
                    rintro e w3 ⟨rfl, hw3⟩
                    have hx3 := below_same hw3
                    clear hw3
                    go_wp2_with fail
                    refine hK.out _ _ (bthen hHeld hx3) (fun hHeld => ?_)
                    clear hK K
                    try simp only [Act.put, List.setIfInBounds_toArray, List.set_cons_zero, List.set_cons_succ]
                    refine wpAnyH_take (i := 38) (oi := ⟨some 66, .unOp .not 4 (.tmp 65), 4, "l02_files.go:57", #[⟨37, .data⟩, ⟨32, .guard⟩], some (32, false)⟩) (v := ?v81) rfl (by kernel_rfl) (by kernel_rfl) (by kernel_rfl) (fun _ _ _ h => h) (Or.inl ⟨by rfl, ?hy81⟩) (by assumption) ?rest81
                    case hy81 => (intro w hSw; (try dsimp only at hSw); go_simp; try (with_reducible rfl))
                    try simp only [Act.put, List.setIfInBounds_toArray, List.set_cons_zero, List.set_cons_succ]
                    refine wpAnyH_take (i := 39) (oi := ⟨some 67, .move (.tmp 66), 4, "l02_files.go:57", #[⟨38, .data⟩, ⟨37, .chain⟩, ⟨32, .guard⟩], some (32, false)⟩) (v := ?v82) rfl (by kernel_rfl) (by kernel_rfl) (by kernel_rfl) (fun _ _ _ h => h) (Or.inl ⟨by rfl, ?hy82⟩) (by assumption) ?rest82
                    case hy82 => (intro w hSw; (try dsimp only at hSw); go_simp; try (with_reducible rfl))
                    try simp only [Act.put, List.setIfInBounds_toArray, List.set_cons_zero, List.set_cons_succ]
                    refine wpAnyH_take (i := 40) (oi := ⟨some 68, .fieldAddr 43 (.tmp 1) 2, 0, "l02_files.go:57", #[⟨39, .guard⟩], some (39, true)⟩) (v := ?v83) rfl (by kernel_rfl) (by kernel_rfl) (by kernel_rfl) (fun _ _ _ h => h) (Or.inl ⟨by rfl, ?hy83⟩) (by assumption) ?rest83
                    case hy83 => (intro w hSw; (try dsimp only at hSw); go_simp; try (with_reducible rfl))
                    try simp only [Act.put, List.setIfInBounds_toArray, List.set_cons_zero, List.set_cons_succ]
                    refine wpAnyH_take (i := 41) (oi := ⟨some 69, .load 41 (.tmp 68), 41, "l02_files.go:57", #[⟨40, .data⟩, ⟨39, .guard⟩], some (39, true)⟩) (v := ?v84) rfl (by kernel_rfl) (by kernel_rfl) (by kernel_rfl) (fun _ _ _ h => h) (Or.inl ⟨by rfl, ?hy84⟩) (by assumption) ?rest84
                    case hy84 => (intro w hSw; (try dsimp only at hSw); go_simp; try (with_reducible rfl))
                    try simp only [Act.put, List.setIfInBounds_toArray, List.set_cons_zero, List.set_cons_succ]
                    refine wpAnyH_take (i := 42) (oi := ⟨some 70, .fieldAddr 171 (.tmp 5) 0, 0, "l02_files.go:57", #[⟨39, .guard⟩], some (39, true)⟩) (v := ?v85) rfl (by kernel_rfl) (by kernel_rfl) (by kernel_rfl) (fun _ _ _ h => h) (Or.inl ⟨by rfl, ?hy85⟩) (by assumption) ?rest85
                    case hy85 => (intro w hSw; (try dsimp only at hSw); go_simp; try (with_reducible rfl))
                    try simp only [Act.put, List.setIfInBounds_toArray, List.set_cons_zero, List.set_cons_succ]
                    refine wpAnyH_take (i := 43) (oi := ⟨some 71, .load 3 (.tmp 70), 3, "l02_files.go:57", #[⟨42, .data⟩, ⟨39, .guard⟩], some (39, true)⟩) (v := ?v86) rfl (by kernel_rfl) (by kernel_rfl) (by kernel_rfl) (fun _ _ _ h => h) (Or.inl ⟨by rfl, ?hy86⟩) (by assumption) ?rest86
                    case hy86 => (intro w hSw; (try dsimp only at hSw); go_simp; try (with_reducible rfl))
                    try simp only [Act.put, List.setIfInBounds_toArray, List.set_cons_zero, List.set_cons_succ]
                    refine wpAnyH_ready (rs := [44]) (by kernel_rfl) (by simp) ?_
                    refine AllReadyH.cons (o := ⟨some 72, .call { callee := .value (.func 175), args := #[.tmp 69, .tmp 71], argTypes := #[41, 3] }, 4, "l02_files.go:57", #[⟨41, .data⟩, ⟨43, .data⟩, ⟨39, .chain⟩, ⟨39, .guard⟩], some (39, true)⟩) rfl (fun K hK => ?_) AllReadyH.nil
                    go_simp
                    refine Calls.mono (hCb _ hHeld) ?_
                    rintro e w4 ⟨rfl, hw4⟩
                    have hx4 := below_same hw4
                    clear hw4
                    go_wp2_with fail
                    refine hK.out _ _ (bthen hHeld hx4) (fun hHeld => ?_)
                    clear hK K
                    try simp only [Act.put, List.setIfInBounds_toArray, List.set_cons_zero, List.set_cons_succ]
                    refine wpAnyH_take (i := 45) (oi := ⟨some 73, .unOp .not 4 (.tmp 72), 4, "l02_files.go:57", #[⟨44, .data⟩, ⟨39, .guard⟩], some (39, true)⟩) (v := ?v87) rfl (by kernel_rfl) (by kernel_rfl) (by kernel_rfl) (fun _ _ _ h => h) (Or.inl ⟨by rfl, ?hy87⟩) (by assumption) ?rest87
                    case hy87 => (intro w hSw; (try dsimp only at hSw); go_simp; try (with_reducible rfl))
                    try simp only [Act.put, List.setIfInBounds_toArray, List.set_cons_zero, List.set_cons_succ]
                    refine wpAnyH_take (i := 46) (oi := ⟨some 74, .pick (.tmp 67) (.tmp 73) (.const (.bool false)), 4, "l02_files.go:57", #[⟨39, .data⟩, ⟨45, .data⟩, ⟨32, .guard⟩], some (32, false)⟩) (v := ?v88) rfl (by kernel_rfl) (by kernel_rfl) (by kernel_rfl) (fun _ _ _ h => h) (Or.inl ⟨by rfl, ?hy88⟩) (by assumption) ?rest88
                    case hy88 => (intro w hSw; (try dsimp only at hSw); go_simp; try (with_reducible rfl))
                    try simp only [Act.put, List.setIfInBounds_toArray, List.set_cons_zero, List.set_cons_succ]
                    refine wpAnyH_take (i := 47) (oi := ⟨some 75, .pick (.tmp 60) (.const (.bool true)) (.tmp 74), 4, "l02_files.go:57", #[⟨32, .data⟩, ⟨46, .data⟩], none⟩) (v := ?v89) rfl (by kernel_rfl) (by kernel_rfl) (by kernel_rfl) (fun _ _ _ h => h) (Or.inl ⟨by rfl, ?hy89⟩) (by assumption) ?rest89
                    case hy89 => (intro w hSw; (try dsimp only at hSw); go_simp; try (with_reducible rfl))
                    try simp only [Act.put, List.setIfInBounds_toArray, List.set_cons_zero, List.set_cons_succ]
                    refine wpAnyH_done (by kernel_rfl) ?_ _
                    have r1 := q1 _ hHeld
                    have r0 := p0 _ hHeld
                    go_wp2_with fail
                    go_roundw
                    case rel => exact ⟨k + 1, by omega, by go_num, by rw [HWS.out]; go_num, by rw [HPI.out]; omega, HGo, bthen hbW hHeld, hbx2.under hHeld⟩
                    case measure => simp [intOf]; omega
                  · have hB3 : named m.fSafe n.fId = false := by simpa using hB2
                    simp only [hB3] at hCb
                    have HV : Hid (specOk m = false) := HFAIL.out (by rw [HSI.out, HNI.out]; rw [hA2, hB3]; simp)
                    clear HFAIL HGO HSI HNI hA hA2 hB2 hB3 HSP
                    refine wp_region_held_drew (S := fun W => Below wq.heap.size wq W) (by kernel_rfl) (Below.drew (Below.refl _ _)) (fun hHeld => ?_)
                    refine wpAnyH_take (i := 0) (oi := ⟨some 28, .fieldAddr 171 (.tmp 5) 0, 0, "l02_files.go:57", #[], none⟩) (v := ?v90) rfl (by kernel_rfl) (by kernel_rfl) (by kernel_rfl) (fun _ _ _ h => h) (Or.inl ⟨by rfl, ?hy90⟩) (by assumption) ?rest90
                    case hy90 => (intro w hSw; (try dsimp only at hSw); go_simp; try (with_reducible rfl))
                    try simp only [Act.put, List.setIfInBounds_toArray, List.set_cons_zero, List.set_cons_succ]
                    refine wpAnyH_take (i := 1) (oi := ⟨some 29, .load 3 (.tmp 28), 3, "l02_files.go:57", #[⟨0, .data⟩], none⟩) (v := ?v91) rfl (by kernel_rfl) (by kernel_rfl) (by kernel_rfl) (fun _ _ _ h => h) (Or.inl ⟨by rfl, ?hy91⟩) (by assumption) ?rest91
                    case hy91 => (intro w hSw; (try dsimp only at hSw); go_simp; try (with_reducible rfl))
                    try simp only [Act.put, List.setIfInBounds_toArray, List.set_cons_zero, List.set_cons_succ]
                    refine wpAnyH_take (i := 2) (oi := ⟨some 30, .fieldAddr 43 (.tmp 1) 3, 0, "l02_files.go:57", #[], none⟩) (v := ?v92) rfl (by kernel_rfl) (by kernel_rfl) (by kernel_rfl) (fun _ _ _ h => h) (Or.inl ⟨by rfl, ?hy92⟩) (by assumption) ?rest92
                    case hy92 => (intro w hSw; (try dsimp only at hSw); go_simp; try (with_reducible rfl))
                    try simp only [Act.put, List.setIfInBounds_toArray, List.set_cons_zero, List.set_cons_succ]
                    refine wpAnyH_take (i := 3) (oi := ⟨some 31, .load 3 (.tmp 30), 3, "l02_files.go:57", #[⟨2, .data⟩], none⟩) (v := ?v93) rfl (by kernel_rfl) (by kernel_rfl) (by kernel_rfl) (fun _ _ _ h => h) (Or.inl ⟨by rfl, ?hy93⟩) (by assumption) ?rest93
                    case hy93 => (intro w hSw; (try dsimp only at hSw); go_simp; try (with_reducible rfl))
                    try simp only [Act.put, List.setIfInBounds_toArray, List.set_cons_zero, List.set_cons_succ]
                    refine wpAnyH_take (i := 4) (oi := ⟨some 32, .binOp .sub 3 (.tmp 31) (.const (.int .i64 1)) 3, 3, "l02_files.go:57", #[⟨3, .data⟩], none⟩) (v := ?v94) rfl (by kernel_rfl) (by kernel_rfl) (by kernel_rfl) (fun _ _ _ h => h) (Or.inl ⟨by rfl, ?hy94⟩) (by assumption) ?rest94
                    case hy94 => (intro w hSw; (try dsimp only at hSw); go_simp; try (with_reducible rfl))
                    try simp only [Act.put, List.setIfInBounds_toArray, List.set_cons_zero, List.set_cons_succ]
                    refine wpAnyH_ready (rs := [5]) (by kernel_rfl) (by simp) ?_
                    refine AllReadyH.cons (o := ⟨some 33, .call { callee := .value (.func 103), args := #[.tmp 29, .const (.int .i64 1), .tmp 32], argTypes := #[3, 3, 3] }, 4, "l02_files.go:57", #[⟨1, .data⟩, ⟨4, .data⟩], none⟩) rfl (fun K hK => ?_) AllReadyH.nil
                    go_simp
                    refine Calls.mono (l1In_any _ _ _ _) ?_
                    rintro e w1 ⟨rfl, hw1⟩
                    have hx1 := below_same hw1
                    clear hw1
                    (try simp only [e1, e3])
                    go_wp2_with fail
                    refine hK.out _ _ (bthen hHeld hx1) (fun hHeld => ?_)
                    clear hK K
                    try simp only [Act.put, List.setIfInBounds_toArray, List.set_cons_zero, List.set_cons_succ]
                    refine wpAnyH_take (i := 6) (oi := ⟨some 34, .unOp .not 4 (.tmp 33), 4, "l02_files.go:57", #[⟨5, .data⟩], none⟩) (v := ?v95) rfl (by kernel_rfl) (by kernel_rfl) (by kernel_rfl) (fun _ _ _ h => h) (Or.inl ⟨by rfl, ?hy95⟩) (by assumption) ?rest95
                    case hy95 => (intro w hSw; (try dsimp only at hSw); go_simp; try (with_reducible rfl))
                    try simp only [Act.put, List.setIfInBounds_toArray, List.set_cons_zero, List.set_cons_succ]
                    refine wpAnyH_take (i := 7) (oi := ⟨some 35, .move (.tmp 34), 4, "l02_files.go:57", #[⟨6, .data⟩, ⟨5, .chain⟩], none⟩) (v := ?v96) rfl (by kernel_rfl) (by kernel_rfl) (by kernel_rfl) (fun _ _ _ h => h) (Or.inl ⟨by rfl, ?hy96⟩) (by assumption) ?rest96
                    case hy96 => (intro w hSw; (try dsimp only at hSw); go_simp; try (with_reducible rfl))
                    try simp only [Act.put, List.setIfInBounds_toArray, List.set_cons_zero, List.set_cons_succ]
                    refine wpAnyH_take (i := 8) (oi := ⟨some 36, .move (.tmp 4), 3, "l02_files.go:57", #[⟨7, .guard⟩], some (7, false)⟩) (v := ?v97) rfl (by kernel_rfl) (by kernel_rfl) (by kernel_rfl) (fun _ _ _ h => h) (Or.inl ⟨by rfl, ?hy97⟩) (by assumption) ?rest97
                    case hy97 => (intro w hSw; (try dsimp only at hSw); go_simp; try (with_reducible rfl))
                    try simp only [Act.put, List.setIfInBounds_toArray, List.set_cons_zero, List.set_cons_succ]
                    refine wpAnyH_take (i := 9) (oi := ⟨some 37, .binOp .gtr 3 (.tmp 36) (.const (.int .i64 0)) 3, 4, "l02_files.go:57", #[⟨8, .data⟩, ⟨7, .guard⟩], some (7, false)⟩) (v := ?v98) rfl (by kernel_rfl) (by kernel_rfl) (by kernel_rfl) (fun _ _ _ h => h) (Or.inl ⟨by rfl, ?hy98⟩) (by assumption) ?rest98
                    case hy98 => (intro w hSw; (try dsimp only at hSw); go_simp; try (with_reducible rfl))
                    try simp only [Act.put, List.setIfInBounds_toArray, List.set_cons_zero, List.set_cons_succ]
                    refine wpAnyH_take (i := 10) (oi := ⟨some 38, .move (.tmp 37), 4, "l02_files.go:57", #[⟨9, .data⟩, ⟨7, .chain⟩, ⟨7, .guard⟩], some (7, false)⟩) (v := ?v99) rfl (by kernel_rfl) (by kernel_rfl) (by kernel_rfl) (fun _ _ _ h => h) (Or.inl ⟨by rfl, ?hy99⟩) (by assumption) ?rest99
                    case hy99 => (intro w hSw; (try dsimp only at hSw); go_simp; try (with_reducible rfl))
                    try simp only [Act.put, List.setIfInBounds_toArray, List.set_cons_zero, List.set_cons_succ]
                    refine wpAnyH_take (i := 11) (oi := ⟨some 39, .fieldAddr 43 (.tmp 1) 0, 0, "l02_files.go:57", #[⟨10, .guard⟩], some (10, true)⟩) (v := undef) rfl (by kernel_rfl) (by kernel_rfl) (by kernel_rfl) (fun _ _ _ h => h) (Or.inr ⟨by rfl, rfl⟩) (by assumption) ?rest100
                    try simp only [Act.put, List.setIfInBounds_toArray, List.set_cons_zero, List.set_cons_succ]
                    refine wpAnyH_take (i := 12) (oi := ⟨some 40, .load 40 (.tmp 39), 40, "l02_files.go:57", #[⟨11, .data⟩, ⟨10, .guard⟩], some (10, true)⟩) (v := undef) rfl (by kernel_rfl) (by kernel_rfl) (by kernel_rfl) (fun _ _ _ h => h) (Or.inr ⟨by rfl, rfl⟩) (by assumption) ?rest101
                    try simp only [Act.put, List.setIfInBounds_toArray, List.set_cons_zero, List.set_cons_succ]
                    refine wpAnyH_take (i := 13) (oi := ⟨some 41, .move (.tmp 4), 3, "l02_files.go:57", #[⟨10, .guard⟩], some (10, true)⟩) (v := undef) rfl (by kernel_rfl) (by kernel_rfl) (by kernel_rfl) (fun _ _ _ h => h) (Or.inr ⟨by rfl, rfl⟩) (by assumption) ?rest102
                    try simp only [Act.put, List.setIfInBounds_toArray, List.set_cons_zero, List.set_cons_succ]
                    refine wpAnyH_take (i := 14) (oi := ⟨some 42, .binOp .sub 3 (.tmp 41) (.const (.int .i64 1)) 3, 3, "l02_files.go:57", #[⟨13, .data⟩, ⟨10, .guard⟩], some (10, true)⟩) (v := undef) rfl (by kernel_rfl) (by kernel_rfl) (by kernel_rfl) (fun _ _ _ h => h) (Or.inr ⟨by rfl, rfl⟩) (by assumption) ?rest103
                    try simp only [Act.put, List.setIfInBounds_toArray, List.set_cons_zero, List.set_cons_succ]
                    refine wpAnyH_take (i := 15) (oi := ⟨some 43, .indexAddr 40 (.tmp 40) (.tmp 42), 0, "l02_files.go:57", #[⟨12, .data⟩, ⟨14, .data⟩, ⟨10, .guard⟩], some (10, true)⟩) (v := undef) rfl (by kernel_rfl) (by kernel_rfl) (by kernel_rfl) (fun _ _ _ h => h) (Or.inr ⟨by rfl, rfl⟩) (by assumption) ?rest104
                    try simp only [Act.put, List.setIfInBounds_toArray, List.set_cons_zero, List.set_cons_succ]
                    refine wpAnyH_take (i := 16) (oi := ⟨some 44, .fieldAddr 171 (.tmp 43) 0, 0, "l02_files.go:57", #[⟨15, .data⟩, ⟨10, .guard⟩], some (10, true)⟩) (v := undef) rfl (by kernel_rfl) (by kernel_rfl) (by kernel_rfl) (fun _ _ _ h => h) (Or.inr ⟨by rfl, rfl⟩) (by assumption) ?rest105
                    try simp only [Act.put, List.setIfInBounds_toArray, List.set_cons_zero, List.set_cons_succ]
                    refine wpAnyH_take (i := 17) (oi := ⟨some 45, .load 3 (.tmp 44), 3, "l02_files.go:57", #[⟨16, .data⟩, ⟨10, .guard⟩], some (10, true)⟩) (v := undef) rfl (by kernel_rfl) (by kernel_rfl) (by kernel_rfl) (fun _ _ _ h => h) (Or.inr ⟨by rfl, rfl⟩) (by assumption) ?rest106
                    try simp only [Act.put, List.setIfInBounds_toArray, List.set_cons_zero, List.set_cons_succ]
                    refine wpAnyH_take (i := 18) (oi := ⟨some 46, .fieldAddr 171 (.tmp 5) 0, 0, "l02_files.go:57", #[⟨10, .guard⟩], some (10, true)⟩) (v := undef) rfl (by kernel_rfl) (by kernel_rfl) (by kernel_rfl) (fun _ _ _ h => h) (Or.inr ⟨by rfl, rfl⟩) (by assumption) ?rest107
                    try simp only [Act.put, List.setIfInBounds_toArray, List.set_cons_zero, List.set_cons_succ]
                    refine wpAnyH_take (i := 19) (oi := ⟨some 47, .load 3 (.tmp 46), 3, "l02_files.go:57", #[⟨18, .data⟩, ⟨10, .guard⟩], some (10, true)⟩) (v := undef) rfl (by kernel_rfl) (by kernel_rfl) (by kernel_rfl) (fun _ _ _ h => h) (Or.inr ⟨by rfl, rfl⟩) (by assumption) ?rest108
                    try simp only [Act.put, List.setIfInBounds_toArray, List.set_cons_zero, List.set_cons_succ]
                    refine wpAnyH_take (i := 20) (oi := ⟨some 48, .binOp .geq 3 (.tmp 45) (.tmp 47) 3, 4, "l02_files.go:57", #[⟨17, .data⟩, ⟨19, .data⟩, ⟨10, .guard⟩], some (10, true)⟩) (v := undef) rfl (by kernel_rfl) (by kernel_rfl) (by kernel_rfl) (fun _ _ _ h => h) (Or.inr ⟨by rfl, rfl⟩) (by assumption) ?rest109
                    try simp only [Act.put, List.setIfInBounds_toArray, List.set_cons_zero, List.set_cons_succ]
                    refine wpAnyH_take (i := 21) (oi := ⟨some 49, .pick (.tmp 38) (.tmp 48) (.const (.bool false)), 4, "l02_files.go:57", #[⟨10, .data⟩, ⟨20, .data⟩, ⟨7, .guard⟩], some (7, false)⟩) (v := ?v110) rfl (by kernel_rfl) (by kernel_rfl) (by kernel_rfl) (fun _ _ _ h => h) (Or.inl ⟨by rfl, ?hy110⟩) (by assumption) ?rest110
                    case hy110 => (intro w hSw; (try dsimp only at hSw); go_simp; try (with_reducible rfl))
                    try simp only [Act.put, List.setIfInBounds_toArray, List.set_cons_zero, List.set_cons_succ]
                    refine wpAnyH_take (i := 22) (oi := ⟨some 50, .pick (.tmp 35) (.const (.bool true)) (.tmp 49), 4, "l02_files.go:57", #[⟨7, .data⟩, ⟨21, .data⟩], none⟩) (v := ?v111) rfl (by kernel_rfl) (by kernel_rfl) (by kernel_rfl) (fun _ _ _ h => h) (Or.inl ⟨by rfl, ?hy111⟩) (by assumption) ?rest111
                    case hy111 => (intro w hSw; (try dsimp only at hSw); go_simp; try (with_reducible rfl))
                    try simp only [Act.put, List.setIfInBounds_toArray, List.set_cons_zero, List.set_cons_succ]
                    refine wpAnyH_take (i := 23) (oi := ⟨some 51, .move (.tmp 50), 4, "l02_files.go:57", #[⟨22, .data⟩, ⟨10, .chain⟩], none⟩) (v := ?v112) rfl (by kernel_rfl) (by kernel_rfl) (by kernel_rfl) (fun _ _ _ h => h) (Or.inl ⟨by rfl, ?hy112⟩) (by assumption) ?rest112
                    case hy112 => (intro w hSw; (try dsimp only at hSw); go_simp; try (with_reducible rfl))
                    try simp only [Act.put, List.setIfInBounds_toArray, List.set_cons_zero, List.set_cons_succ]
                    refine wpAnyH_take (i := 24) (oi := ⟨some 52, .fieldAddr 171 (.tmp 5) 2, 0, "l02_files.go:57", #[⟨23, .guard⟩], some (23, false)⟩) (v := ?v113) rfl (by kernel_rfl) (by kernel_rfl) (by kernel_rfl) (fun _ _ _ h => h) (Or.inl ⟨by rfl, ?hy113⟩) (by assumption) ?rest113
                    case hy113 => (intro w hSw; (try dsimp only at hSw); go_simp; try (with_reducible rfl))
                    try simp only [Act.put, List.setIfInBounds_toArray, List.set_cons_zero, List.set_cons_succ]
                    refine wpAnyH_take (i := 25) (oi := ⟨some 53, .load 3 (.tmp 52), 3, "l02_files.go:57", #[⟨24, .data⟩, ⟨23, .guard⟩], some (23, false)⟩) (v := ?v114) rfl (by kernel_rfl) (by kernel_rfl) (by kernel_rfl) (fun _ _ _ h => h) (Or.inl ⟨by rfl, ?hy114⟩) (by assumption) ?rest114
                    case hy114 => (intro w hSw; (try dsimp only at hSw); go_simp; try (with_reducible rfl))
                    try simp only [Act.put, List.setIfInBounds_toArray, List.set_cons_zero, List.set_cons_succ]
                    refine wpAnyH_take (i := 26) (oi := ⟨some 54, .fieldAddr 171 (.tmp 5) 1, 0, "l02_files.go:57", #[⟨23, .guard⟩], some (23, false)⟩) (v := ?v115) rfl (by kernel_rfl) (by kernel_rfl) (by kernel_rfl) (fun _ _ _ h => h) (Or.inl ⟨by rfl, ?hy115⟩) (by assumption) ?rest115
                    case hy115 => (intro w hSw; (try dsimp only at hSw); go_simp; try (with_reducible rfl))
                    try simp only [Act.put, List.setIfInBounds_toArray, List.set_cons_zero, List.set_cons_succ]
                    refine wpAnyH_take (i := 27) (oi := ⟨some 55, .load 22 (.tmp 54), 22, "l02_files.go:57", #[⟨26, .data⟩, ⟨23, .guard⟩], some (23, false)⟩) (v := ?v116) rfl (by kernel_rfl) (by kernel_rfl) (by kernel_rfl) (fun _ _ _ h => h) (Or.inl ⟨by rfl, ?hy116⟩) (by assumption) ?rest116
                    case hy116 => (intro w hSw; (try dsimp only at hSw); go_simp; try (with_reducible rfl))
                    try simp only [Act.put, List.setIfInBounds_toArray, List.set_cons_zero, List.set_cons_succ]
                    refine wpAnyH_take (i := 28) (oi := ⟨some 56, .call { callee := .builtin .len, args := #[.tmp 55], argTypes := #[22] }, 3, "l02_files.go:57", #[⟨27, .data⟩, ⟨23, .guard⟩], some (23, false)⟩) (v := ?v117) rfl (by kernel_rfl) (by kernel_rfl) (by kernel_rfl) (fun _ _ _ h => h) (Or.inl ⟨by rfl, ?hy117⟩) (by assumption) ?rest117
                    case hy117 => (intro w hSw; (try dsimp only at hSw); go_simp; try (with_reducible rfl))
                    try simp only [Act.put, List.setIfInBounds_toArray, List.set_cons_zero, List.set_cons_succ]
                    refine wpAnyH_ready (rs := [29]) (by kernel_rfl) (by simp) ?_
                    refine AllReadyH.cons (o := ⟨some 57, .call { callee := .value (.func 103), args := #[.tmp 53, .const (.int .i64 0), .tmp 56], argTypes := #[3, 3, 3] }, 4, "l02_files.go:57", #[⟨25, .data⟩, ⟨28, .data⟩, ⟨23, .chain⟩, ⟨23, .guard⟩], some (23, false)⟩) rfl (fun K hK => ?_) AllReadyH.nil
                    go_simp
                    refine Calls.mono (l1In_any _ _ _ _) ?_
                    rintro e w2 ⟨rfl, hw2⟩
                    have hx2 := below_same hw2
                    clear hw2
                    (try simp only [e1, e3])
                    go_wp2_with fail
                    refine hK.out _ _ (bthen hHeld hx2) (fun hHeld => ?_)
                    clear hK K
                    try simp only [Act.put, List.setIfInBounds_toArray, List.set_cons_zero, List.set_cons_succ]
                    refine wpAnyH_take (i := 30) (oi := ⟨some 58, .unOp .not 4 (.tmp 57), 4, "l02_files.go:57", #[⟨29, .data⟩, ⟨23, .guard⟩], some (23, false)⟩) (v := ?v118) rfl (by kernel_rfl) (by kernel_rfl) (by kernel_rfl) (fun _ _ _ h => h) (Or.inl ⟨by rfl, ?hy118⟩) (by assumption) ?rest118
                    case hy118 => (intro w hSw; (try dsimp only at hSw); go_simp; try (with_reducible rfl))
                    try simp only [Act.put, List.setIfInBounds_toArray, List.set_cons_zero, List.set_cons_succ]
                    refine wpAnyH_take (i := 31) (oi := ⟨some 59, .pick (.tmp 51) (.const (.bool true)) (.tmp 58), 4, "l02_files.go:57", #[⟨23, .data⟩, ⟨30, .data⟩], none⟩) (v := ?v119) rfl (by kernel_rfl) (by kernel_rfl) (by kernel_rfl) (fun _ _ _ h => h) (Or.inl ⟨by rfl, ?hy119⟩) (by assumption) ?rest119
                    case hy119 => (intro w hSw; (try dsimp only at hSw); go_simp; try (with_reducible rfl))
                    try simp only [Act.put, List.setIfInBounds_toArray, List.set_cons_zero, List.set_cons_succ]
                    refine wpAnyH_take (i := 32) (oi := ⟨some 60, .move (.tmp 59), 4, "l02_files.go:57", #[⟨31, .data⟩, ⟨29, .chain⟩], none⟩) (v := ?v120) rfl (by kernel_rfl) (by kernel_rfl) (by kernel_rfl) (fun _ _ _ h => h) (Or.inl ⟨by rfl, ?hy120⟩) (by assumption) ?rest120
                    case hy120 => (intro w hSw; (try dsimp only at hSw); go_simp; try (with_reducible rfl))
                    try simp only [Act.put, List.setIfInBounds_toArray, List.set_cons_zero, List.set_cons_succ]
                    refine wpAnyH_take (i := 33) (oi := ⟨some 61, .fieldAddr 43 (.tmp 1) 1, 0, "l02_files.go:57", #[⟨32, .guard⟩], some (32, false)⟩) (v := ?v121) rfl (by kernel_rfl) (by kernel_rfl) (by kernel_rfl) (fun _ _ _ h => h) (Or.inl ⟨by rfl, ?hy121⟩) (by assumption) ?rest121
                    case hy121 => (intro w hSw; (try dsimp only at hSw); go_simp; try (with_reducible rfl))
                    try simp only [Act.put, List.setIfInBounds_toArray, List.set_cons_zero, List.set_cons_succ]
                    refine wpAnyH_take (i := 34) (oi := ⟨some 62, .load 41 (.tmp 61), 41, "l02_files.go:57", #[⟨33, .data⟩, ⟨32, .guard⟩], some (32, false)⟩) (v := ?v122) rfl (by kernel_rfl) (by kernel_rfl) (by kernel_rfl) (fun _ _ _ h => h) (Or.inl ⟨by rfl, ?hy122⟩) (by assumption) ?rest122
                    case hy122 => (intro w hSw; (try dsimp only at hSw); go_simp; try (with_reducible rfl))
                    try simp only [Act.put, List.setIfInBounds_toArray, List.set_cons_zero, List.set_cons_succ]
                    refine wpAnyH_take (i := 35) (oi := ⟨some 63, .fieldAddr 171 (.tmp 5) 0, 0, "l02_files.go:57", #[⟨32, .guard⟩], some (32, false)⟩) (v := ?v123) rfl (by kernel_rfl) (by kernel_rfl) (by kernel_rfl) (fun _ _ _ h => h) (Or.inl ⟨by rfl, ?hy123⟩) (by assumption) ?rest123
                    case hy123 => (intro w hSw; (try dsimp only at hSw); go_simp; try (with_reducible rfl))
                    try simp only [Act.put, List.setIfInBounds_toArray, List.set_cons_zero, List.set_cons_succ]
                    refine wpAnyH_take (i := 36) (oi := ⟨some 64, .load 3 (.tmp 63), 3, "l02_files.go:57", #[⟨35, .data⟩, ⟨32, .guard⟩], some (32, false)⟩) (v := ?v124) rfl (by kernel_rfl) (by kernel_rfl) (by kernel_rfl) (fun _ _ _ h => h) (Or.inl ⟨by rfl, ?hy124⟩) (by assumption) ?rest124
                    case hy124 => (intro w hSw; (try dsimp only at hSw); go_simp; try (with_reducible rfl))
                    try simp only [Act.put, List.setIfInBounds_toArray, List.set_cons_zero, List.set_cons_succ]
                    refine wpAnyH_ready (rs := [37]) (by kernel_rfl) (by simp) ?_
                    refine AllReadyH.cons (o := ⟨some 65, .call { callee := .value (.func 175), args := #[.tmp 62, .tmp 64], argTypes := #[41, 3] }, 4, "l02_files.go:57", #[⟨34, .data⟩, ⟨36, .data⟩, ⟨32, .chain⟩, ⟨32, .guard⟩], some (32, false)⟩) rfl (fun K hK => ?_) AllReadyH.nil
                    go_simp
                    refine Calls.mono (hCa _ hHeld) ?_
                    rintro e w3 ⟨rfl, hw3⟩
                    have hx3 := below_same hw3
                    clear hw3
                    go_wp2_with fail
                    refine hK.out _ _ (bthen hHeld hx3) (fun hHeld => ?_)
                    clear hK K
                    try simp only [Act.put, List.setIfInBounds_toArray, List.set_cons_zero, List.set_cons_succ]
                    refine wpAnyH_take (i := 38) (oi := ⟨some 66, .unOp .not 4 (.tmp 65), 4, "l02_files.go:57", #[⟨37, .data⟩, ⟨32, .guard⟩], some (32, false)⟩) (v := ?v125) rfl (by kernel_rfl) (by kernel_rfl) (by kernel_rfl) (fun _ _ _ h => h) (Or.inl ⟨by rfl, ?hy125⟩) (by assumption) ?rest125
                    case hy125 => (intro w hSw; (try dsimp only at hSw); go_simp; try (with_reducible rfl))
                    try simp only [Act.put, List.setIfInBounds_toArray, List.set_cons_zero, List.set_cons_succ]
                    refine wpAnyH_take (i := 39) (oi := ⟨some 67, .move (.tmp 66), 4, "l02_files.go:57", #[⟨38, .data⟩, ⟨37, .chain⟩, ⟨32, .guard⟩], some (32, false)⟩) (v := ?v126) rfl (by kernel_rfl) (by kernel_rfl) (by kernel_rfl) (fun _ _ _ h => h) (Or.inl ⟨by rfl, ?hy126⟩) (by assumption) ?rest126
                    case hy126 => (intro w hSw; (try dsimp only at hSw); go_simp; try (with_reducible rfl))
                    try simp only [Act.put, List.setIfInBounds_toArray, List.set_cons_zero, List.set_cons_succ]
                    refine wpAnyH_take (i := 40) (oi := ⟨some 68, .fieldAddr 43 (.tmp 1) 2, 0, "l02_files.go:57", #[⟨39, .guard⟩], some (39, true)⟩) (v := ?v127) rfl (by kernel_rfl) (by kernel_rfl) (by kernel_rfl) (fun _ _ _ h => h) (Or.inl ⟨by rfl, ?hy127⟩) (by assumption) ?rest127
                    case hy127 => (intro w hSw; (try dsimp only at hSw); go_simp; try (with_reducible rfl))
                    try simp only [Act.put, List.setIfInBounds_toArray, List.set_cons_zero, List.set_cons_succ]
                    refine wpAnyH_take (i := 41) (oi := ⟨some 69, .load 41 (.tmp 68), 41, "l02_files.go:57", #[⟨40, .data⟩, ⟨39, .guard⟩], some (39, true)⟩) (v := ?v128) rfl (by kernel_rfl) (by kernel_rfl) (by kernel_rfl) (fun _ _ _ h => h) (Or.inl ⟨by rfl, ?hy128⟩) (by assumption) ?rest128
                    case hy128 => (intro w hSw; (try dsimp only at hSw); go_simp; try (with_reducible rfl))
                    try simp only [Act.put, List.setIfInBounds_toArray, List.set_cons_zero, List.set_cons_succ]
                    refine wpAnyH_take (i := 42) (oi := ⟨some 70, .fieldAddr 171 (.tmp 5) 0, 0, "l02_files.go:57", #[⟨39, .guard⟩], some (39, true)⟩) (v := ?v129) rfl (by kernel_rfl) (by kernel_rfl) (by kernel_rfl) (fun _ _ _ h => h) (Or.inl ⟨by rfl, ?hy129⟩) (by assumption) ?rest129
                    case hy129 => (intro w hSw; (try dsimp only at hSw); go_simp; try (with_reducible rfl))
                    try simp only [Act.put, List.setIfInBounds_toArray, List.set_cons_zero, List.set_cons_succ]
                    refine wpAnyH_take (i := 43) (oi := ⟨some 71, .load 3 (.tmp 70), 3, "l02_files.go:57", #[⟨42, .data⟩, ⟨39, .guard⟩], some (39, true)⟩) (v := ?v130) rfl (by kernel_rfl) (by kernel_rfl) (by kernel_rfl) (fun _ _ _ h => h) (Or.inl ⟨by rfl, ?hy130⟩) (by assumption) ?rest130
                    case hy130 => (intro w hSw; (try dsimp only at hSw); go_simp; try (with_reducible rfl))
                    try simp only [Act.put, List.setIfInBounds_toArray, List.set_cons_zero, List.set_cons_succ]
                    refine wpAnyH_ready (rs := [44]) (by kernel_rfl) (by simp) ?_
                    refine AllReadyH.cons (o := ⟨some 72, .call { callee := .value (.func 175), args := #[.tmp 69, .tmp 71], argTypes := #[41, 3] }, 4, "l02_files.go:57", #[⟨41, .data⟩, ⟨43, .data⟩, ⟨39, .chain⟩, ⟨39, .guard⟩], some (39, true)⟩) rfl (fun K hK => ?_) AllReadyH.nil
                    go_simp
                    refine Calls.mono (hCb _ hHeld) ?_
                    rintro e w4 ⟨rfl, hw4⟩
                    have hx4 := below_same hw4
                    clear hw4
                    go_wp2_with fail
                    refine hK.out _ _ (bthen hHeld hx4) (fun hHeld => ?_)
                    clear hK K
                    try simp only [Act.put, List.setIfInBounds_toArray, List.set_cons_zero, List.set_cons_succ]
                    refine wpAnyH_take (i := 45) (oi := ⟨some 73, .unOp .not 4 (.tmp 72), 4, "l02_files.go:57", #[⟨44, .data⟩, ⟨39, .guard⟩], some (39, true)⟩) (v := ?v131) rfl (by kernel_rfl) (by kernel_rfl) (by kernel_rfl) (fun _ _ _ h => h) (Or.inl ⟨by rfl, ?hy131⟩) (by assumption) ?rest131
                    case hy131 => (intro w hSw; (try dsimp only at hSw); go_simp; try (with_reducible rfl))
                    try simp only [Act.put, List.setIfInBounds_toArray, List.set_cons_zero, List.set_cons_succ]
                    refine wpAnyH_take (i := 46) (oi := ⟨some 74, .pick (.tmp 67) (.tmp 73) (.const (.bool false)), 4, "l02_files.go:57", #[⟨39, .data⟩, ⟨45, .data⟩, ⟨32, .guard⟩], some (32, false)⟩) (v := ?v132) rfl (by kernel_rfl) (by kernel_rfl) (by kernel_rfl) (fun _ _ _ h => h) (Or.inl ⟨by rfl, ?hy132⟩) (by assumption) ?rest132
                    case hy132 => (intro w hSw; (try dsimp only at hSw); go_simp; try (with_reducible rfl))
                    try simp only [Act.put, List.setIfInBounds_toArray, List.set_cons_zero, List.set_cons_succ]
                    refine wpAnyH_take (i := 47) (oi := ⟨some 75, .pick (.tmp 60) (.const (.bool true)) (.tmp 74), 4, "l02_files.go:57", #[⟨32, .data⟩, ⟨46, .data⟩], none⟩) (v := ?v133) rfl (by kernel_rfl) (by kernel_rfl) (by kernel_rfl) (fun _ _ _ h => h) (Or.inl ⟨by rfl, ?hy133⟩) (by assumption) ?rest133
                    case hy133 => (intro w hSw; (try dsimp only at hSw); go_simp; try (with_reducible rfl))
                    try simp only [Act.put, List.setIfInBounds_toArray, List.set_cons_zero, List.set_cons_succ]
                    refine wpAnyH_done (by kernel_rfl) ?_ _
                    go_wp2_with fail
                    go_ret
                    exact ⟨by rw [HV.out]; rfl, bthen hbW hHeld⟩
              · have e3 : inRange n.fSure 0 n.fData.length = false := inRange_no hSu
                have HV : Hid (specOk m = false) := HFAIL.out (by rw [HSI.out, HNI.out]; rw [decide_eq_false (by omega)]; rfl)
                clear HFAIL HGO HSI HNI hSu HSP
                refine wp_region_held_drew (S := fun W => Below wq.heap.size wq W) (by kernel_rfl) (Below.drew (Below.refl _ _)) (fun hHeld => ?_)
                refine wpAnyH_take (i := 0) (oi := ⟨some 28, .fieldAddr 171 (.tmp 5) 0, 0, "l02_files.go:57", #[], none⟩) (v := ?v134) rfl (by kernel_rfl) (by kernel_rfl) (by kernel_rfl) (fun _ _ _ h => h) (Or.inl ⟨by rfl, ?hy134⟩) (by assumption) ?rest134
                case hy134 => (intro w hSw; (try dsimp only at hSw); go_simp; try (with_reducible rfl))
                try simp only [Act.put, List.setIfInBounds_toArray, List.set_cons_zero, List.set_cons_succ]
                refine wpAnyH_take (i := 1) (oi := ⟨some 29, .load 3 (.tmp 28), 3, "l02_files.go:57", #[⟨0, .data⟩], none⟩) (v := ?v135) rfl (by kernel_rfl) (by kernel_rfl) (by kernel_rfl) (fun _ _ _ h => h) (Or.inl ⟨by rfl, ?hy135⟩) (by assumption) ?rest135
                case hy135 => (intro w hSw; (try dsimp only at hSw); go_simp; try (with_reducible rfl))
                try simp only [Act.put, List.setIfInBounds_toArray, List.set_cons_zero, List.set_cons_succ]
                refine wpAnyH_take (i := 2) (oi := ⟨some 30, .fieldAddr 43 (.tmp 1) 3, 0, "l02_files.go:57", #[], none⟩) (v := ?v136) rfl (by kernel_rfl) (by kernel_rfl) (by kernel_rfl) (fun _ _ _ h => h) (Or.inl ⟨by rfl, ?hy136⟩) (by assumption) ?rest136
                case hy136 => (intro w hSw; (try dsimp only at hSw); go_simp; try (with_reducible rfl))
                try simp only [Act.put, List.setIfInBounds_toArray, List.set_cons_zero, List.set_cons_succ]
                refine wpAnyH_take (i := 3) (oi := ⟨some 31, .load 3 (.tmp 30), 3, "l02_files.go:57", #[⟨2, .data⟩], none⟩) (v := ?v137) rfl (by kernel_rfl) (by kernel_rfl) (by kernel_rfl) (fun _ _ _ h => h) (Or.inl ⟨by rfl, ?hy137⟩) (by assumption) ?rest137
                case hy137 => (intro w hSw; (try dsimp only at hSw); go_simp; try (with_reducible rfl))
                try simp only [Act.put, List.setIfInBounds_toArray, List.set_cons_zero, List.set_cons_succ]
                refine wpAnyH_take (i := 4) (oi := ⟨some 32, .binOp .sub 3 (.tmp 31) (.const (.int .i64 1)) 3, 3, "l02_files.go:57", #[⟨3, .data⟩], none⟩) (v := ?v138) rfl (by kernel_rfl) (by kernel_rfl) (by kernel_rfl) (fun _ _ _ h => h) (Or.inl ⟨by rfl, ?hy138⟩) (by assumption) ?rest138
                case hy138 => (intro w hSw; (try dsimp only at hSw); go_simp; try (with_reducible rfl))
                try simp only [Act.put, List.setIfInBounds_toArray, List.set_cons_zero, List.set_cons_succ]
                refine wpAnyH_ready (rs := [5]) (by kernel_rfl) (by simp) ?_
                refine AllReadyH.cons (o := ⟨some 33, .call { callee := .value (.func 103), args := #[.tmp 29, .const (.int .i64 1), .tmp 32], argTypes := #[3, 3, 3] }, 4, "l02_files.go:57", #[⟨1, .data⟩, ⟨4, .data⟩], none⟩) rfl (fun K hK => ?_) AllReadyH.nil
                go_simp
                refine Calls.mono (l1In_any _ _ _ _) ?_
                rintro e w1 ⟨rfl, hw1⟩
                have hx1 := below_same hw1
                clear hw1
                (try simp only [e1, e3])
                go_wp2_with fail
                refine hK.out _ _ (bthen hHeld hx1) (fun hHeld => ?_)
                clear hK K
                try simp only [Act.put, List.setIfInBounds_toArray, List.set_cons_zero, List.set_cons_succ]
                refine wpAnyH_take (i := 6) (oi := ⟨some 34, .unOp .not 4 (.tmp 33), 4, "l02_files.go:57", #[⟨5, .data⟩], none⟩) (v := ?v139) rfl (by kernel_rfl) (by kernel_rfl) (by kernel_rfl) (fun _ _ _ h => h) (Or.inl ⟨by rfl, ?hy139⟩) (by assumption) ?rest139
                case hy139 => (intro w hSw; (try dsimp only at hSw); go_simp; try (with_reducible rfl))
                try simp only [Act.put, List.setIfInBounds_toArray, List.set_cons_zero, List.set_cons_succ]
                refine wpAnyH_take (i := 7) (oi := ⟨some 35, .move (.tmp 34), 4, "l02_files.go:57", #[⟨6, .data⟩, ⟨5, .chain⟩], none⟩) (v := ?v140) rfl (by kernel_rfl) (by kernel_rfl) (by kernel_rfl) (fun _ _ _ h => h) (Or.inl ⟨by rfl, ?hy140⟩) (by assumption) ?rest140
                case hy140 => (intro w hSw; (try dsimp only at hSw); go_simp; try (with_reducible rfl))
                try simp only [Act.put, List.setIfInBounds_toArray, List.set_cons_zero, List.set_cons_succ]
                refine wpAnyH_take (i := 8) (oi := ⟨some 36, .move (.tmp 4), 3, "l02_files.go:57", #[⟨7, .guard⟩], some (7, false)⟩) (v := ?v141) rfl (by kernel_rfl) (by kernel_rfl) (by kernel_rfl) (fun _ _ _ h => h) (Or.inl ⟨by rfl, ?hy141⟩) (by assumption) ?rest141
                case hy141 => (intro w hSw; (try dsimp only at hSw); go_simp; try (with_reducible rfl))
                try simp only [Act.put, List.setIfInBounds_toArray, List.set_cons_zero, List.set_cons_succ]
                refine wpAnyH_take (i := 9) (oi := ⟨some 37, .binOp .gtr 3 (.tmp 36) (.const (.int .i64 0)) 3, 4, "l02_files.go:57", #[⟨8, .data⟩, ⟨7, .guard⟩], some (7, false)⟩) (v := ?v142) rfl (by kernel_rfl) (by kernel_rfl) (by kernel_rfl) (fun _ _ _ h => h) (Or.inl ⟨by rfl, ?hy142⟩) (by assumption) ?rest142
                case hy142 => (intro w hSw; (try dsimp only at hSw); go_simp; try (with_reducible rfl))
                try simp only [Act.put, List.setIfInBounds_toArray, List.set_cons_zero, List.set_cons_succ]
                refine wpAnyH_take (i := 10) (oi := ⟨some 38, .move (.tmp 37), 4, "l02_files.go:57", #[⟨9, .data⟩, ⟨7, .chain⟩, ⟨7, .guard⟩], some (7, false)⟩) (v := ?v143) rfl (by kernel_rfl) (by kernel_rfl) (by kernel_rfl) (fun _ _ _ h => h) (Or.inl ⟨by rfl, ?hy143⟩) (by assumption) ?rest143
                case hy143 => (intro w hSw; (try dsimp only at hSw); go_simp; try (with_reducible rfl))
                try simp only [Act.put, List.setIfInBounds_toArray, List.set_cons_zero, List.set_cons_succ]
                refine wpAnyH_take (i := 11) (oi := ⟨some 39, .fieldAddr 43 (.tmp 1) 0, 0, "l02_files.go:57", #[⟨10, .guard⟩], some (10, true)⟩) (v := undef) rfl (by kernel_rfl) (by kernel_rfl) (by kernel_rfl) (fun _ _ _ h => h) (Or.inr ⟨by rfl, rfl⟩) (by assumption) ?rest144
                try simp only [Act.put, List.setIfInBounds_toArray, List.set_cons_zero, List.set_cons_succ]
                refine wpAnyH_take (i := 12) (oi := ⟨some 40, .load 40 (.tmp 39), 40, "l02_files.go:57", #[⟨11, .data⟩, ⟨10, .guard⟩], some (10, true)⟩) (v := undef) rfl (by kernel_rfl) (by kernel_rfl) (by kernel_rfl) (fun _ _ _ h => h) (Or.inr ⟨by rfl, rfl⟩) (by assumption) ?rest145
                try simp only [Act.put, List.setIfInBounds_toArray, List.set_cons_zero, List.set_cons_succ]
                refine wpAnyH_take (i := 13) (oi := ⟨some 41, .move (.tmp 4), 3, "l02_files.go:57", #[⟨10, .guard⟩], some (10, true)⟩) (v := undef) rfl (by kernel_rfl) (by kernel_rfl) (by kernel_rfl) (fun _ _ _ h => h) (Or.inr ⟨by rfl, rfl⟩) (by assumption) ?rest146
                try simp only [Act.put, List.setIfInBounds_toArray, List.set_cons_zero, List.set_cons_succ]
                refine wpAnyH_take (i := 14) (oi := ⟨some 42, .binOp .sub 3 (.tmp 41) (.const (.int .i64 1)) 3, 3, "l02_files.go:57", #[⟨13, .data⟩, ⟨10, .guard⟩], some (10, true)⟩) (v := undef) rfl (by kernel_rfl) (by kernel_rfl) (by kernel_rfl) (fun _ _ _ h => h) (Or.inr ⟨by rfl, rfl⟩) (by assumption) ?rest147
                try simp only [Act.put, List.setIfInBounds_toArray, List.set_cons_zero, List.set_cons_succ]
                refine wpAnyH_take (i := 15) (oi := ⟨some 43, .indexAddr 40 (.tmp 40) (.tmp 42), 0, "l02_files.go:57", #[⟨12, .data⟩, ⟨14, .data⟩, ⟨10, .guard⟩], some (10, true)⟩) (v := undef) rfl (by kernel_rfl) (by kernel_rfl) (by kernel_rfl) (fun _ _ _ h => h) (Or.inr ⟨by rfl, rfl⟩) (by assumption) ?rest148
                try simp only [Act.put, List.setIfInBounds_toArray, List.set_cons_zero, List.set_cons_succ]
                refine wpAnyH_take (i := 16) (oi := ⟨some 44, .fieldAddr 171 (.tmp 43) 0, 0, "l02_files.go:57", #[⟨15, .data⟩, ⟨10, .guard⟩], some (10, true)⟩) (v := undef) rfl (by kernel_rfl) (by kernel_rfl) (by kernel_rfl) (fun _ _ _ h => h) (Or.inr ⟨by rfl, rfl⟩) (by assumption) ?rest149
                try simp only [Act.put, List.setIfInBounds_toArray, List.set_cons_zero, List.set_cons_succ]
                refine wpAnyH_take (i := 17) (oi := ⟨some 45, .load 3 (.tmp 44), 3, "l02_files.go:57", #[⟨16, .data⟩, ⟨10, .guard⟩], some (10, true)⟩) (v := undef) rfl (by kernel_rfl) (by kernel_rfl) (by kernel_rfl) (fun _ _ _ h => h) (Or.inr ⟨by rfl, rfl⟩) (by assumption) ?rest150
                try simp only [Act.put, List.setIfInBounds_toArray, List.set_cons_zero, List.set_cons_succ]
                refine wpAnyH_take (i := 18) (oi := ⟨some 46, .fieldAddr 171 (.tmp 5) 0, 0, "l02_files.go:57", #[⟨10, .guard⟩], some (10, true)⟩) (v := undef) rfl (by kernel_rfl) (by kernel_rfl) (by kernel_rfl) (fun _ _ _ h => h) (Or.inr ⟨by rfl, rfl⟩) (by assumption) ?rest151
                try simp only [Act.put, List.setIfInBounds_toArray, List.set_cons_zero, List.set_cons_succ]
                refine wpAnyH_take (i := 19) (oi := ⟨some 47, .load 3 (.tmp 46), 3, "l02_files.go:57", #[⟨18, .data⟩, ⟨10, .guard⟩], some (10, true)⟩) (v := undef) rfl (by kernel_rfl) (by kernel_rfl) (by kernel_rfl) (fun _ _ _ h => h) (Or.inr ⟨by rfl, rfl⟩) (by assumption) ?rest152
                try simp only [Act.put, List.setIfInBounds_toArray, List.set_cons_zero, List.set_cons_succ]
                refine wpAnyH_take (i := 20) (oi := ⟨some 48, .binOp .geq 3 (.tmp 45) (.tmp 47) 3, 4, "l02_files.go:57", #[⟨17, .data⟩, ⟨19, .data⟩, ⟨10, .guard⟩], some (10, true)⟩) (v := undef) rfl (by kernel_rfl) (by kernel_rfl) (by kernel_rfl) (fun _ _ _ h => h) (Or.inr ⟨by rfl, rfl⟩) (by assumption) ?rest153
                try simp only [Act.put, List.setIfInBounds_toArray, List.set_cons_zero, List.set_cons_succ]
                refine wpAnyH_take (i := 21) (oi := ⟨some 49, .pick (.tmp 38) (.tmp 48) (.const (.bool false)), 4, "l02_files.go:57", #[⟨10, .data⟩, ⟨20, .data⟩, ⟨7, .guard⟩], some (7, false)⟩) (v := ?v154) rfl (by kernel_rfl) (by kernel_rfl) (by kernel_rfl) (fun _ _ _ h => h) (Or.inl ⟨by rfl, ?hy154⟩) (by assumption) ?rest154
                case hy154 => (intro w hSw; (try dsimp only at hSw); go_simp; try (with_reducible rfl))
                try simp only [Act.put, List.setIfInBounds_toArray, List.set_cons_zero, List.set_cons_succ]
                refine wpAnyH_take (i := 22) (oi := ⟨some 50, .pick (.tmp 35) (.const (.bool true)) (.tmp 49), 4, "l02_files.go:57", #[⟨7, .data⟩, ⟨21, .data⟩], none⟩) (v := ?v155) rfl (by kernel_rfl) (by kernel_rfl) (by kernel_rfl) (fun _ _ _ h => h) (Or.inl ⟨by rfl, ?hy155⟩) (by assumption) ?rest155
                case hy155 => (intro w hSw; (try dsimp only at hSw); go_simp; try (with_reducible rfl))
                try simp only [Act.put, List.setIfInBounds_toArray, List.set_cons_zero, List.set_cons_succ]
                refine wpAnyH_take (i := 23) (oi := ⟨some 51, .move (.tmp 50), 4, "l02_files.go:57", #[⟨22, .data⟩, ⟨10, .chain⟩], none⟩) (v := ?v156) rfl (by kernel_rfl) (by kernel_rfl) (by kernel_rfl) (fun _ _ _ h => h) (Or.inl ⟨by rfl, ?hy156⟩) (by assumption) ?rest156
                case hy156 => (intro w hSw; (try dsimp only at hSw); go_simp; try (with_reducible rfl))
                try simp only [Act.put, List.setIfInBounds_toArray, List.set_cons_zero, List.set_cons_succ]
                refine wpAnyH_take (i := 24) (oi := ⟨some 52, .fieldAddr 171 (.tmp 5) 2, 0, "l02_files.go:57", #[⟨23, .guard⟩], some (23, false)⟩) (v := ?v157) rfl (by kernel_rfl) (by kernel_rfl) (by kernel_rfl) (fun _ _ _ h => h) (Or.inl ⟨by rfl, ?hy157⟩) (by assumption) ?rest157
                case hy157 => (intro w hSw; (try dsimp only at hSw); go_simp; try (with_reducible rfl))
                try simp only [Act.put, List.setIfInBounds_toArray, List.set_cons_zero, List.set_cons_succ]
                refine wpAnyH_take (i := 25) (oi := ⟨some 53, .load 3 (.tmp 52), 3, "l02_files.go:57", #[⟨24, .data⟩, ⟨23, .guard⟩], some (23, false)⟩) (v := ?v158) rfl (by kernel_rfl) (by kernel_rfl) (by kernel_rfl) (fun _ _ _ h => h) (Or.inl ⟨by rfl, ?hy158⟩) (by assumption) ?rest158
                case hy158 => (intro w hSw; (try dsimp only at hSw); go_simp; try (with_reducible rfl))
                try simp only [Act.put, List.setIfInBounds_toArray, List.set_cons_zero, List.set_cons_succ]
                refine wpAnyH_take (i := 26) (oi := ⟨some 54, .fieldAddr 171 (.tmp 5) 1, 0, "l02_files.go:57", #[⟨23, .guard⟩], some (23, false)⟩) (v := ?v159) rfl (by kernel_rfl) (by kernel_rfl) (by kernel_rfl) (fun _ _ _ h => h) (Or.inl ⟨by rfl, ?hy159⟩) (by assumption) ?rest159
                case hy159 => (intro w hSw; (try dsimp only at hSw); go_simp; try (with_reducible rfl))
                try simp only [Act.put, List.setIfInBounds_toArray, List.set_cons_zero, List.set_cons_succ]
                refine wpAnyH_take (i := 27) (oi := ⟨some 55, .load 22 (.tmp 54), 22, "l02_files.go:57", #[⟨26, .data⟩, ⟨23, .guard⟩], some (23, false)⟩) (v := ?v160) rfl (by kernel_rfl) (by kernel_rfl) (by kernel_rfl) (fun _ _ _ h => h) (Or.inl ⟨by rfl, ?hy160⟩) (by assumption) ?rest160
                case hy160 => (intro w hSw; (try dsimp only at hSw); go_simp; try (with_reducible rfl))
                try simp only [Act.put, List.setIfInBounds_toArray, List.set_cons_zero, List.set_cons_succ]
                refine wpAnyH_take (i := 28) (oi := ⟨some 56, .call { callee := .builtin .len, args := #[.tmp 55], argTypes := #[22] }, 3, "l02_files.go:57", #[⟨27, .data⟩, ⟨23, .guard⟩], some (23, false)⟩) (v := ?v161) rfl (by kernel_rfl) (by kernel_rfl) (by kernel_rfl) (fun _ _ _ h => h) (Or.inl ⟨by rfl, ?hy161⟩) (by assumption) ?rest161
                case hy161 => (intro w hSw; (try dsimp only at hSw); go_simp; try (with_reducible rfl))
                try simp only [Act.put, List.setIfInBounds_toArray, List.set_cons_zero, List.set_cons_succ]
                refine wpAnyH_ready (rs := [29]) (by kernel_rfl) (by simp) ?_
                refine AllReadyH.cons (o := ⟨some 57, .call { callee := .value (.func 103), args := #[.tmp 53, .const (.int .i64 0), .tmp 56], argTypes := #[3, 3, 3] }, 4, "l02_files.go:57", #[⟨25, .data⟩, ⟨28, .data⟩, ⟨23, .chain⟩, ⟨23, .guard⟩], some (23, false)⟩) rfl (fun K hK => ?_) AllReadyH.nil
                go_simp
                refine Calls.mono (l1In_any _ _ _ _) ?_
                rintro e w2 ⟨rfl, hw2⟩
                have hx2 := below_same hw2
                clear hw2
                (try simp only [e1, e3])
                go_wp2_with fail
                refine hK.out _ _ (bthen hHeld hx2) (fun hHeld => ?_)
                clear hK K
                try simp only [Act.put, List.setIfInBounds_toArray, List.set_cons_zero, List.set_cons_succ]
                refine wpAnyH_take (i := 30) (oi := ⟨some 58, .unOp .not 4 (.tmp 57), 4, "l02_files.go:57", #[⟨29, .data⟩, ⟨23, .guard⟩], some (23, false)⟩) (v := ?v162) rfl (by kernel_rfl) (by kernel_rfl) (by kernel_rfl) (fun _ _ _ h => h) (Or.inl ⟨by rfl, ?hy162⟩) (by assumption) ?rest162
                case hy162 => (intro w hSw; (try dsimp only at hSw); go_simp; try (with_reducible rfl))
                try simp only [Act.put, List.setIfInBounds_toArray, List.set_cons_zero, List.set_cons_succ]
                refine wpAnyH_take (i := 31) (oi := ⟨some 59, .pick (.tmp 51) (.const (.bool true)) (.tmp 58), 4, "l02_files.go:57", #[⟨23, .data⟩, ⟨30, .data⟩], none⟩) (v := ?v163) rfl (by kernel_rfl) (by kernel_rfl) (by kernel_rfl) (fun _ _ _ h => h) (Or.inl ⟨by rfl, ?hy163⟩) (by assumption) ?rest163
                case hy163 => (intro w hSw; (try dsimp only at hSw); go_simp; try (with_reducible rfl))
                try simp only [Act.put, List.setIfInBounds_toArray, List.set_cons_zero, List.set_cons_succ]
                refine wpAnyH_take (i := 32) (oi := ⟨some 60, .move (.tmp 59), 4, "l02_files.go:57", #[⟨31, .data⟩, ⟨29, .chain⟩], none⟩) (v := ?v164) rfl (by kernel_rfl) (by kernel_rfl) (by kernel_rfl) (fun _ _ _ h => h) (Or.inl ⟨by rfl, ?hy164⟩) (by assumption) ?rest164
                case hy164 => (intro w hSw; (try dsimp only at hSw); go_simp; try (with_reducible rfl))
                try simp only [Act.put, List.setIfInBounds_toArray, List.set_cons_zero, List.set_cons_succ]
                refine wpAnyH_take (i := 33) (oi := ⟨some 61, .fieldAddr 43 (.tmp 1) 1, 0, "l02_files.go:57", #[⟨32, .guard⟩], some (32, false)⟩) (v := undef) rfl (by kernel_rfl) (by kernel_rfl) (by kernel_rfl) (fun _ _ _ h => h) (Or.inr ⟨by rfl, rfl⟩) (by assumption) ?rest165
                try simp only [Act.put, List.setIfInBounds_toArray, List.set_cons_zero, List.set_cons_succ]
                refine wpAnyH_take (i := 34) (oi := ⟨some 62, .load 41 (.tmp 61), 41, "l02_files.go:57", #[⟨33, .data⟩, ⟨32, .guard⟩], some (32, false)⟩) (v := undef) rfl (by kernel_rfl) (by kernel_rfl) (by kernel_rfl) (fun _ _ _ h => h) (Or.inr ⟨by rfl, rfl⟩) (by assumption) ?rest166
                try simp only [Act.put, List.setIfInBounds_toArray, List.set_cons_zero, List.set_cons_succ]
                refine wpAnyH_take (i := 35) (oi := ⟨some 63, .fieldAddr 171 (.tmp 5) 0, 0, "l02_files.go:57", #[⟨32, .guard⟩], some (32, false)⟩) (v := undef) rfl (by kernel_rfl) (by kernel_rfl) (by kernel_rfl) (fun _ _ _ h => h) (Or.inr ⟨by rfl, rfl⟩) (by assumption) ?rest167
                try simp only [Act.put, List.setIfInBounds_toArray, List.set_cons_zero, List.set_cons_succ]
                refine wpAnyH_take (i := 36) (oi := ⟨some 64, .load 3 (.tmp 63), 3, "l02_files.go:57", #[⟨35, .data⟩, ⟨32, .guard⟩], some (32, false)⟩) (v := undef) rfl (by kernel_rfl) (by kernel_rfl) (by kernel_rfl) (fun _ _ _ h => h) (Or.inr ⟨by rfl, rfl⟩) (by assumption) ?rest168
                try simp only [Act.put, List.setIfInBounds_toArray, List.set_cons_zero, List.set_cons_succ]
                refine wpAnyH_take (i := 37) (oi := ⟨some 65, .call { callee := .value (.func 175), args := #[.tmp 62, .tmp 64], argTypes := #[41, 3] }, 4, "l02_files.go:57", #[⟨34, .data⟩, ⟨36, .data⟩, ⟨32, .chain⟩, ⟨32, .guard⟩], some (32, false)⟩) (v := undef) rfl (by kernel_rfl) (by kernel_rfl) (by kernel_rfl) (fun _ _ _ h => h) (Or.inr ⟨by rfl, rfl⟩) (by assumption) ?rest169
                try simp only [Act.put, List.setIfInBounds_toArray, List.set_cons_zero, List.set_cons_succ]
                refine wpAnyH_take (i := 38) (oi := ⟨some 66, .unOp .not 4 (.tmp 65), 4, "l02_files.go:57", #[⟨37, .data⟩, ⟨32, .guard⟩], some (32, false)⟩) (v := undef) rfl (by kernel_rfl) (by kernel_rfl) (by kernel_rfl) (fun _ _ _ h => h) (Or.inr ⟨by rfl, rfl⟩) (by assumption) ?rest170
                try simp only [Act.put, List.setIfInBounds_toArray, List.set_cons_zero, List.set_cons_succ]
                refine wpAnyH_take (i := 39) (oi := ⟨some 67, .move (.tmp 66), 4, "l02_files.go:57", #[⟨38, .data⟩, ⟨37, .chain⟩, ⟨32, .guard⟩], some (32, false)⟩) (v := undef) rfl (by kernel_rfl) (by kernel_rfl) (by kernel_rfl) (fun _ _ _ h => h) (Or.inr ⟨by rfl, rfl⟩) (by assumption) ?rest171
                try simp only [Act.put, List.setIfInBounds_toArray, List.set_cons_zero, List.set_cons_succ]
                refine wpAnyH_take (i := 40) (oi := ⟨some 68, .fieldAddr 43 (.tmp 1) 2, 0, "l02_files.go:57", #[⟨39, .guard⟩], some (39, true)⟩) (v := undef) rfl (by kernel_rfl) (by kernel_rfl) (by kernel_rfl) (fun _ _ _ h => h) (Or.inr ⟨by rfl, rfl⟩) (by assumption) ?rest172
                try simp only [Act.put, List.setIfInBounds_toArray, List.set_cons_zero, List.set_cons_succ]
                refine wpAnyH_take (i := 41) (oi := ⟨some 69, .load 41 (.tmp 68), 41, "l02_files.go:57", #[⟨40, .data⟩, ⟨39, .guard⟩], some (39, true)⟩) (v := undef) rfl (by kernel_rfl) (by kernel_rfl) (by kernel_rfl) (fun _ _ _ h => h) (Or.inr ⟨by rfl, rfl⟩) (by assumption) ?rest173
                try simp only [Act.put, List.setIfInBounds_toArray, List.set_cons_zero, List.set_cons_succ]
                refine wpAnyH_take (i := 42) (oi := ⟨some 70, .fieldAddr 171 (.tmp 5) 0, 0, "l02_files.go:57", #[⟨39, .guard⟩], some (39, true)⟩) (v := undef) rfl (by kernel_rfl) (by kernel_rfl) (by kernel_rfl) (fun _ _ _ h => h) (Or.inr ⟨by rfl, rfl⟩) (by assumption) ?rest174
                try simp only [Act.put, List.setIfInBounds_toArray, List.set_cons_zero, List.set_cons_succ]
                refine wpAnyH_take (i := 43) (oi := ⟨some 71, .load 3 (.tmp 70), 3, "l02_files.go:57", #[⟨42, .data⟩, ⟨39, .guard⟩], some (39, true)⟩) (v := undef) rfl (by kernel_rfl) (by kernel_rfl) (by kernel_rfl) (fun _ _ _ h => h) (Or.inr ⟨by rfl, rfl⟩) (by assumption) ?rest175
                try simp only [Act.put, List.setIfInBounds_toArray, List.set_cons_zero, List.set_cons_succ]
                refine wpAnyH_take (i := 44) (oi := ⟨some 72, .call { callee := .value (.func 175), args := #[.tmp 69, .tmp 71], argTypes := #[41, 3] }, 4, "l02_files.go:57", #[⟨41, .data⟩, ⟨43, .data⟩, ⟨39, .chain⟩, ⟨39, .guard⟩], some (39, true)⟩) (v := undef) rfl (by kernel_rfl) (by kernel_rfl) (by kernel_rfl) (fun _ _ _ h => h) (Or.inr ⟨by rfl, rfl⟩) (by assumption) ?rest176
                try simp only [Act.put, List.setIfInBounds_toArray, List.set_cons_zero, List.set_cons_succ]
                refine wpAnyH_take (i := 45) (oi := ⟨some 73, .unOp .not 4 (.tmp 72), 4, "l02_files.go:57", #[⟨44, .data⟩, ⟨39, .guard⟩], some (39, true)⟩) (v := undef) rfl (by kernel_rfl) (by kernel_rfl) (by kernel_rfl) (fun _ _ _ h => h) (Or.inr ⟨by rfl, rfl⟩) (by assumption) ?rest177
                try simp only [Act.put, List.setIfInBounds_toArray, List.set_cons_zero, List.set_cons_succ]
                refine wpAnyH_take (i := 46) (oi := ⟨some 74, .pick (.tmp 67) (.tmp 73) (.const (.bool false)), 4, "l02_files.go:57", #[⟨39, .data⟩, ⟨45, .data⟩, ⟨32, .guard⟩], some (32, false)⟩) (v := undef) rfl (by kernel_rfl) (by kernel_rfl) (by kernel_rfl) (fun _ _ _ h => h) (Or.inr ⟨by rfl, rfl⟩) (by assumption) ?rest178
                try simp only [Act.put, List.setIfInBounds_toArray, List.set_cons_zero, List.set_cons_succ]
                refine wpAnyH_take (i := 47) (oi := ⟨some 75, .pick (.tmp 60) (.const (.bool true)) (.tmp 74), 4, "l02_files.go:57", #[⟨32, .data⟩, ⟨46, .data⟩], none⟩) (v := ?v179) rfl (by kernel_rfl) (by kernel_rfl) (by kernel_rfl) (fun _ _ _ h => h) (Or.inl ⟨by rfl, ?hy179⟩) (by assumption) ?rest179
                case hy179 => (intro w hSw; (try dsimp only at hSw); go_simp; try (with_reducible rfl))
                try simp only [Act.put, List.setIfInBounds_toArray, List.set_cons_zero, List.set_cons_succ]
                refine wpAnyH_done (by kernel_rfl) ?_ _
                go_wp2_with fail
                go_ret
                exact ⟨by rw [HV.out]; rfl, bthen hbW hHeld⟩
            · obtain ⟨j, rfl⟩ : ∃ j, k = j + 1 := ⟨k - 1, by omega⟩
              have hjl : j < m.fInodes.length := by omega
              have kp := HPR.out j rfl hjl
              have qp : ∀ W, Below wq.heap.size wq W → W.cell? ⟨b1, o1 + j * 3, none⟩ = some (.int .i64 pv) := fun W hb => ((bthen hbq hb).cell (p := ⟨b1, o1 + j * 3, none⟩) hy1).trans kp
              have hz3 : (0 : Int) < (j : Int) + 1 := by omega
              have hz4 : (j : Int) < (m.fInodes.length : Int) := by omega
              have hz5 : (0 : Int) ≤ (j : Int) + 1 := by omega
              have hwr : IntKind.i64.wrap (j : Int) = j := by simp (disch := omega) only [IntWalk.i64_in]
              clear kp HPR h0
              by_cases hp : pv < n.fId
              · have hp2 : (n.fId ≤ pv) = False := eq_false (by omega)
                by_cases hSu : 0 ≤ n.fSure ∧ n.fSure ≤ n.fData.length
                · have e3 : inRange n.fSure 0 n.fData.length = true := inRange_yes hSu.1 hSu.2
                  obtain ⟨hSu1, hSu2⟩ := hSu
                  by_cases hA : named m.fNames n.fId = true
                  · have HGo := HGO.out (by rw [HSI.out, HNI.out, hA, decide_eq_true (by omega)]; rfl)
                    simp only [hA] at hCa
                    clear hCb HFAIL HGO HSI HNI hA HSP
                    refine wp_region_held_drew (S := fun W => Below wq.heap.size wq W) (by kernel_rfl) (Below.drew (Below.refl _ _)) (fun hHeld => ?_)
                    refine wpAnyH_take (i := 0) (oi := ⟨some 28, .fieldAddr 171 (.tmp 5) 0, 0, "l02_files.go:57", #[], none⟩) (v := ?v180) rfl (by kernel_rfl) (by kernel_rfl) (by kernel_rfl) (fun _ _ _ h => h) (Or.inl ⟨by rfl, ?hy180⟩) (by assumption) ?rest180
                    case hy180 => (intro w hSw; (try dsimp only at hSw); go_simp; try (with_reducible rfl))
                    try simp only [Act.put, List.setIfInBounds_toArray, List.set_cons_zero, List.set_cons_succ]
                    refine wpAnyH_take (i := 1) (oi := ⟨some 29, .load 3 (.tmp 28), 3, "l02_files.go:57", #[⟨0, .data⟩], none⟩) (v := ?v181) rfl (by kernel_rfl) (by kernel_rfl) (by kernel_rfl) (fun _ _ _ h => h) (Or.inl ⟨by rfl, ?hy181⟩) (by assumption) ?rest181
                    case hy181 => (intro w hSw; (try dsimp only at hSw); go_simp; try (with_reducible rfl))
                    try simp only [Act.put, List.setIfInBounds_toArray, List.set_cons_zero, List.set_cons_succ]
                    refine wpAnyH_take (i := 2) (oi := ⟨some 30, .fieldAddr 43 (.tmp 1) 3, 0, "l02_files.go:57", #[], none⟩) (v := ?v182) rfl (by kernel_rfl) (by kernel_rfl) (by kernel_rfl) (fun _ _ _ h => h) (Or.inl ⟨by rfl, ?hy182⟩) (by assumption) ?rest182
                    case hy182 => (intro w hSw; (try dsimp only at hSw); go_simp; try (with_reducible rfl))
                    try simp only [Act.put, List.setIfInBounds_toArray, List.set_cons_zero, List.set_cons_succ]
                    refine wpAnyH_take (i := 3) (oi := ⟨some 31, .load 3 (.tmp 30), 3, "l02_files.go:57", #[⟨2, .data⟩], none⟩) (v := ?v183) rfl (by kernel_rfl) (by kernel_rfl) (by kernel_rfl) (fun _ _ _ h => h) (Or.inl ⟨by rfl, ?hy183⟩) (by assumption) ?rest183
                    case hy183 => (intro w hSw; (try dsimp only at hSw); go_simp; try (with_reducible rfl))
                    try simp only [Act.put, List.setIfInBounds_toArray, List.set_cons_zero, List.set_cons_succ]
                    refine wpAnyH_take (i := 4) (oi := ⟨some 32, .binOp .sub 3 (.tmp 31) (.const (.int .i64 1)) 3, 3, "l02_files.go:57", #[⟨3, .data⟩], none⟩) (v := ?v184) rfl (by kernel_rfl) (by kernel_rfl) (by kernel_rfl) (fun _ _ _ h => h) (Or.inl ⟨by rfl, ?hy184⟩) (by assumption) ?rest184
                    case hy184 => (intro w hSw; (try dsimp only at hSw); go_simp; try (with_reducible rfl))
                    try simp only [Act.put, List.setIfInBounds_toArray, List.set_cons_zero, List.set_cons_succ]
                    refine wpAnyH_ready (rs := [5]) (by kernel_rfl) (by simp) ?_
                    refine AllReadyH.cons (o := ⟨some 33, .call { callee := .value (.func 103), args := #[.tmp 29, .const (.int .i64 1), .tmp 32], argTypes := #[3, 3, 3] }, 4, "l02_files.go:57", #[⟨1, .data⟩, ⟨4, .data⟩], none⟩) rfl (fun K hK => ?_) AllReadyH.nil
                    go_simp
                    refine Calls.mono (l1In_any _ _ _ _) ?_
                    rintro e w1 ⟨rfl, hw1⟩
                    have hx1 := below_same hw1
                    clear hw1
                    (try simp only [e1, e3])
                    go_wp2_with fail
                    refine hK.out _ _ (bthen hHeld hx1) (fun hHeld => ?_)
                    clear hK K
                    try simp only [Act.put, List.setIfInBounds_toArray, List.set_cons_zero, List.set_cons_succ]
                    refine wpAnyH_take (i := 6) (oi := ⟨some 34, .unOp .not 4 (.tmp 33), 4, "l02_files.go:57", #[⟨5, .data⟩], none⟩) (v := ?v185) rfl (by kernel_rfl) (by kernel_rfl) (by kernel_rfl) (fun _ _ _ h => h) (Or.inl ⟨by rfl, ?hy185⟩) (by assumption) ?rest185
                    case hy185 => (intro w hSw; (try dsimp only at hSw); go_simp; try (with_reducible rfl))
                    try simp only [Act.put, List.setIfInBounds_toArray, List.set_cons_zero, List.set_cons_succ]
                    refine wpAnyH_take (i := 7) (oi := ⟨some 35, .move (.tmp 34), 4, "l02_files.go:57", #[⟨6, .data⟩, ⟨5, .chain⟩], none⟩) (v := ?v186) rfl (by kernel_rfl) (by kernel_rfl) (by kernel_rfl) (fun _ _ _ h => h) (Or.inl ⟨by rfl, ?hy186⟩) (by assumption) ?rest186
                    case hy186 => (intro w hSw; (try dsimp only at hSw); go_simp; try (with_reducible rfl))
                    try simp only [Act.put, List.setIfInBounds_toArray, List.set_cons_zero, List.set_cons_succ]
                    refine wpAnyH_take (i := 8) (oi := ⟨some 36, .move (.tmp 4), 3, "l02_files.go:57", #[⟨7, .guard⟩], some (7, false)⟩) (v := ?v187) rfl (by kernel_rfl) (by kernel_rfl) (by kernel_rfl) (fun _ _ _ h => h) (Or.inl ⟨by rfl, ?hy187⟩) (by assumption) ?rest187
                    case hy187 => (intro w hSw; (try dsimp only at hSw); go_simp; try (with_reducible rfl))
                    try simp only [Act.put, List.setIfInBounds_toArray, List.set_cons_zero, List.set_cons_succ]
                    refine wpAnyH_take (i := 9) (oi := ⟨some 37, .binOp .gtr 3 (.tmp 36) (.const (.int .i64 0)) 3, 4, "l02_files.go:57", #[⟨8, .data⟩, ⟨7, .guard⟩], some (7, false)⟩) (v := ?v188) rfl (by kernel_rfl) (by kernel_rfl) (by kernel_rfl) (fun _ _ _ h => h) (Or.inl ⟨by rfl, ?hy188⟩) (by assumption) ?rest188
                    case hy188 => (intro w hSw; (try dsimp only at hSw); go_simp; try (with_reducible rfl))
                    try simp only [Act.put, List.setIfInBounds_toArray, List.set_cons_zero, List.set_cons_succ]
                    refine wpAnyH_take (i := 10) (oi := ⟨some 38, .move (.tmp 37), 4, "l02_files.go:57", #[⟨9, .data⟩, ⟨7, .chain⟩, ⟨7, .guard⟩], some (7, false)⟩) (v := ?v189) rfl (by kernel_rfl) (by kernel_rfl) (by kernel_rfl) (fun _ _ _ h => h) (Or.inl ⟨by rfl, ?hy189⟩) (by assumption) ?rest189
                    case hy189 => (intro w hSw; (try dsimp only at hSw); go_simp; try (with_reducible rfl))
                    try simp only [Act.put, List.setIfInBounds_toArray, List.set_cons_zero, List.set_cons_succ]
                    refine wpAnyH_take (i := 11) (oi := ⟨some 39, .fieldAddr 43 (.tmp 1) 0, 0, "l02_files.go:57", #[⟨10, .guard⟩], some (10, true)⟩) (v := ?v190) rfl (by kernel_rfl) (by kernel_rfl) (by kernel_rfl) (fun _ _ _ h => h) (Or.inl ⟨by rfl, ?hy190⟩) (by assumption) ?rest190
                    case hy190 => (intro w hSw; (try dsimp only at hSw); go_simp; try (with_reducible rfl))
                    try simp only [Act.put, List.setIfInBounds_toArray, List.set_cons_zero, List.set_cons_succ]
                    refine wpAnyH_take (i := 12) (oi := ⟨some 40, .load 40 (.tmp 39), 40, "l02_files.go:57", #[⟨11, .data⟩, ⟨10, .guard⟩], some (10, true)⟩) (v := ?v191) rfl (by kernel_rfl) (by kernel_rfl) (by kernel_rfl) (fun _ _ _ h => h) (Or.inl ⟨by rfl, ?hy191⟩) (by assumption) ?rest191
                    case hy191 => (intro w hSw; (try dsimp only at hSw); go_simp; try (with_reducible rfl))
                    try simp only [Act.put, List.setIfInBounds_toArray, List.set_cons_zero, List.set_cons_succ]
                    refine wpAnyH_take (i := 13) (oi := ⟨some 41, .move (.tmp 4), 3, "l02_files.go:57", #[⟨10, .guard⟩], some (10, true)⟩) (v := ?v192) rfl (by kernel_rfl) (by kernel_rfl) (by kernel_rfl) (fun _ _ _ h => h) (Or.inl ⟨by rfl, ?hy192⟩) (by assumption) ?rest192
                    case hy192 => (intro w hSw; (try dsimp only at hSw); go_simp; try (with_reducible rfl))
                    try simp only [Act.put, List.setIfInBounds_toArray, List.set_cons_zero, List.set_cons_succ]
                    refine wpAnyH_take (i := 14) (oi := ⟨some 42, .binOp .sub 3 (.tmp 41) (.const (.int .i64 1)) 3, 3, "l02_files.go:57", #[⟨13, .data⟩, ⟨10, .guard⟩], some (10, true)⟩) (v := ?v193) rfl (by kernel_rfl) (by kernel_rfl) (by kernel_rfl) (fun _ _ _ h => h) (Or.inl ⟨by rfl, ?hy193⟩) (by assumption) ?rest193
                    case hy193 => (intro w hSw; (try dsimp only at hSw); go_simp; try (with_reducible rfl))
                    try simp only [Act.put, List.setIfInBounds_toArray, List.set_cons_zero, List.set_cons_succ]
                    refine wpAnyH_take (i := 15) (oi := ⟨some 43, .indexAddr 40 (.tmp 40) (.tmp 42), 0, "l02_files.go:57", #[⟨12, .data⟩, ⟨14, .data⟩, ⟨10, .guard⟩], some (10, true)⟩) (v := ?v194) rfl (by kernel_rfl) (by kernel_rfl) (by kernel_rfl) (fun _ _ _ h => h) (Or.inl ⟨by rfl, ?hy194⟩) (by assumption) ?rest194
                    case hy194 => (intro w hSw; (try dsimp only at hSw); go_simp; try (with_reducible rfl))
                    try simp only [Act.put, List.setIfInBounds_toArray, List.set_cons_zero, List.set_cons_succ]
                    refine wpAnyH_take (i := 16) (oi := ⟨some 44, .fieldAddr 171 (.tmp 43) 0, 0, "l02_files.go:57", #[⟨15, .data⟩, ⟨10, .guard⟩], some (10, true)⟩) (v := ?v195) rfl (by kernel_rfl) (by kernel_rfl) (by kernel_rfl) (fun _ _ _ h => h) (Or.inl ⟨by rfl, ?hy195⟩) (by assumption) ?rest195
                    case hy195 => (intro w hSw; (try dsimp only at hSw); go_simp; try (with_reducible rfl))
                    try simp only [Act.put, List.setIfInBounds_toArray, List.set_cons_zero, List.set_cons_succ]
                    refine wpAnyH_take (i := 17) (oi := ⟨some 45, .load 3 (.tmp 44), 3, "l02_files.go:57", #[⟨16, .data⟩, ⟨10, .guard⟩], some (10, true)⟩) (v := ?v196) rfl (by kernel_rfl) (by kernel_rfl) (by kernel_rfl) (fun _ _ _ h => h) (Or.inl ⟨by rfl, ?hy196⟩) (by assumption) ?rest196
                    case hy196 => (intro w hSw; (try dsimp only at hSw); go_simp; try (with_reducible rfl))
                    try simp only [Act.put, List.setIfInBounds_toArray, List.set_cons_zero, List.set_cons_succ]
                    refine wpAnyH_take (i := 18) (oi := ⟨some 46, .fieldAddr 171 (.tmp 5) 0, 0, "l02_files.go:57", #[⟨10, .guard⟩], some (10, true)⟩) (v := ?v197) rfl (by kernel_rfl) (by kernel_rfl) (by kernel_rfl) (fun _ _ _ h => h) (Or.inl ⟨by rfl, ?hy197⟩) (by assumption) ?rest197
                    case hy197 => (intro w hSw; (try dsimp only at hSw); go_simp; try (with_reducible rfl))
                    try simp only [Act.put, List.setIfInBounds_toArray, List.set_cons_zero, List.set_cons_succ]
                    refine wpAnyH_take (i := 19) (oi := ⟨some 47, .load 3 (.tmp 46), 3, "l02_files.go:57", #[⟨18, .data⟩, ⟨10, .guard⟩], some (10, true)⟩) (v := ?v198) rfl (by kernel_rfl) (by kernel_rfl) (by kernel_rfl) (fun _ _ _ h => h) (Or.inl ⟨by rfl, ?hy198⟩) (by assumption) ?rest198
                    case hy198 => (intro w hSw; (try dsimp only at hSw); go_simp; try (with_reducible rfl))
                    try simp only [Act.put, List.setIfInBounds_toArray, List.set_cons_zero, List.set_cons_succ]
                    refine wpAnyH_take (i := 20) (oi := ⟨some 48, .binOp .geq 3 (.tmp 45) (.tmp 47) 3, 4, "l02_files.go:57", #[⟨17, .data⟩, ⟨19, .data⟩, ⟨10, .guard⟩], some (10, true)⟩) (v := ?v199) rfl (by kernel_rfl) (by kernel_rfl) (by kernel_rfl) (fun _ _ _ h => h) (Or.inl ⟨by rfl, ?hy199⟩) (by assumption) ?rest199
                    case hy199 => (intro w hSw; (try dsimp only at hSw); go_simp; try (with_reducible rfl))
                    try simp only [Act.put, List.setIfInBounds_toArray, List.set_cons_zero, List.set_cons_succ]
                    refine wpAnyH_take (i := 21) (oi := ⟨some 49, .pick (.tmp 38) (.tmp 48) (.const (.bool false)), 4, "l02_files.go:57", #[⟨10, .data⟩, ⟨20, .data⟩, ⟨7, .guard⟩], some (7, false)⟩) (v := ?v200) rfl (by kernel_rfl) (by kernel_rfl) (by kernel_rfl) (fun _ _ _ h => h) (Or.inl ⟨by rfl, ?hy200⟩) (by assumption) ?rest200
                    case hy200 => (intro w hSw; (try dsimp only at hSw); go_simp; try (with_reducible rfl))
                    try simp only [Act.put, List.setIfInBounds_toArray, List.set_cons_zero, List.set_cons_succ]
                    refine wpAnyH_take (i := 22) (oi := ⟨some 50, .pick (.tmp 35) (.const (.bool true)) (.tmp 49), 4, "l02_files.go:57", #[⟨7, .data⟩, ⟨21, .data⟩], none⟩) (v := ?v201) rfl (by kernel_rfl) (by kernel_rfl) (by kernel_rfl) (fun _ _ _ h => h) (Or.inl ⟨by rfl, ?hy201⟩) (by assumption) ?rest201
                    case hy201 => (intro w hSw; (try dsimp only at hSw); go_simp; try (with_reducible rfl))
                    try simp only [Act.put, List.setIfInBounds_toArray, List.set_cons_zero, List.set_cons_succ]
                    refine wpAnyH_take (i := 23) (oi := ⟨some 51, .move (.tmp 50), 4, "l02_files.go:57", #[⟨22, .data⟩, ⟨10, .chain⟩], none⟩) (v := ?v202) rfl (by kernel_rfl) (by kernel_rfl) (by kernel_rfl) (fun _ _ _ h => h) (Or.inl ⟨by rfl, ?hy202⟩) (by assumption) ?rest202
                    case hy202 => (intro w hSw; (try dsimp only at hSw); go_simp; try (with_reducible rfl))
                    try simp only [Act.put, List.setIfInBounds_toArray, List.set_cons_zero, List.set_cons_succ]
                    refine wpAnyH_take (i := 24) (oi := ⟨some 52, .fieldAddr 171 (.tmp 5) 2, 0, "l02_files.go:57", #[⟨23, .guard⟩], some (23, false)⟩) (v := ?v203) rfl (by kernel_rfl) (by kernel_rfl) (by kernel_rfl) (fun _ _ _ h => h) (Or.inl ⟨by rfl, ?hy203⟩) (by assumption) ?rest203
                    case hy203 => (intro w hSw; (try dsimp only at hSw); go_simp; try (with_reducible rfl))
                    try simp only [Act.put, List.setIfInBounds_toArray, List.set_cons_zero, List.set_cons_succ]
                    refine wpAnyH_take (i := 25) (oi := ⟨some 53, .load 3 (.tmp 52), 3, "l02_files.go:57", #[⟨24, .data⟩, ⟨23, .guard⟩], some (23, false)⟩) (v := ?v204) rfl (by kernel_rfl) (by kernel_rfl) (by kernel_rfl) (fun _ _ _ h => h) (Or.inl ⟨by rfl, ?hy204⟩) (by assumption) ?rest204
                    case hy204 => (intro w hSw; (try dsimp only at hSw); go_simp; try (with_reducible rfl))
                    try simp only [Act.put, List.setIfInBounds_toArray, List.set_cons_zero, List.set_cons_succ]
                    refine wpAnyH_take (i := 26) (oi := ⟨some 54, .fieldAddr 171 (.tmp 5) 1, 0, "l02_files.go:57", #[⟨23, .guard⟩], some (23, false)⟩) (v := ?v205) rfl (by kernel_rfl) (by kernel_rfl) (by kernel_rfl) (fun _ _ _ h => h) (Or.inl ⟨by rfl, ?hy205⟩) (by assumption) ?rest205
                    case hy205 => (intro w hSw; (try dsimp only at hSw); go_simp; try (with_reducible rfl))
                    try simp only [Act.put, List.setIfInBounds_toArray, List.set_cons_zero, List.set_cons_succ]
                    refine wpAnyH_take (i := 27) (oi := ⟨some 55, .load 22 (.tmp 54), 22, "l02_files.go:57", #[⟨26, .data⟩, ⟨23, .guard⟩], some (23, false)⟩) (v := ?v206) rfl (by kernel_rfl) (by kernel_rfl) (by kernel_rfl) (fun _ _ _ h => h) (Or.inl ⟨by rfl, ?hy206⟩) (by assumption) ?rest206
                    case hy206 => (intro w hSw; (try dsimp only at hSw); go_simp; try (with_reducible rfl))
                    try simp only [Act.put, List.setIfInBounds_toArray, List.set_cons_zero, List.set_cons_succ]
                    refine wpAnyH_take (i := 28) (oi := ⟨some 56, .call { callee := .builtin .len, args := #[.tmp 55], argTypes := #[22] }, 3, "l02_files.go:57", #[⟨27, .data⟩, ⟨23, .guard⟩], some (23, false)⟩) (v := ?v207) rfl (by kernel_rfl) (by kernel_rfl) (by kernel_rfl) (fun _ _ _ h => h) (Or.inl ⟨by rfl, ?hy207⟩) (by assumption) ?rest207
                    case hy207 => (intro w hSw; (try dsimp only at hSw); go_simp; try (with_reducible rfl))
                    try simp only [Act.put, List.setIfInBounds_toArray, List.set_cons_zero, List.set_cons_succ]
                    refine wpAnyH_ready (rs := [29]) (by kernel_rfl) (by simp) ?_
                    refine AllReadyH.cons (o := ⟨some 57, .call { callee := .value (.func 103), args := #[.tmp 53, .const (.int .i64 0), .tmp 56], argTypes := #[3, 3, 3] }, 4, "l02_files.go:57", #[⟨25, .data⟩, ⟨28, .data⟩, ⟨23, .chain⟩, ⟨23, .guard⟩], some (23, false)⟩) rfl (fun K hK => ?_) AllReadyH.nil
                    go_simp
                    refine Calls.mono (l1In_any _ _ _ _) ?_
                    rintro e w2 ⟨rfl, hw2⟩
                    have hx2 := below_same hw2
                    clear hw2
                    (try simp only [e1, e3])
                    go_wp2_with fail
                    refine hK.out _ _ (bthen hHeld hx2) (fun hHeld => ?_)
                    clear hK K
                    try simp only [Act.put, List.setIfInBounds_toArray, List.set_cons_zero, List.set_cons_succ]
                    refine wpAnyH_take (i := 30) (oi := ⟨some 58, .unOp .not 4 (.tmp 57), 4, "l02_files.go:57", #[⟨29, .data⟩, ⟨23, .guard⟩], some (23, false)⟩) (v := ?v208) rfl (by kernel_rfl) (by kernel_rfl) (by kernel_rfl) (fun _ _ _ h => h) (Or.inl ⟨by rfl, ?hy208⟩) (by assumption) ?rest208
                    case hy208 => (intro w hSw; (try dsimp only at hSw); go_simp; try (with_reducible rfl))
                    try simp only [Act.put, List.setIfInBounds_toArray, List.set_cons_zero, List.set_cons_succ]
                    refine wpAnyH_take (i := 31) (oi := ⟨some 59, .pick (.tmp 51) (.const (.bool true)) (.tmp 58), 4, "l02_files.go:57", #[⟨23, .data⟩, ⟨30, .data⟩], none⟩) (v := ?v209) rfl (by kernel_rfl) (by kernel_rfl) (by kernel_rfl) (fun _ _ _ h => h) (Or.inl ⟨by rfl, ?hy209⟩) (by assumption) ?rest209
                    case hy209 => (intro w hSw; (try dsimp only at hSw); go_simp; try (with_reducible rfl))
                    try simp only [Act.put, List.setIfInBounds_toArray, List.set_cons_zero, List.set_cons_succ]
                    refine wpAnyH_take (i := 32) (oi := ⟨some 60, .move (.tmp 59), 4, "l02_files.go:57", #[⟨31, .data⟩, ⟨29, .chain⟩], none⟩) (v := ?v210) rfl (by kernel_rfl) (by kernel_rfl) (by kernel_rfl) (fun _ _ _ h => h) (Or.inl ⟨by rfl, ?hy210⟩) (by assumption) ?rest210
                    case hy210 => (intro w hSw; (try dsimp only at hSw); go_simp; try (with_reducible rfl))
                    try simp only [Act.put, List.setIfInBounds_toArray, List.set_cons_zero, List.set_cons_succ]
                    refine wpAnyH_take (i := 33) (oi := ⟨some 61, .fieldAddr 43 (.tmp 1) 1, 0, "l02_files.go:57", #[⟨32, .guard⟩], some (32, false)⟩) (v := ?v211) rfl (by kernel_rfl) (by kernel_rfl) (by kernel_rfl) (fun _ _ _ h => h) (Or.inl ⟨by rfl, ?hy211⟩) (by assumption) ?rest211
                    case hy211 => (intro w hSw; (try dsimp only at hSw); go_simp; try (with_reducible rfl))
                    try simp only [Act.put, List.setIfInBounds_toArray, List.set_cons_zero, List.set_cons_succ]
                    refine wpAnyH_take (i := 34) (oi := ⟨some 62, .load 41 (.tmp 61), 41, "l02_files.go:57", #[⟨33, .data⟩, ⟨32, .guard⟩], some (32, false)⟩) (v := ?v212) rfl (by kernel_rfl) (by kernel_rfl) (by kernel_rfl) (fun _ _ _ h => h) (Or.inl ⟨by rfl, ?hy212⟩) (by assumption) ?rest212
                    case hy212 => (intro w hSw; (try dsimp only at hSw); go_simp; try (with_reducible rfl))
                    try simp only [Act.put, List.setIfInBounds_toArray, List.set_cons_zero, List.set_cons_succ]
                    refine wpAnyH_take (i := 35) (oi := ⟨some 63, .fieldAddr 171 (.tmp 5) 0, 0, "l02_files.go:57", #[⟨32, .guard⟩], some (32, false)⟩) (v := ?v213) rfl (by kernel_rfl) (by kernel_rfl) (by kernel_rfl) (fun _ _ _ h => h) (Or.inl ⟨by rfl, ?hy213⟩) (by assumption) ?rest213
                    case hy213 => (intro w hSw; (try dsimp only at hSw); go_simp; try (with_reducible rfl))
                    try simp only [Act.put, List.setIfInBounds_toArray, List.set_cons_zero, List.set_cons_succ]
                    refine wpAnyH_take (i := 36) (oi := ⟨some 64, .load 3 (.tmp 63), 3, "l02_files.go:57", #[⟨35, .data⟩, ⟨32, .guard⟩], some (32, false)⟩) (v := ?v214) rfl (by kernel_rfl) (by kernel_rfl) (by kernel_rfl) (fun _ _ _ h => h) (Or.inl ⟨by rfl, ?hy214⟩) (by assumption) ?rest214
                    case hy214 => (intro w hSw; (try dsimp only at hSw); go_simp; try (with_reducible rfl))
                    try simp only [Act.put, List.setIfInBounds_toArray, List.set_cons_zero, List.set_cons_succ]
                    refine wpAnyH_ready (rs := [37]) (by kernel_rfl) (by simp) ?_
                    refine AllReadyH.cons (o := ⟨some 65, .call { callee := .value (.func 175), args := #[.tmp 62, .tmp 64], argTypes := #[41, 3] }, 4, "l02_files.go:57", #[⟨34, .data⟩, ⟨36, .data⟩, ⟨32, .chain⟩, ⟨32, .guard⟩], some (32, false)⟩) rfl (fun K hK => ?_) AllReadyH.nil
                    go_simp
                    refine Calls.mono (hCa _ hHeld) ?_
                    rintro e w3 ⟨rfl, hw3⟩
                    have hx3 := below_same hw3
                    clear hw3
                    go_wp2_with fail
                    refine hK.out _ _ (bthen hHeld hx3) (fun hHeld => ?_)
                    clear hK K
                    try simp only [Act.put, List.setIfInBounds_toArray, List.set_cons_zero, List.set_cons_succ]
                    refine wpAnyH_take (i := 38) (oi := ⟨some 66, .unOp .not 4 (.tmp 65), 4, "l02_files.go:57", #[⟨37, .data⟩, ⟨32, .guard⟩], some (32, false)⟩) (v := ?v215) rfl (by kernel_rfl) (by kernel_rfl) (by kernel_rfl) (fun _ _ _ h => h) (Or.inl ⟨by rfl, ?hy215⟩) (by assumption) ?rest215
                    case hy215 => (intro w hSw; (try dsimp only at hSw); go_simp; try (with_reducible rfl))
                    try simp only [Act.put, List.setIfInBounds_toArray, List.set_cons_zero, List.set_cons_succ]
                    refine wpAnyH_take (i := 39) (oi := ⟨some 67, .move (.tmp 66), 4, "l02_files.go:57", #[⟨38, .data⟩, ⟨37, .chain⟩, ⟨32, .guard⟩], some (32, false)⟩) (v := ?v216) rfl (by kernel_rfl) (by kernel_rfl) (by kernel_rfl) (fun _ _ _ h => h) (Or.inl ⟨by rfl, ?hy216⟩) (by assumption) ?rest216
                    case hy216 => (intro w hSw; (try dsimp only at hSw); go_simp; try (with_reducible rfl))
                    try simp only [Act.put, List.setIfInBounds_toArray, List.set_cons_zero, List.set_cons_succ]
                    refine wpAnyH_take (i := 40) (oi := ⟨some 68, .fieldAddr 43 (.tmp 1) 2, 0, "l02_files.go:57", #[⟨39, .guard⟩], some (39, true)⟩) (v := undef) rfl (by kernel_rfl) (by kernel_rfl) (by kernel_rfl) (fun _ _ _ h => h) (Or.inr ⟨by rfl, rfl⟩) (by assumption) ?rest217
                    try simp only [Act.put, List.setIfInBounds_toArray, List.set_cons_zero, List.set_cons_succ]
                    refine wpAnyH_take (i := 41) (oi := ⟨some 69, .load 41 (.tmp 68), 41, "l02_files.go:57", #[⟨40, .data⟩, ⟨39, .guard⟩], some (39, true)⟩) (v := undef) rfl (by kernel_rfl) (by kernel_rfl) (by kernel_rfl) (fun _ _ _ h => h) (Or.inr ⟨by rfl, rfl⟩) (by assumption) ?rest218
                    try simp only [Act.put, List.setIfInBounds_toArray, List.set_cons_zero, List.set_cons_succ]
                    refine wpAnyH_take (i := 42) (oi := ⟨some 70, .fieldAddr 171 (.tmp 5) 0, 0, "l02_files.go:57", #[⟨39, .guard⟩], some (39, true)⟩) (v := undef) rfl (by kernel_rfl) (by kernel_rfl) (by kernel_rfl) (fun _ _ _ h => h) (Or.inr ⟨by rfl, rfl⟩) (by assumption) ?rest219
                    try simp only [Act.put, List.setIfInBounds_toArray, List.set_cons_zero, List.set_cons_succ]
                    refine wpAnyH_take (i := 43) (oi := ⟨some 71, .load 3 (.tmp 70), 3, "l02_files.go:57", #[⟨42, .data⟩, ⟨39, .guard⟩], some (39, true)⟩) (v := undef) rfl (by kernel_rfl) (by kernel_rfl) (by kernel_rfl) (fun _ _ _ h => h) (Or.inr ⟨by rfl, rfl⟩) (by assumption) ?rest220
                    try simp only [Act.put, List.setIfInBounds_toArray, List.set_cons_zero, List.set_cons_succ]
                    refine wpAnyH_take (i := 44) (oi := ⟨some 72, .call { callee := .value (.func 175), args := #[.tmp 69, .tmp 71], argTypes := #[41, 3] }, 4, "l02_files.go:57", #[⟨41, .data⟩, ⟨43, .data⟩, ⟨39, .chain⟩, ⟨39, .guard⟩], some (39, true)⟩) (v := undef) rfl (by kernel_rfl) (by kernel_rfl) (by kernel_rfl) (fun _ _ _ h => h) (Or.inr ⟨by rfl, rfl⟩) (by assumption) ?rest221
                    try simp only [Act.put, List.setIfInBounds_toArray, List.set_cons_zero, List.set_cons_succ]
                    refine wpAnyH_take (i := 45) (oi := ⟨some 73, .unOp .not 4 (.tmp 72), 4, "l02_files.go:57", #[⟨44, .data⟩, ⟨39, .guard⟩], some (39, true)⟩) (v := undef) rfl (by kernel_rfl) (by kernel_rfl) (by kernel_rfl) (fun _ _ _ h => h) (Or.inr ⟨by rfl, rfl⟩) (by assumption) ?rest222
                    try simp only [Act.put, List.setIfInBounds_toArray, List.set_cons_zero, List.set_cons_succ]
                    refine wpAnyH_take (i := 46) (oi := ⟨some 74, .pick (.tmp 67) (.tmp 73) (.const (.bool false)), 4, "l02_files.go:57", #[⟨39, .data⟩, ⟨45, .data⟩, ⟨32, .guard⟩], some (32, false)⟩) (v := ?v223) rfl (by kernel_rfl) (by kernel_rfl) (by kernel_rfl) (fun _ _ _ h => h) (Or.inl ⟨by rfl, ?hy223⟩) (by assumption) ?rest223
                    case hy223 => (intro w hSw; (try dsimp only at hSw); go_simp; try (with_reducible rfl))
                    try simp only [Act.put, List.setIfInBounds_toArray, List.set_cons_zero, List.set_cons_succ]
                    refine wpAnyH_take (i := 47) (oi := ⟨some 75, .pick (.tmp 60) (.const (.bool true)) (.tmp 74), 4, "l02_files.go:57", #[⟨32, .data⟩, ⟨46, .data⟩], none⟩) (v := ?v224) rfl (by kernel_rfl) (by kernel_rfl) (by kernel_rfl) (fun _ _ _ h => h) (Or.inl ⟨by rfl, ?hy224⟩) (by assumption) ?rest224
                    case hy224 => (intro w hSw; (try dsimp only at hSw); go_simp; try (with_reducible rfl))
                    try simp only [Act.put, List.setIfInBounds_toArray, List.set_cons_zero, List.set_cons_succ]
                    refine wpAnyH_done (by kernel_rfl) ?_ _
                    have r1 := q1 _ hHeld
                    have r0 := p0 _ hHeld
                    go_wp2_with fail
                    go_roundw
                    case rel => exact ⟨j + 1 + 1, by omega, by go_num, by rw [HWS.out]; go_num, by rw [HPI.out]; omega, HGo, bthen hbW hHeld, hbx2.under hHeld⟩
                    case measure => simp [intOf]; omega
                  · have hA2 : named m.fNames n.fId = false := by simpa using hA
                    simp only [hA2] at hCa
                    by_cases hB2 : named m.fSafe n.fId = true
                    · have HGo := HGO.out (by rw [HSI.out, HNI.out, hB2, decide_eq_true (by omega)]; simp)
                      simp only [hB2] at hCb
                      clear HFAIL HGO HSI HNI hA hA2 hB2 HSP
                      refine wp_region_held_drew (S := fun W => Below wq.heap.size wq W) (by kernel_rfl) (Below.drew (Below.refl _ _)) (fun hHeld => ?_)
                      refine wpAnyH_take (i := 0) (oi := ⟨some 28, .fieldAddr 171 (.tmp 5) 0, 0, "l02_files.go:57", #[], none⟩) (v := ?v225) rfl (by kernel_rfl) (by kernel_rfl) (by kernel_rfl) (fun _ _ _ h => h) (Or.inl ⟨by rfl, ?hy225⟩) (by assumption) ?rest225
                      case hy225 => (intro w hSw; (try dsimp only at hSw); go_simp; try (with_reducible rfl))
                      try simp only [Act.put, List.setIfInBounds_toArray, List.set_cons_zero, List.set_cons_succ]
                      refine wpAnyH_take (i := 1) (oi := ⟨some 29, .load 3 (.tmp 28), 3, "l02_files.go:57", #[⟨0, .data⟩], none⟩) (v := ?v226) rfl (by kernel_rfl) (by kernel_rfl) (by kernel_rfl) (fun _ _ _ h => h) (Or.inl ⟨by rfl, ?hy226⟩) (by assumption) ?rest226
                      case hy226 => (intro w hSw; (try dsimp only at hSw); go_simp; try (with_reducible rfl))
                      try simp only [Act.put, List.setIfInBounds_toArray, List.set_cons_zero, List.set_cons_succ]
                      refine wpAnyH_take (i := 2) (oi := ⟨some 30, .fieldAddr 43 (.tmp 1) 3, 0, "l02_files.go:57", #[], none⟩) (v := ?v227) rfl (by kernel_rfl) (by kernel_rfl) (by kernel_rfl) (fun _ _ _ h => h) (Or.inl ⟨by rfl, ?hy227⟩) (by assumption) ?rest227
                      case hy227 => (intro w hSw; (try dsimp only at hSw); go_simp; try (with_reducible rfl))
                      try simp only [Act.put, List.setIfInBounds_toArray, List.set_cons_zero, List.set_cons_succ]
                      refine wpAnyH_take (i := 3) (oi := ⟨some 31, .load 3 (.tmp 30), 3, "l02_files.go:57", #[⟨2, .data⟩], none⟩) (v := ?v228) rfl (by kernel_rfl) (by kernel_rfl) (by kernel_rfl) (fun _ _ _ h => h) (Or.inl ⟨by rfl, ?hy228⟩) (by assumption) ?rest228
                      case hy228 => (intro w hSw; (try dsimp only at hSw); go_simp; try (with_reducible rfl))
                      try simp only [Act.put, List.setIfInBounds_toArray, List.set_cons_zero, List.set_cons_succ]
                      refine wpAnyH_take (i := 4) (oi := ⟨some 32, .binOp .sub 3 (.tmp 31) (.const (.int .i64 1)) 3, 3, "l02_files.go:57", #[⟨3, .data⟩], none⟩) (v := ?v229) rfl (by kernel_rfl) (by kernel_rfl) (by kernel_rfl) (fun _ _ _ h => h) (Or.inl ⟨by rfl, ?hy229⟩) (by assumption) ?rest229
                      case hy229 => (intro w hSw; (try dsimp only at hSw); go_simp; try (with_reducible rfl))
                      try simp only [Act.put, List.setIfInBounds_toArray, List.set_cons_zero, List.set_cons_succ]
                      refine wpAnyH_ready (rs := [5]) (by kernel_rfl) (by simp) ?_
                      refine AllReadyH.cons (o := ⟨some 33, .call { callee := .value (.func 103), args := #[.tmp 29, .const (.int .i64 1), .tmp 32], argTypes := #[3, 3, 3] }, 4, "l02_files.go:57", #[⟨1, .data⟩, ⟨4, .data⟩], none⟩) rfl (fun K hK => ?_) AllReadyH.nil
                      go_simp
                      refine Calls.mono (l1In_any _ _ _ _) ?_
                      rintro e w1 ⟨rfl, hw1⟩
                      have hx1 := below_same hw1
                      clear hw1
                      (try simp only [e1, e3])
                      go_wp2_with fail
                      refine hK.out _ _ (bthen hHeld hx1) (fun hHeld => ?_)
                      clear hK K
                      try simp only [Act.put, List.setIfInBounds_toArray, List.set_cons_zero, List.set_cons_succ]
                      refine wpAnyH_take (i := 6) (oi := ⟨some 34, .unOp .not 4 (.tmp 33), 4, "l02_files.go:57", #[⟨5, .data⟩], none⟩) (v := ?v230) rfl (by kernel_rfl) (by kernel_rfl) (by kernel_rfl) (fun _ _ _ h => h) (Or.inl ⟨by rfl, ?hy230⟩) (by assumption) ?rest230
                      case hy230 => (intro w hSw; (try dsimp only at hSw); go_simp; try (with_reducible rfl))
                      try simp only [Act.put, List.setIfInBounds_toArray, List.set_cons_zero, List.set_cons_succ]
                      refine wpAnyH_take (i := 7) (oi := ⟨some 35, .move (.tmp 34), 4, "l02_files.go:57", #[⟨6, .data⟩, ⟨5, .chain⟩], none⟩) (v := ?v231) rfl (by kernel_rfl) (by kernel_rfl) (by kernel_rfl) (fun _ _ _ h => h) (Or.inl ⟨by rfl, ?hy231⟩) (by assumption) ?rest231
                      case hy231 => (intro w hSw; (try dsimp only at hSw); go_simp; try (with_reducible rfl))
                      try simp only [Act.put, List.setIfInBounds_toArray, List.set_cons_zero, List.set_cons_succ]
                      refine wpAnyH_take (i := 8) (oi := ⟨some 36, .move (.tmp 4), 3, "l02_files.go:57", #[⟨7, .guard⟩], some (7, false)⟩) (v := ?v232) rfl (by kernel_rfl) (by kernel_rfl) (by kernel_rfl) (fun _ _ _ h => h) (Or.inl ⟨by rfl, ?hy232⟩) (by assumption) ?rest232
                      case hy232 => (intro w hSw; (try dsimp only at hSw); go_simp; try (with_reducible rfl))
                      try simp only [Act.put, List.setIfInBounds_toArray, List.set_cons_zero, List.set_cons_succ]
                      refine wpAnyH_take (i := 9) (oi := ⟨some 37, .binOp .gtr 3 (.tmp 36) (.const (.int .i64 0)) 3, 4, "l02_files.go:57", #[⟨8, .data⟩, ⟨7, .guard⟩], some (7, false)⟩) (v := ?v233) rfl (by kernel_rfl) (by kernel_rfl) (by kernel_rfl) (fun _ _ _ h => h) (Or.inl ⟨by rfl, ?hy233⟩) (by assumption) ?rest233
                      case hy233 => (intro w hSw; (try dsimp only at hSw); go_simp; try (with_reducible rfl))
                      try simp only [Act.put, List.setIfInBounds_toArray, List.set_cons_zero, List.set_cons_succ]
                      refine wpAnyH_take (i := 10) (oi := ⟨some 38, .move (.tmp 37), 4, "l02_files.go:57", #[⟨9, .data⟩, ⟨7, .chain⟩, ⟨7, .guard⟩], some (7, false)⟩) (v := ?v234) rfl (by kernel_rfl) (by kernel_rfl) (by kernel_rfl) (fun _ _ _ h => h) (Or.inl ⟨by rfl, ?hy234⟩) (by assumption) ?rest234
                      case hy234 => (intro w hSw; (try dsimp only at hSw); go_simp; try (with_reducible rfl))
                      try simp only [Act.put, List.setIfInBounds_toArray, List.set_cons_zero, List.set_cons_succ]
                      refine wpAnyH_take (i := 11) (oi := ⟨some 39, .fieldAddr 43 (.tmp 1) 0, 0, "l02_files.go:57", #[⟨10, .guard⟩], some (10, true)⟩) (v := ?v235) rfl (by kernel_rfl) (by kernel_rfl) (by kernel_rfl) (fun _ _ _ h => h) (Or.inl ⟨by rfl, ?hy235⟩) (by assumption) ?rest235
                      case hy235 => (intro w hSw; (try dsimp only at hSw); go_simp; try (with_reducible rfl))
                      try simp only [Act.put, List.setIfInBounds_toArray, List.set_cons_zero, List.set_cons_succ]
                      refine wpAnyH_take (i := 12) (oi := ⟨some 40, .load 40 (.tmp 39), 40, "l02_files.go:57", #[⟨11, .data⟩, ⟨10, .guard⟩], some (10, true)⟩) (v := ?v236) rfl (by kernel_rfl) (by kernel_rfl) (by kernel_rfl) (fun _ _ _ h => h) (Or.inl ⟨by rfl, ?hy236⟩) (by assumption) ?rest236
                      case hy236 => (intro w hSw; (try dsimp only at hSw); go_simp; try (with_reducible rfl))
                      try simp only [Act.put, List.setIfInBounds_toArray, List.set_cons_zero, List.set_cons_succ]
                      refine wpAnyH_take (i := 13) (oi := ⟨some 41, .move (.tmp 4), 3, "l02_files.go:57", #[⟨10, .guard⟩], some (10, true)⟩) (v := ?v237) rfl (by kernel_rfl) (by kernel_rfl) (by kernel_rfl) (fun _ _ _ h => h) (Or.inl ⟨by rfl, ?hy237⟩) (by assumption) ?rest237
                      case hy237 => (intro w hSw; (try dsimp only at hSw); go_simp; try (with_reducible rfl))
                      try simp only [Act.put, List.setIfInBounds_toArray, List.set_cons_zero, List.set_cons_succ]
                      refine wpAnyH_take (i := 14) (oi := ⟨some 42, .binOp .sub 3 (.tmp 41) (.const (.int .i64 1)) 3, 3, "l02_files.go:57", #[⟨13, .data⟩, ⟨10, .guard⟩], some (10, true)⟩) (v := ?v238) rfl (by kernel_rfl) (by kernel_rfl) (by kernel_rfl) (fun _ _ _ h => h) (Or.inl ⟨by rfl, ?hy238⟩) (by assumption) ?rest238
                      case hy238 => (intro w hSw; (try dsimp only at hSw); go_simp; try (with_reducible rfl))
                      try simp only [Act.put, List.setIfInBounds_toArray, List.set_cons_zero, List.set_cons_succ]
                      refine wpAnyH_take (i := 15) (oi := ⟨some 43, .indexAddr 40 (.tmp 40) (.tmp 42), 0, "l02_files.go:57", #[⟨12, .data⟩, ⟨14, .data⟩, ⟨10, .guard⟩], some (10, true)⟩) (v := ?v239) rfl (by kernel_rfl) (by kernel_rfl) (by kernel_rfl) (fun _ _ _ h => h) (Or.inl ⟨by rfl, ?hy239⟩) (by assumption) ?rest239
                      case hy239 => (intro w hSw; (try dsimp only at hSw); go_simp; try (with_reducible rfl))
                      try simp only [Act.put, List.setIfInBounds_toArray, List.set_cons_zero, List.set_cons_succ]
                      refine wpAnyH_take (i := 16) (oi := ⟨some 44, .fieldAddr 171 (.tmp 43) 0, 0, "l02_files.go:57", #[⟨15, .data⟩, ⟨10, .guard⟩], some (10, true)⟩) (v := ?v240) rfl (by kernel_rfl) (by kernel_rfl) (by kernel_rfl) (fun _ _ _ h => h) (Or.inl ⟨by rfl, ?hy240⟩) (by assumption) ?rest240
                      case hy240 => (intro w hSw; (try dsimp only at hSw); go_simp; try (with_reducible rfl))
                      try simp only [Act.put, List.setIfInBounds_toArray, List.set_cons_zero, List.set_cons_succ]
                      refine wpAnyH_take (i := 17) (oi := ⟨some 45, .load 3 (.tmp 44), 3, "l02_files.go:57", #[⟨16, .data⟩, ⟨10, .guard⟩], some (10, true)⟩) (v := ?v241) rfl (by kernel_rfl) (by kernel_rfl) (by kernel_rfl) (fun _ _ _ h => h) (Or.inl ⟨by rfl, ?hy241⟩) (by assumption) ?rest241
                      case hy241 => (intro w hSw; (try dsimp only at hSw); go_simp; try (with_reducible rfl))
                      try simp only [Act.put, List.setIfInBounds_toArray, List.set_cons_zero, List.set_cons_succ]
                      refine wpAnyH_take (i := 18) (oi := ⟨some 46, .fieldAddr 171 (.tmp 5) 0, 0, "l02_files.go:57", #[⟨10, .guard⟩], some (10, true)⟩) (v := ?v242) rfl (by kernel_rfl) (by kernel_rfl) (by kernel_rfl) (fun _ _ _ h => h) (Or.inl ⟨by rfl, ?hy242⟩) (by assumption) ?rest242
                      case hy242 => (intro w hSw; (try dsimp only at hSw); go_simp; try (with_reducible rfl))
                      try simp only [Act.put, List.setIfInBounds_toArray, List.set_cons_zero, List.set_cons_succ]
                      refine wpAnyH_take (i := 19) (oi := ⟨some 47, .load 3 (.tmp 46), 3, "l02_files.go:57", #[⟨18, .data⟩, ⟨10, .guard⟩], some (10, true)⟩) (v := ?v243) rfl (by kernel_rfl) (by kernel_rfl) (by kernel_rfl) (fun _ _ _ h => h) (Or.inl ⟨by rfl, ?hy243⟩) (by assumption) ?rest243
                      case hy243 => (intro w hSw; (try dsimp only at hSw); go_simp; try (with_reducible rfl))
                      try simp only [Act.put, List.setIfInBounds_toArray, List.set_cons_zero, List.set_cons_succ]
                      refine wpAnyH_take (i := 20) (oi := ⟨some 48, .binOp .geq 3 (.tmp 45) (.tmp 47) 3, 4, "l02_files.go:57", #[⟨17, .data⟩, ⟨19, .data⟩, ⟨10, .guard⟩], some (10, true)⟩) (v := ?v244) rfl (by kernel_rfl) (by kernel_rfl) (by kernel_rfl) (fun _ _ _ h => h) (Or.inl ⟨by rfl, ?hy244⟩) (by assumption) ?rest244
                      case hy244 => (intro w hSw; (try dsimp only at hSw); go_simp; try (with_reducible rfl))
                      try simp only [Act.put, List.setIfInBounds_toArray, List.set_cons_zero, List.set_cons_succ]
                      refine wpAnyH_take (i := 21) (oi := ⟨some 49, .pick (.tmp 38) (.tmp 48) (.const (.bool false)), 4, "l02_files.go:57", #[⟨10, .data⟩, ⟨20, .data⟩, ⟨7, .guard⟩], some (7, false)⟩) (v := ?v245) rfl (by kernel_rfl) (by kernel_rfl) (by kernel_rfl) (fun _ _ _ h => h) (Or.inl ⟨by rfl, ?hy245⟩) (by assumption) ?rest245
                      case hy245 => (intro w hSw; (try dsimp only at hSw); go_simp; try (with_reducible rfl))
                      try simp only [Act.put, List.setIfInBounds_toArray, List.set_cons_zero, List.set_cons_succ]
                      refine wpAnyH_take (i := 22) (oi := ⟨some 50, .pick (.tmp 35) (.const (.bool true)) (.tmp 49), 4, "l02_files.go:57", #[⟨7, .data⟩, ⟨21, .data⟩], none⟩) (v := ?v246) rfl (by kernel_rfl) (by kernel_rfl) (by kernel_rfl) (fun _ _ _ h => h) (Or.inl ⟨by rfl, ?hy246⟩) (by assumption) ?rest246
                      case hy246 => (intro w hSw; (try dsimp only at hSw); go_simp; try (with_reducible rfl))
                      try simp only [Act.put, List.setIfInBounds_toArray, List.set_cons_zero, List.set_cons_succ]
                      refine wpAnyH_take (i := 23) (oi := ⟨some 51, .move (.tmp 50), 4, "l02_files.go:57", #[⟨22, .data⟩, ⟨10, .chain⟩], none⟩) (v := ?v247) rfl (by kernel_rfl) (by kernel_rfl) (by kernel_rfl) (fun _ _ _ h => h) (Or.inl ⟨by rfl, ?hy247⟩) (by assumption) ?rest247
                      case hy247 => (intro w hSw; (try dsimp only at hSw); go_simp; try (with_reducible rfl))
                      try simp only [Act.put, List.setIfInBounds_toArray, List.set_cons_zero, List.set_cons_succ]
                      refine wpAnyH_take (i := 24) (oi := ⟨some 52, .fieldAddr 171 (.tmp 5) 2, 0, "l02_files.go:57", #[⟨23, .guard⟩], some (23, false)⟩) (v := ?v248) rfl (by kernel_rfl) (by kernel_rfl) (by kernel_rfl) (fun _ _ _ h => h) (Or.inl ⟨by rfl, ?hy248⟩) (by assumption) ?rest248
                      case hy248 => (intro w hSw; (try dsimp only at hSw); go_simp; try (with_reducible rfl))
                      try simp only [Act.put, List.setIfInBounds_toArray, List.set_cons_zero, List.set_cons_succ]
                      refine wpAnyH_take (i := 25) (oi := ⟨some 53, .load 3 (.tmp 52), 3, "l02_files.go:57", #[⟨24, .data⟩, ⟨23, .guard⟩], some (23, false)⟩) (v := ?v249) rfl (by kernel_rfl) (by kernel_rfl) (by kernel_rfl) (fun _ _ _ h => h) (Or.inl ⟨by rfl, ?hy249⟩) (by assumption) ?rest249
                      case hy249 => (intro w hSw; (try dsimp only at hSw); go_simp; try (with_reducible rfl))
                      try simp only [Act.put, List.setIfInBounds_toArray, List.set_cons_zero, List.set_cons_succ]
                      refine wpAnyH_take (i := 26) (oi := ⟨some 54, .fieldAddr 171 (.tmp 5) 1, 0, "l02_files.go:57", #[⟨23, .guard⟩], some (23, false)⟩) (v := ?v250) rfl (by kernel_rfl) (by kernel_rfl) (by kernel_rfl) (fun _ _ _ h => h) (Or.inl ⟨by rfl, ?hy250⟩) (by assumption) ?rest250
                      case hy250 => (intro w hSw; (try dsimp only at hSw); go_simp; try (with_reducible rfl))
                      try simp only [Act.put, List.setIfInBounds_toArray, List.set_cons_zero, List.set_cons_succ]
                      refine wpAnyH_take (i := 27) (oi := ⟨some 55, .load 22 (.tmp 54), 22, "l02_files.go:57", #[⟨26, .data⟩, ⟨23, .guard⟩], some (23, false)⟩) (v := ?v251) rfl (by kernel_rfl) (by kernel_rfl) (by kernel_rfl) (fun _ _ _ h => h) (Or.inl ⟨by rfl, ?hy251⟩) (by assumption) ?rest251
                      case hy251 => (intro w hSw; (try dsimp only at hSw); go_simp; try (with_reducible rfl))
                      try simp only [Act.put, List.setIfInBounds_toArray, List.set_cons_zero, List.set_cons_succ]
                      refine wpAnyH_take (i := 28) (oi := ⟨some 56, .call { callee := .builtin .len, args := #[.tmp 55], argTypes := #[22] }, 3, "l02_files.go:57", #[⟨27, .data⟩, ⟨23, .guard⟩], some (23, false)⟩) (v := ?v252) rfl (by kernel_rfl) (by kernel_rfl) (by kernel_rfl) (fun _ _ _ h => h) (Or.inl ⟨by rfl, ?hy252⟩) (by assumption) ?rest252
                      case hy252 => (intro w hSw; (try dsimp only at hSw); go_simp; try (with_reducible rfl))
                      try simp only [Act.put, List.setIfInBounds_toArray, List.set_cons_zero, List.set_cons_succ]
                      refine wpAnyH_ready (rs := [29]) (by kernel_rfl) (by simp) ?_
                      refine AllReadyH.cons (o := ⟨some 57, .call { callee := .value (.func 103), args := #[.tmp 53, .const (.int .i64 0), .tmp 56], argTypes := #[3, 3, 3] }, 4, "l02_files.go:57", #[⟨25, .data⟩, ⟨28, .data⟩, ⟨23, .chain⟩, ⟨23, .guard⟩], some (23, false)⟩) rfl (fun K hK => ?_) AllReadyH.nil
                      go_simp
                      refine Calls.mono (l1In_any _ _ _ _) ?_
                      rintro e w2 ⟨rfl, hw2⟩
                      have hx2 := below_same hw2
                      clear hw2
                      (try simp only [e1, e3])
                      go_wp2_with fail
                      refine hK.out _ _ (bthen hHeld hx2) (fun hHeld => ?_)
                      clear hK K
                      try simp only [Act.put, List.setIfInBounds_toArray, List.set_cons_zero, List.set_cons_succ]
                      refine wpAnyH_take (i := 30) (oi := ⟨some 58, .unOp .not 4 (.tmp 57), 4, "l02_files.go:57", #[⟨29, .data⟩, ⟨23, .guard⟩], some (23, false)⟩) (v := ?v253) rfl (by kernel_rfl) (by kernel_rfl) (by kernel_rfl) (fun _ _ _ h => h) (Or.inl ⟨by rfl, ?hy253⟩) (by assumption) ?rest253
                      case hy253 => (intro w hSw; (try dsimp only at hSw); go_simp; try (with_reducible rfl))
                      try simp only [Act.put, List.setIfInBounds_toArray, List.set_cons_zero, List.set_cons_succ]
                      refine wpAnyH_take (i := 31) (oi := ⟨some 59, .pick (.tmp 51) (.const (.bool true)) (.tmp 58), 4, "l02_files.go:57", #[⟨23, .data⟩, ⟨30, .data⟩], none⟩) (v := ?v254) rfl (by kernel_rfl) (by kernel_rfl) (by kernel_rfl) (fun _ _ _ h => h) (Or.inl ⟨by rfl, ?hy254⟩) (by assumption) ?rest254
                      case hy254 => (intro w hSw; (try dsimp only at hSw); go_simp; try (with_reducible rfl))
                      try simp only [Act.put, List.setIfInBounds_toArray, List.set_cons_zero, List.set_cons_succ]
                      refine wpAnyH_take (i := 32) (oi := ⟨some 60, .move (.tmp 59), 4, "l02_files.go:57", #[⟨31, .data⟩, ⟨29, .chain⟩], none⟩) (v := ?v255) rfl (by kernel_rfl) (by kernel_rfl) (by kernel_rfl) (fun _ _ _ h => h) (Or.inl ⟨by rfl, ?hy255⟩) (by assumption) ?rest255
                      case hy255 => (intro w hSw; (try dsimp only at hSw); go_simp; try (with_reducible rfl))
                      try simp only [Act.put, List.setIfInBounds_toArray, List.set_cons_zero, List.set_cons_succ]
                      refine wpAnyH_take (i := 33) (oi := ⟨some 61, .fieldAddr 43 (.tmp 1) 1, 0, "l02_files.go:57", #[⟨32, .guard⟩], some (32, false)⟩) (v := ?v256) rfl (by kernel_rfl) (by kernel_rfl) (by kernel_rfl) (fun _ _ _ h => h) (Or.inl ⟨by rfl, ?hy256⟩) (by assumption) ?rest256
                      case hy256 => (intro w hSw; (try dsimp only at hSw); go_simp; try (with_reducible rfl))
                      try simp only [Act.put, List.setIfInBounds_toArray, List.set_cons_zero, List.set_cons_succ]
                      refine wpAnyH_take (i := 34) (oi := ⟨some 62, .load 41 (.tmp 61), 41, "l02_files.go:57", #[⟨33, .data⟩, ⟨32, .guard⟩], some (32, false)⟩) (v := ?v257) rfl (by kernel_rfl) (by kernel_rfl) (by kernel_rfl) (fun _ _ _ h => h) (Or.inl ⟨by rfl, ?hy257⟩) (by assumption) ?rest257
                      case hy257 => (intro w hSw; (try dsimp only at hSw); go_simp; try (with_reducible rfl))
                      try simp only [Act.put, List.setIfInBounds_toArray, List.set_cons_zero, List.set_cons_succ]
                      refine wpAnyH_take (i := 35) (oi := ⟨some 63, .fieldAddr 171 (.tmp 5) 0, 0, "l02_files.go:57", #[⟨32, .guard⟩], some (32, false)⟩) (v := ?v258) rfl (by kernel_rfl) (by kernel_rfl) (by kernel_rfl) (fun _ _ _ h => h) (Or.inl ⟨by rfl, ?hy258⟩) (by assumption) ?rest258
                      case hy258 => (intro w hSw; (try dsimp only at hSw); go_simp; try (with_reducible rfl))
                      try simp only [Act.put, List.setIfInBounds_toArray, List.set_cons_zero, List.set_cons_succ]
                      refine wpAnyH_take (i := 36) (oi := ⟨some 64, .load 3 (.tmp 63), 3, "l02_files.go:57", #[⟨35, .data⟩, ⟨32, .guard⟩], some (32, false)⟩) (v := ?v259) rfl (by kernel_rfl) (by kernel_rfl) (by kernel_rfl) (fun _ _ _ h => h) (Or.inl ⟨by rfl, ?hy259⟩) (by assumption) ?rest259
                      case hy259 => (intro w hSw; (try dsimp only at hSw); go_simp; try (with_reducible rfl))
                      try simp only [Act.put, List.setIfInBounds_toArray, List.set_cons_zero, List.set_cons_succ]
                      refine wpAnyH_ready (rs := [37]) (by kernel_rfl) (by simp) ?_
                      refine AllReadyH.cons (o := ⟨some 65, .call { callee := .value (.func 175), args := #[.tmp 62, .tmp 64], argTypes := #[41, 3] }, 4, "l02_files.go:57", #[⟨34, .data⟩, ⟨36, .data⟩, ⟨32, .chain⟩, ⟨32, .guard⟩], some (32, false)⟩) rfl (fun K hK => ?_) AllReadyH.nil
                      go_simp
                      refine Calls.mono (hCa _ hHeld) ?_
                      rintro e w3 ⟨rfl, hw3⟩
                      have hx3 := below_same hw3
                      clear hw3
                      go_wp2_with fail
                      refine hK.out _ _ (bthen hHeld hx3) (fun hHeld => ?_)
                      clear hK K
                      try simp only [Act.put, List.setIfInBounds_toArray, List.set_cons_zero, List.set_cons_succ]
                      refine wpAnyH_take (i := 38) (oi := ⟨some 66, .unOp .not 4 (.tmp 65), 4, "l02_files.go:57", #[⟨37, .data⟩, ⟨32, .guard⟩], some (32, false)⟩) (v := ?v260) rfl (by kernel_rfl) (by kernel_rfl) (by kernel_rfl) (fun _ _ _ h => h) (Or.inl ⟨by rfl, ?hy260⟩) (by assumption) ?rest260
                      case hy260 => (intro w hSw; (try dsimp only at hSw); go_simp; try (with_reducible rfl))
                      try simp only [Act.put, List.setIfInBounds_toArray, List.set_cons_zero, List.set_cons_succ]
                      refine wpAnyH_take (i := 39) (oi := ⟨some 67, .move (.tmp 66), 4, "l02_files.go:57", #[⟨38, .data⟩, ⟨37, .chain⟩, ⟨32, .guard⟩], some (32, false)⟩) (v := ?v261) rfl (by kernel_rfl) (by kernel_rfl) (by kernel_rfl) (fun _ _ _ h => h) (Or.inl ⟨by rfl, ?hy261⟩) (by assumption) ?rest261
                      case hy261 => (intro w hSw; (try dsimp only at hSw); go_simp; try (with_reducible rfl))
                      try simp only [Act.put, List.setIfInBounds_toArray, List.set_cons_zero, List.set_cons_succ]
                      refine wpAnyH_take (i := 40) (oi := ⟨some 68, .fieldAddr 43 (.tmp 1) 2, 0, "l02_files.go:57", #[⟨39, .guard⟩], some (39, true)⟩) (v := ?v262) rfl (by kernel_rfl) (by kernel_rfl) (by kernel_rfl) (fun _ _ _ h => h) (Or.inl ⟨by rfl, ?hy262⟩) (by assumption) ?rest262
                      case hy262 => (intro w hSw; (try dsimp only at hSw); go_simp; try (with_reducible rfl))
                      try simp only [Act.put, List.setIfInBounds_toArray, List.set_cons_zero, List.set_cons_succ]
                      refine wpAnyH_take (i := 41) (oi := ⟨some 69, .load 41 (.tmp 68), 41, "l02_files.go:57", #[⟨40, .data⟩, ⟨39, .guard⟩], some (39, true)⟩) (v := ?v263) rfl (by kernel_rfl) (by kernel_rfl) (by kernel_rfl) (fun _ _ _ h => h) (Or.inl ⟨by rfl, ?hy263⟩) (by assumption) ?rest263
                      case hy263 => (intro w hSw; (try dsimp only at hSw); go_simp; try (with_reducible rfl))
                      try simp only [Act.put, List.setIfInBounds_toArray, List.set_cons_zero, List.set_cons_succ]
                      refine wpAnyH_take (i := 42) (oi := ⟨some 70, .fieldAddr 171 (.tmp 5) 0, 0, "l02_files.go:57", #[⟨39, .guard⟩], some (39, true)⟩) (v := ?v264) rfl (by kernel_rfl) (by kernel_rfl) (by kernel_rfl) (fun _ _ _ h => h) (Or.inl ⟨by rfl, ?hy264⟩) (by assumption) ?rest264
                      case hy264 => (intro w hSw; (try dsimp only at hSw); go_simp; try (with_reducible rfl))
                      try simp only [Act.put, List.setIfInBounds_toArray, List.set_cons_zero, List.set_cons_succ]
                      refine wpAnyH_take (i := 43) (oi := ⟨some 71, .load 3 (.tmp 70), 3, "l02_files.go:57", #[⟨42, .data⟩, ⟨39, .guard⟩], some (39, true)⟩) (v := ?v265) rfl (by kernel_rfl) (by kernel_rfl) (by kernel_rfl) (fun _ _ _ h => h) (Or.inl ⟨by rfl, ?hy265⟩) (by assumption) ?rest265
                      case hy265 => (intro w hSw; (try dsimp only at hSw); go_simp; try (with_reducible rfl))
                      try simp only [Act.put, List.setIfInBounds_toArray, List.set_cons_zero, List.set_cons_succ]
                      refine wpAnyH_ready (rs := [44]) (by kernel_rfl) (by simp) ?_
                      refine AllReadyH.cons (o := ⟨some 72, .call { callee := .value (.func 175), args := #[.tmp 69, .tmp 71], argTypes := #[41, 3] }, 4, "l02_files.go:57", #[⟨41, .data⟩, ⟨43, .data⟩, ⟨39, .chain⟩, ⟨39, .guard⟩], some (39, true)⟩) rfl (fun K hK => ?_) AllReadyH.nil
                      go_simp
                      refine Calls.mono (hCb _ hHeld) ?_
                      rintro e w4 ⟨rfl, hw4⟩
                      have hx4 := below_same hw4
                      clear hw4
                      go_wp2_with fail
                      refine hK.out _ _ (bthen hHeld hx4) (fun hHeld => ?_)
                      clear hK K
                      try simp only [Act.put, List.setIfInBounds_toArray, List.set_cons_zero, List.set_cons_succ]
                      refine wpAnyH_take (i := 45) (oi := ⟨some 73, .unOp .not 4 (.tmp 72), 4, "l02_files.go:57", #[⟨44, .data⟩, ⟨39, .guard⟩], some (39, true)⟩) (v := ?v266) rfl (by kernel_rfl) (by kernel_rfl) (by kernel_rfl) (fun _ _ _ h => h) (Or.inl ⟨by rfl, ?hy266⟩) (by assumption) ?rest266
                      case hy266 => (intro w hSw; (try dsimp only at hSw); go_simp; try (with_reducible rfl))
                      try simp only [Act.put, List.setIfInBounds_toArray, List.set_cons_zero, List.set_cons_succ]
                      refine wpAnyH_take (i := 46) (oi := ⟨some 74, .pick (.tmp 67) (.tmp 73) (.const (.bool false)), 4, "l02_files.go:57", #[⟨39, .data⟩, ⟨45, .data⟩, ⟨32, .guard⟩], some (32, false)⟩) (v := ?v267) rfl (by kernel_rfl) (by kernel_rfl) (by kernel_rfl) (fun _ _ _ h => h) (Or.inl ⟨by rfl, ?hy267⟩) (by assumption) ?rest267
                      case hy267 => (intro w hSw; (try dsimp only at hSw); go_simp; try (with_reducible rfl))
                      try simp only [Act.put, List.setIfInBounds_toArray, List.set_cons_zero, List.set_cons_succ]
                      refine wpAnyH_take (i := 47) (oi := ⟨some 75, .pick (.tmp 60) (.const (.bool true)) (.tmp 74), 4, "l02_files.go:57", #[⟨32, .data⟩, ⟨46, .data⟩], none⟩) (v := ?v268) rfl (by kernel_rfl) (by kernel_rfl) (by kernel_rfl) (fun _ _ _ h => h) (Or.inl ⟨by rfl, ?hy268⟩) (by assumption) ?rest268
                      case hy268 => (intro w hSw; (try dsimp only at hSw); go_simp; try (with_reducible rfl))
                      try simp only [Act.put, List.setIfInBounds_toArray, List.set_cons_zero, List.set_cons_succ]
                      refine wpAnyH_done (by kernel_rfl) ?_ _
                      have r1 := q1 _ hHeld
                      have r0 := p0 _ hHeld
                      go_wp2_with fail
                      go_roundw
                      case rel => exact ⟨j + 1 + 1, by omega, by go_num, by rw [HWS.out]; go_num, by rw [HPI.out]; omega, HGo, bthen hbW hHeld, hbx2.under hHeld⟩
                      case measure => simp [intOf]; omega
                    · have hB3 : named m.fSafe n.fId = false := by simpa using hB2
                      simp only [hB3] at hCb
                      have HV : Hid (specOk m = false) := HFAIL.out (by rw [HSI.out, HNI.out]; rw [hA2, hB3]; simp)
                      clear HFAIL HGO HSI HNI hA hA2 hB2 hB3 HSP
                      refine wp_region_held_drew (S := fun W => Below wq.heap.size wq W) (by kernel_rfl) (Below.drew (Below.refl _ _)) (fun hHeld => ?_)
                      refine wpAnyH_take (i := 0) (oi := ⟨some 28, .fieldAddr 171 (.tmp 5) 0, 0, "l02_files.go:57", #[], none⟩) (v := ?v269) rfl (by kernel_rfl) (by kernel_rfl) (by kernel_rfl) (fun _ _ _ h => h) (Or.inl ⟨by rfl, ?hy269⟩) (by assumption) ?rest269
                      case hy269 => (intro w hSw; (try dsimp only at hSw); go_simp; try (with_reducible rfl))
                      try simp only [Act.put, List.setIfInBounds_toArray, List.set_cons_zero, List.set_cons_succ]
                      refine wpAnyH_take (i := 1) (oi := ⟨some 29, .load 3 (.tmp 28), 3, "l02_files.go:57", #[⟨0, .data⟩], none⟩) (v := ?v270) rfl (by kernel_rfl) (by kernel_rfl) (by kernel_rfl) (fun _ _ _ h => h) (Or.inl ⟨by rfl, ?hy270⟩) (by assumption) ?rest270
                      case hy270 => (intro w hSw; (try dsimp only at hSw); go_simp; try (with_reducible rfl))
                      try simp only [Act.put, List.setIfInBounds_toArray, List.set_cons_zero, List.set_cons_succ]
                      refine wpAnyH_take (i := 2) (oi := ⟨some 30, .fieldAddr 43 (.tmp 1) 3, 0, "l02_files.go:57", #[], none⟩) (v := ?v271) rfl (by kernel_rfl) (by kernel_rfl) (by kernel_rfl) (fun _ _ _ h => h) (Or.inl ⟨by rfl, ?hy271⟩) (by assumption) ?rest271
                      case hy271 => (intro w hSw; (try dsimp only at hSw); go_simp; try (with_reducible rfl))
                      try simp only [Act.put, List.setIfInBounds_toArray, List.set_cons_zero, List.set_cons_succ]
                      refine wpAnyH_take (i := 3) (oi := ⟨some 31, .load 3 (.tmp 30), 3, "l02_files.go:57", #[⟨2, .data⟩], none⟩) (v := ?v272) rfl (by kernel_rfl) (by kernel_rfl) (by kernel_rfl) (fun _ _ _ h => h) (Or.inl ⟨by rfl, ?hy272⟩) (by assumption) ?rest272
                      case hy272 => (intro w hSw; (try dsimp only at hSw); go_simp; try (with_reducible rfl))
                      try simp only [Act.put, List.setIfInBounds_toArray, List.set_cons_zero, List.set_cons_succ]
                      refine wpAnyH_take (i := 4) (oi := ⟨some 32, .binOp .sub 3 (.tmp 31) (.const (.int .i64 1)) 3, 3, "l02_files.go:57", #[⟨3, .data⟩], none⟩) (v := ?v273) rfl (by kernel_rfl) (by kernel_rfl) (by kernel_rfl) (fun _ _ _ h => h) (Or.inl ⟨by rfl, ?hy273⟩) (by assumption) ?rest273
                      case hy273 => (intro w hSw; (try dsimp only at hSw); go_simp; try (with_reducible rfl))
                      try simp only [Act.put, List.setIfInBounds_toArray, List.set_cons_zero, List.set_cons_succ]
                      refine wpAnyH_ready (rs := [5]) (by kernel_rfl) (by simp) ?_
                      refine AllReadyH.cons (o := ⟨some 33, .call { callee := .value (.func 103), args := #[.tmp 29, .const (.int .i64 1), .tmp 32], argTypes := #[3, 3, 3] }, 4, "l02_files.go:57", #[⟨1, .data⟩, ⟨4, .data⟩], none⟩) rfl (fun K hK => ?_) AllReadyH.nil
                      go_simp
                      refine Calls.mono (l1In_any _ _ _ _) ?_
                      rintro e w1 ⟨rfl, hw1⟩
                      have hx1 := below_same hw1
                      clear hw1
                      (try simp only [e1, e3])
                      go_wp2_with fail
                      refine hK.out _ _ (bthen hHeld hx1) (fun hHeld => ?_)
                      clear hK K
                      try simp only [Act.put, List.setIfInBounds_toArray, List.set_cons_zero, List.set_cons_succ]
                      refine wpAnyH_take (i := 6) (oi := ⟨some 34, .unOp .not 4 (.tmp 33), 4, "l02_files.go:57", #[⟨5, .data⟩], none⟩) (v := ?v274) rfl (by kernel_rfl) (by kernel_rfl) (by kernel_rfl) (fun _ _ _ h => h) (Or.inl ⟨by rfl, ?hy274⟩) (by assumption) ?rest274
                      case hy274 => (intro w hSw; (try dsimp only at hSw); go_simp; try (with_reducible rfl))
                      try simp only [Act.put, List.setIfInBounds_toArray, List.set_cons_zero, List.set_cons_succ]
                      refine wpAnyH_take (i := 7) (oi := ⟨some 35, .move (.tmp 34), 4, "l02_files.go:57", #[⟨6, .data⟩, ⟨5, .chain⟩], none⟩) (v := ?v275) rfl (by kernel_rfl) (by kernel_rfl) (by kernel_rfl) (fun _ _ _ h => h) (Or.inl ⟨by rfl, ?hy275⟩) (by assumption) ?rest275
                      case hy275 => (intro w hSw; (try dsimp only at hSw); go_simp; try (with_reducible rfl))
                      try simp only [Act.put, List.setIfInBounds_toArray, List.set_cons_zero, List.set_cons_succ]
                      refine wpAnyH_take (i := 8) (oi := ⟨some 36, .move (.tmp 4), 3, "l02_files.go:57", #[⟨7, .guard⟩], some (7, false)⟩) (v := ?v276) rfl (by kernel_rfl) (by kernel_rfl) (by kernel_rfl) (fun _ _ _ h => h) (Or.inl ⟨by rfl, ?hy276⟩) (by assumption) ?rest276
                      case hy276 => (intro w hSw; (try dsimp only at hSw); go_simp; try (with_reducible rfl))
                      try simp only [Act.put, List.setIfInBounds_toArray, List.set_cons_zero, List.set_cons_succ]
                      refine wpAnyH_take (i := 9) (oi := ⟨some 37, .binOp .gtr 3 (.tmp 36) (.const (.int .i64 0)) 3, 4, "l02_files.go:57", #[⟨8, .data⟩, ⟨7, .guard⟩], some (7, false)⟩) (v := ?v277) rfl (by kernel_rfl) (by kernel_rfl) (by kernel_rfl) (fun _ _ _ h => h) (Or.inl ⟨by rfl, ?hy277⟩) (by assumption) ?rest277
                      case hy277 => (intro w hSw; (try dsimp only at hSw); go_simp; try (with_reducible rfl))
                      try simp only [Act.put, List.setIfInBounds_toArray, List.set_cons_zero, List.set_cons_succ]
                      refine wpAnyH_take (i := 10) (oi := ⟨some 38, .move (.tmp 37), 4, "l02_files.go:57", #[⟨9, .data⟩, ⟨7, .chain⟩, ⟨7, .guard⟩], some (7, false)⟩) (v := ?v278) rfl (by kernel_rfl) (by kernel_rfl) (by kernel_rfl) (fun _ _ _ h => h) (Or.inl ⟨by rfl, ?hy278⟩) (by assumption) ?rest278
                      case hy278 => (intro w hSw; (try dsimp only at hSw); go_simp; try (with_reducible rfl))
                      try simp only [Act.put, List.setIfInBounds_toArray, List.set_cons_zero, List.set_cons_succ]
                      refine wpAnyH_take (i := 11) (oi := ⟨some 39, .fieldAddr 43 (.tmp 1) 0, 0, "l02_files.go:57", #[⟨10, .guard⟩], some (10, true)⟩) (v := ?v279) rfl (by kernel_rfl) (by kernel_rfl) (by kernel_rfl) (fun _ _ _ h => h) (Or.inl ⟨by rfl, ?hy279⟩) (by assumption) ?rest279
                      case hy279 => (intro w hSw; (try dsimp only at hSw); go_simp; try (with_reducible rfl))
                      try simp only [Act.put, List.setIfInBounds_toArray, List.set_cons_zero, List.set_cons_succ]
                      refine wpAnyH_take (i := 12) (oi := ⟨some 40, .load 40 (.tmp 39), 40, "l02_files.go:57", #[⟨11, .data⟩, ⟨10, .guard⟩], some (10, true)⟩) (v := ?v280) rfl (by kernel_rfl) (by kernel_rfl) (by kernel_rfl) (fun _ _ _ h => h) (Or.inl ⟨by rfl, ?hy280⟩) (by assumption) ?rest280
                      case hy280 => (intro w hSw; (try dsimp only at hSw); go_simp; try (with_reducible rfl))
                      try simp only [Act.put, List.setIfInBounds_toArray, List.set_cons_zero, List.set_cons_succ]
                      refine wpAnyH_take (i := 13) (oi := ⟨some 41, .move (.tmp 4), 3, "l02_files.go:57", #[⟨10, .guard⟩], some (10, true)⟩) (v := ?v281) rfl (by kernel_rfl) (by kernel_rfl) (by kernel_rfl) (fun _ _ _ h => h) (Or.inl ⟨by rfl, ?hy281⟩) (by assumption) ?rest281
                      case hy281 => (intro w hSw; (try dsimp only at hSw); go_simp; try (with_reducible rfl))
                      try simp only [Act.put, List.setIfInBounds_toArray, List.set_cons_zero, List.set_cons_succ]
                      refine wpAnyH_take (i := 14) (oi := ⟨some 42, .binOp .sub 3 (.tmp 41) (.const (.int .i64 1)) 3, 3, "l02_files.go:57", #[⟨13, .data⟩, ⟨10, .guard⟩], some (10, true)⟩) (v := ?v282) rfl (by kernel_rfl) (by kernel_rfl) (by kernel_rfl) (fun _ _ _ h => h) (Or.inl ⟨by rfl, ?hy282⟩) (by assumption) ?rest282
                      case hy282 => (intro w hSw; (try dsimp only at hSw); go_simp; try (with_reducible rfl))
                      try simp only [Act.put, List.setIfInBounds_toArray, List.set_cons_zero, List.set_cons_succ]
                      refine wpAnyH_take (i := 15) (oi := ⟨some 43, .indexAddr 40 (.tmp 40) (.tmp 42), 0, "l02_files.go:57", #[⟨12, .data⟩, ⟨14, .data⟩, ⟨10, .guard⟩], some (10, true)⟩) (v := ?v283) rfl (by kernel_rfl) (by kernel_rfl) (by kernel_rfl) (fun _ _ _ h => h) (Or.inl ⟨by rfl, ?hy283⟩) (by assumption) ?rest283
                      case hy283 => (intro w hSw; (try dsimp only at hSw); go_simp; try (with_reducible rfl))
                      try simp only [Act.put, List.setIfInBounds_toArray, List.set_cons_zero, List.set_cons_succ]
                      refine wpAnyH_take (i := 16) (oi := ⟨some 44, .fieldAddr 171 (.tmp 43) 0, 0, "l02_files.go:57", #[⟨15, .data⟩, ⟨10, .guard⟩], some (10, true)⟩) (v := ?v284) rfl (by kernel_rfl) (by kernel_rfl) (by kernel_rfl) (fun _ _ _ h => h) (Or.inl ⟨by rfl, ?hy284⟩) (by assumption) ?rest284
                      case hy284 => (intro w hSw; (try dsimp only at hSw); go_simp; try (with_reducible rfl))
                      try simp only [Act.put, List.setIfInBounds_toArray, List.set_cons_zero, List.set_cons_succ]
                      refine wpAnyH_take (i := 17) (oi := ⟨some 45, .load 3 (.tmp 44), 3, "l02_files.go:57", #[⟨16, .data⟩, ⟨10, .guard⟩], some (10, true)⟩) (v := ?v285) rfl (by kernel_rfl) (by kernel_rfl) (by kernel_rfl) (fun _ _ _ h => h) (Or.inl ⟨by rfl, ?hy285⟩) (by assumption) ?rest285
                      case hy285 => (intro w hSw; (try dsimp only at hSw); go_simp; try (with_reducible rfl))
                      try simp only [Act.put, List.setIfInBounds_toArray, List.set_cons_zero, List.set_cons_succ]
                      refine wpAnyH_take (i := 18) (oi := ⟨some 46, .fieldAddr 171 (.tmp 5) 0, 0, "l02_files.go:57", #[⟨10, .guard⟩], some (10, true)⟩) (v := ?v286) rfl (by kernel_rfl) (by kernel_rfl) (by kernel_rfl) (fun _ _ _ h => h) (Or.inl ⟨by rfl, ?hy286⟩) (by assumption) ?rest286
                      case hy286 => (intro w hSw; (try dsimp only at hSw); go_simp; try (with_reducible rfl))
                      try simp only [Act.put, List.setIfInBounds_toArray, List.set_cons_zero, List.set_cons_succ]
                      refine wpAnyH_take (i := 19) (oi := ⟨some 47, .load 3 (.tmp 46), 3, "l02_files.go:57", #[⟨18, .data⟩, ⟨10, .guard⟩], some (10, true)⟩) (v := ?v287) rfl (by kernel_rfl) (by kernel_rfl) (by kernel_rfl) (fun _ _ _ h => h) (Or.inl ⟨by rfl, ?hy287⟩) (by assumption) ?rest287
                      case hy287 => (intro w hSw; (try dsimp only at hSw); go_simp; try (with_reducible rfl))
                      try simp only [Act.put, List.setIfInBounds_toArray, List.set_cons_zero, List.set_cons_succ]
                      refine wpAnyH_take (i := 20) (oi := ⟨some 48, .binOp .geq 3 (.tmp 45) (.tmp 47) 3, 4, "l02_files.go:57", #[⟨17, .data⟩, ⟨19, .data⟩, ⟨10, .guard⟩], some (10, true)⟩) (v := ?v288) rfl (by kernel_rfl) (by kernel_rfl) (by kernel_rfl) (fun _ _ _ h => h) (Or.inl ⟨by rfl, ?hy288⟩) (by assumption) ?rest288
                      case hy288 => (intro w hSw; (try dsimp only at hSw); go_simp; try (with_reducible rfl))
                      try simp only [Act.put, List.setIfInBounds_toArray, List.set_cons_zero, List.set_cons_succ]
                      refine wpAnyH_take (i := 21) (oi := ⟨some 49, .pick (.tmp 38) (.tmp 48) (.const (.bool false)), 4, "l02_files.go:57", #[⟨10, .data⟩, ⟨20, .data⟩, ⟨7, .guard⟩], some (7, false)⟩) (v := ?v289) rfl (by kernel_rfl) (by kernel_rfl) (by kernel_rfl) (fun _ _ _ h => h) (Or.inl ⟨by rfl, ?hy289⟩) (by assumption) ?rest289
                      case hy289 => (intro w hSw; (try dsimp only at hSw); go_simp; try (with_reducible rfl))
                      try simp only [Act.put, List.setIfInBounds_toArray, List.set_cons_zero, List.set_cons_succ]
                      refine wpAnyH_take (i := 22) (oi := ⟨some 50, .pick (.tmp 35) (.const (.bool true)) (.tmp 49), 4, "l02_files.go:57", #[⟨7, .data⟩, ⟨21, .data⟩], none⟩) (v := ?v290) rfl (by kernel_rfl) (by kernel_rfl) (by kernel_rfl) (fun _ _ _ h => h) (Or.inl ⟨by rfl, ?hy290⟩) (by assumption) ?rest290
                      case hy290 => (intro w hSw; (try dsimp only at hSw); go_simp; try (with_reducible rfl))
                      try simp only [Act.put, List.setIfInBounds_toArray, List.set_cons_zero, List.set_cons_succ]
                      refine wpAnyH_take (i := 23) (oi := ⟨some 51, .move (.tmp 50), 4, "l02_files.go:57", #[⟨22, .data⟩, ⟨10, .chain⟩], none⟩) (v := ?v291) rfl (by kernel_rfl) (by kernel_rfl) (by kernel_rfl) (fun _ _ _ h => h) (Or.inl ⟨by rfl, ?hy291⟩) (by assumption) ?rest291
                      case hy291 => (intro w hSw; (try dsimp only at hSw); go_simp; try (with_reducible rfl))
                      try simp only [Act.put, List.setIfInBounds_toArray, List.set_cons_zero, List.set_cons_succ]
                      refine wpAnyH_take (i := 24) (oi := ⟨some 52, .fieldAddr 171 (.tmp 5) 2, 0, "l02_files.go:57", #[⟨23, .guard⟩], some (23, false)⟩) (v := ?v292) rfl (by kernel_rfl) (by kernel_rfl) (by kernel_rfl) (fun _ _ _ h => h) (Or.inl ⟨by rfl, ?hy292⟩) (by assumption) ?rest292
                      case hy292 => (intro w hSw; (try dsimp only at hSw); go_simp; try (with_reducible rfl))
                      try simp only [Act.put, List.setIfInBounds_toArray, List.set_cons_zero, List.set_cons_succ]
                      refine wpAnyH_take (i := 25) (oi := ⟨some 53, .load 3 (.tmp 52), 3, "l02_files.go:57", #[⟨24, .data⟩, ⟨23, .guard⟩], some (23, false)⟩) (v := ?v293) rfl (by kernel_rfl) (by kernel_rfl) (by kernel_rfl) (fun _ _ _ h => h) (Or.inl ⟨by rfl, ?hy293⟩) (by assumption) ?rest293
                      case hy293 => (intro w hSw; (try dsimp only at hSw); go_simp; try (with_reducible rfl))
                      try simp only [Act.put, List.setIfInBounds_toArray, List.set_cons_zero, List.set_cons_succ]
                      refine wpAnyH_take (i := 26) (oi := ⟨some 54, .fieldAddr 171 (.tmp 5) 1, 0, "l02_files.go:57", #[⟨23, .guard⟩], some (23, false)⟩) (v := ?v294) rfl (by kernel_rfl) (by kernel_rfl) (by kernel_rfl) (fun _ _ _ h => h) (Or.inl ⟨by rfl, ?hy294⟩) (by assumption) ?rest294
                      case hy294 => (intro w hSw; (try dsimp only at hSw); go_simp; try (with_reducible rfl))
                      try simp only [Act.put, List.setIfInBounds_toArray, List.set_cons_zero, List.set_cons_succ]
                      refine wpAnyH_take (i := 27) (oi := ⟨some 55, .load 22 (.tmp 54), 22, "l02_files.go:57", #[⟨26, .data⟩, ⟨23, .guard⟩], some (23, false)⟩) (v := ?v295) rfl (by kernel_rfl) (by kernel_rfl) (by kernel_rfl) (fun _ _ _ h => h) (Or.inl ⟨by rfl, ?hy295⟩) (by assumption) ?rest295
                      case hy295 => (intro w hSw; (try dsimp only at hSw); go_simp; try (with_reducible rfl))
                      try simp only [Act.put, List.setIfInBounds_toArray, List.set_cons_zero, List.set_cons_succ]
                      refine wpAnyH_take (i := 28) (oi := ⟨some 56, .call { callee := .builtin .len, args := #[.tmp 55], argTypes := #[22] }, 3, "l02_files.go:57", #[⟨27, .data⟩, ⟨23, .guard⟩], some (23, false)⟩) (v := ?v296) rfl (by kernel_rfl) (by kernel_rfl) (by kernel_rfl) (fun _ _ _ h => h) (Or.inl ⟨by rfl, ?hy296⟩) (by assumption) ?rest296
                      case hy296 => (intro w hSw; (try dsimp only at hSw); go_simp; try (with_reducible rfl))
                      try simp only [Act.put, List.setIfInBounds_toArray, List.set_cons_zero, List.set_cons_succ]
                      refine wpAnyH_ready (rs := [29]) (by kernel_rfl) (by simp) ?_
                      refine AllReadyH.cons (o := ⟨some 57, .call { callee := .value (.func 103), args := #[.tmp 53, .const (.int .i64 0), .tmp 56], argTypes := #[3, 3, 3] }, 4, "l02_files.go:57", #[⟨25, .data⟩, ⟨28, .data⟩, ⟨23, .chain⟩, ⟨23, .guard⟩], some (23, false)⟩) rfl (fun K hK => ?_) AllReadyH.nil
                      go_simp
                      refine Calls.mono (l1In_any _ _ _ _) ?_
                      rintro e w2 ⟨rfl, hw2⟩
                      have hx2 := below_same hw2
                      clear hw2
                      (try simp only [e1, e3])
                      go_wp2_with fail
                      refine hK.out _ _ (bthen hHeld hx2) (fun hHeld => ?_)
                      clear hK K
                      try simp only [Act.put, List.setIfInBounds_toArray, List.set_cons_zero, List.set_cons_succ]
                      refine wpAnyH_take (i := 30) (oi := ⟨some 58, .unOp .not 4 (.tmp 57), 4, "l02_files.go:57", #[⟨29, .data⟩, ⟨23, .guard⟩], some (23, false)⟩) (v := ?v297) rfl (by kernel_rfl) (by kernel_rfl) (by kernel_rfl) (fun _ _ _ h => h) (Or.inl ⟨by rfl, ?hy297⟩) (by assumption) ?rest297
                      case hy297 => (intro w hSw; (try dsimp only at hSw); go_simp; try (with_reducible rfl))
                      try simp only [Act.put, List.setIfInBounds_toArray, List.set_cons_zero, List.set_cons_succ]
                      refine wpAnyH_take (i := 31) (oi := ⟨some 59, .pick (.tmp 51) (.const (.bool true)) (.tmp 58), 4, "l02_files.go:57", #[⟨23, .data⟩, ⟨30, .data⟩], none⟩) (v := ?v298) rfl (by kernel_rfl) (by kernel_rfl) (by kernel_rfl) (fun _ _ _ h => h) (Or.inl ⟨by rfl, ?hy298⟩) (by assumption) ?rest298
                      case hy298 => (intro w hSw; (try dsimp only at hSw); go_simp; try (with_reducible rfl))
                      try simp only [Act.put, List.setIfInBounds_toArray, List.set_cons_zero, List.set_cons_succ]
                      refine wpAnyH_take (i := 32) (oi := ⟨some 60, .move (.tmp 59), 4, "l02_files.go:57", #[⟨31, .data⟩, ⟨29, .chain⟩], none⟩) (v := ?v299) rfl (by kernel_rfl) (by kernel_rfl) (by kernel_rfl) (fun _ _ _ h => h) (Or.inl ⟨by rfl, ?hy299⟩) (by assumption) ?rest299
                      case hy299 => (intro w hSw; (try dsimp only at hSw); go_simp; try (with_reducible rfl))
                      try simp only [Act.put, List.setIfInBounds_toArray, List.set_cons_zero, List.set_cons_succ]
                      refine wpAnyH_take (i := 33) (oi := ⟨some 61, .fieldAddr 43 (.tmp 1) 1, 0, "l02_files.go:57", #[⟨32, .guard⟩], some (32, false)⟩) (v := ?v300) rfl (by kernel_rfl) (by kernel_rfl) (by kernel_rfl) (fun _ _ _ h => h) (Or.inl ⟨by rfl, ?hy300⟩) (by assumption) ?rest300
                      case hy300 => (intro w hSw; (try dsimp only at hSw); go_simp; try (with_reducible rfl))
                      try simp only [Act.put, List.setIfInBounds_toArray, List.set_cons_zero, List.set_cons_succ]
                      refine wpAnyH_take (i := 34) (oi := ⟨some 62, .load 41 (.tmp 61), 41, "l02_files.go:57", #[⟨33, .data⟩, ⟨32, .guard⟩], some (32, false)⟩) (v := ?v301) rfl (by kernel_rfl) (by kernel_rfl) (by kernel_rfl) (fun _ _ _ h => h) (Or.inl ⟨by rfl, ?hy301⟩) (by assumption) ?rest301
                      case hy301 => (intro w hSw; (try dsimp only at hSw); go_simp; try (with_reducible rfl))
                      try simp only [Act.put, List.setIfInBounds_toArray, List.set_cons_zero, List.set_cons_succ]
                      refine wpAnyH_take (i := 35) (oi := ⟨some 63, .fieldAddr 171 (.tmp 5) 0, 0, "l02_files.go:57", #[⟨32, .guard⟩], some (32, false)⟩) (v := ?v302) rfl (by kernel_rfl) (by kernel_rfl) (by kernel_rfl) (fun _ _ _ h => h) (Or.inl ⟨by rfl, ?hy302⟩) (by assumption) ?rest302
                      case hy302 => (intro w hSw; (try dsimp only at hSw); go_simp; try (with_reducible rfl))
                      try simp only [Act.put, List.setIfInBounds_toArray, List.set_cons_zero, List.set_cons_succ]
                      refine wpAnyH_take (i := 36) (oi := ⟨some 64, .load 3 (.tmp 63), 3, "l02_files.go:57", #[⟨35, .data⟩, ⟨32, .guard⟩], some (32, false)⟩) (v := ?v303) rfl (by kernel_rfl) (by kernel_rfl) (by kernel_rfl) (fun _ _ _ h => h) (Or.inl ⟨by rfl, ?hy303⟩) (by assumption) ?rest303
                      case hy303 => (intro w hSw; (try dsimp only at hSw); go_simp; try (with_reducible rfl))
                      try simp only [Act.put, List.setIfInBounds_toArray, List.set_cons_zero, List.set_cons_succ]
                      refine wpAnyH_ready (rs := [37]) (by kernel_rfl) (by simp) ?_
                      refine AllReadyH.cons (o := ⟨some 65, .call { callee := .value (.func 175), args := #[.tmp 62, .tmp 64], argTypes := #[41, 3] }, 4, "l02_files.go:57", #[⟨34, .data⟩, ⟨36, .data⟩, ⟨32, .chain⟩, ⟨32, .guard⟩], some (32, false)⟩) rfl (fun K hK => ?_) AllReadyH.nil
                      go_simp
                      refine Calls.mono (hCa _ hHeld) ?_
                      rintro e w3 ⟨rfl, hw3⟩
                      have hx3 := below_same hw3
                      clear hw3
                      go_wp2_with fail
                      refine hK.out _ _ (bthen hHeld hx3) (fun hHeld => ?_)
                      clear hK K
                      try simp only [Act.put, List.setIfInBounds_toArray, List.set_cons_zero, List.set_cons_succ]
                      refine wpAnyH_take (i := 38) (oi := ⟨some 66, .unOp .not 4 (.tmp 65), 4, "l02_files.go:57", #[⟨37, .data⟩, ⟨32, .guard⟩], some (32, false)⟩) (v := ?v304) rfl (by kernel_rfl) (by kernel_rfl) (by kernel_rfl) (fun _ _ _ h => h) (Or.inl ⟨by rfl, ?hy304⟩) (by assumption) ?rest304
                      case hy304 => (intro w hSw; (try dsimp only at hSw); go_simp; try (with_reducible rfl))
                      try simp only [Act.put, List.setIfInBounds_toArray, List.set_cons_zero, List.set_cons_succ]
                      refine wpAnyH_take (i := 39) (oi := ⟨some 67, .move (.tmp 66), 4, "l02_files.go:57", #[⟨38, .data⟩, ⟨37, .chain⟩, ⟨32, .guard⟩], some (32, false)⟩) (v := ?v305) rfl (by kernel_rfl) (by kernel_rfl) (by kernel_rfl) (fun _ _ _ h => h) (Or.inl ⟨by rfl, ?hy305⟩) (by assumption) ?rest305
                      case hy305 => (intro w hSw; (try dsimp only at hSw); go_simp; try (with_reducible rfl))
                      try simp only [Act.put, List.setIfInBounds_toArray, List.set_cons_zero, List.set_cons_succ]
                      refine wpAnyH_take (i := 40) (oi := ⟨some 68, .fieldAddr 43 (.tmp 1) 2, 0, "l02_files.go:57", #[⟨39, .guard⟩], some (39, true)⟩) (v := ?v306) rfl (by kernel_rfl) (by kernel_rfl) (by kernel_rfl) (fun _ _ _ h => h) (Or.inl ⟨by rfl, ?hy306⟩) (by assumption) ?rest306
                      case hy306 => (intro w hSw; (try dsimp only at hSw); go_simp; try (with_reducible rfl))
                      try simp only [Act.put, List.setIfInBounds_toArray, List.set_cons_zero, List.set_cons_succ]
                      refine wpAnyH_take (i := 41) (oi := ⟨some 69, .load 41 (.tmp 68), 41, "l02_files.go:57", #[⟨40, .data⟩, ⟨39, .guard⟩], some (39, true)⟩) (v := ?v307) rfl (by kernel_rfl) (by kernel_rfl) (by kernel_rfl) (fun _ _ _ h => h) (Or.inl ⟨by rfl, ?hy307⟩) (by assumption) ?rest307
                      case hy307 => (intro w hSw; (try dsimp only at hSw); go_simp; try (with_reducible rfl))
                      try simp only [Act.put, List.setIfInBounds_toArray, List.set_cons_zero, List.set_cons_succ]
                      refine wpAnyH_take (i := 42) (oi := ⟨some 70, .fieldAddr 171 (.tmp 5) 0, 0, "l02_files.go:57", #[⟨39, .guard⟩], some (39, true)⟩) (v := ?v308) rfl (by kernel_rfl) (by kernel_rfl) (by kernel_rfl) (fun _ _ _ h => h) (Or.inl ⟨by rfl, ?hy308⟩) (by assumption) ?rest308
                      case hy308 => (intro w hSw; (try dsimp only at hSw); go_simp; try (with_reducible rfl))
                      try simp only [Act.put, List.setIfInBounds_toArray, List.set_cons_zero, List.set_cons_succ]
                      refine wpAnyH_take (i := 43) (oi := ⟨some 71, .load 3 (.tmp 70), 3, "l02_files.go:57", #[⟨42, .data⟩, ⟨39, .guard⟩], some (39, true)⟩) (v := ?v309) rfl (by kernel_rfl) (by kernel_rfl) (by kernel_rfl) (fun _ _ _ h => h) (Or.inl ⟨by rfl, ?hy309⟩) (by assumption) ?rest309
                      case hy309 => (intro w hSw; (try dsimp only at hSw); go_simp; try (with_reducible rfl))
                      try simp only [Act.put, List.setIfInBounds_toArray, List.set_cons_zero, List.set_cons_succ]
                      refine wpAnyH_ready (rs := [44]) (by kernel_rfl) (by simp) ?_
                      refine AllReadyH.cons (o := ⟨some 72, .call { callee := .value (.func 175), args := #[.tmp 69, .tmp 71], argTypes := #[41, 3] }, 4, "l02_files.go:57", #[⟨41, .data⟩, ⟨43, .data⟩, ⟨39, .chain⟩, ⟨39, .guard⟩], some (39, true)⟩) rfl (fun K hK => ?_) AllReadyH.nil
                      go_simp
                      refine Calls.mono (hCb _ hHeld) ?_
                      rintro e w4 ⟨rfl, hw4⟩
                      have hx4 := below_same hw4
                      clear hw4
                      go_wp2_with fail
                      refine hK.out _ _ (bthen hHeld hx4) (fun hHeld => ?_)
                      clear hK K
                      try simp only [Act.put, List.setIfInBounds_toArray, List.set_cons_zero, List.set_cons_succ]
                      refine wpAnyH_take (i := 45) (oi := ⟨some 73, .unOp .not 4 (.tmp 72), 4, "l02_files.go:57", #[⟨44, .data⟩, ⟨39, .guard⟩], some (39, true)⟩) (v := ?v310) rfl (by kernel_rfl) (by kernel_rfl) (by kernel_rfl) (fun _ _ _ h => h) (Or.inl ⟨by rfl, ?hy310⟩) (by assumption) ?rest310
                      case hy310 => (intro w hSw; (try dsimp only at hSw); go_simp; try (with_reducible rfl))
                      try simp only [Act.put, List.setIfInBounds_toArray, List.set_cons_zero, List.set_cons_succ]
                      refine wpAnyH_take (i := 46) (oi := ⟨some 74, .pick (.tmp 67) (.tmp 73) (.const (.bool false)), 4, "l02_files.go:57", #[⟨39, .data⟩, ⟨45, .data⟩, ⟨32, .guard⟩], some (32, false)⟩) (v := ?v311) rfl (by kernel_rfl) (by kernel_rfl) (by kernel_rfl) (fun _ _ _ h => h) (Or.inl ⟨by rfl, ?hy311⟩) (by assumption) ?rest311
                      case hy311 => (intro w hSw; (try dsimp only at hSw); go_simp; try (with_reducible rfl))
                      try simp only [Act.put, List.setIfInBounds_toArray, List.set_cons_zero, List.set_cons_succ]
                      refine wpAnyH_take (i := 47) (oi := ⟨some 75, .pick (.tmp 60) (.const (.bool true)) (.tmp 74), 4, "l02_files.go:57", #[⟨32, .data⟩, ⟨46, .data⟩], none⟩) (v := ?v312) rfl (by kernel_rfl) (by kernel_rfl) (by kernel_rfl) (fun _ _ _ h => h) (Or.inl ⟨by rfl, ?hy312⟩) (by assumption) ?rest312
                      case hy312 => (intro w hSw; (try dsimp only at hSw); go_simp; try (with_reducible rfl))
                      try simp only [Act.put, List.setIfInBounds_toArray, List.set_cons_zero, List.set_cons_succ]
                      refine wpAnyH_done (by kernel_rfl) ?_ _
                      go_wp2_with fail
                      go_ret
                      exact ⟨by rw [HV.out]; rfl, bthen hbW hHeld⟩
                · have e3 : inRange n.fSure 0 n.fData.length = false := inRange_no hSu
                  have HV : Hid (specOk m = false) := HFAIL.out (by rw [HSI.out, HNI.out]; rw [decide_eq_false (by omega)]; rfl)
                  clear HFAIL HGO HSI HNI hSu HSP
                  refine wp_region_held_drew (S := fun W => Below wq.heap.size wq W) (by kernel_rfl) (Below.drew (Below.refl _ _)) (fun hHeld => ?_)
                  refine wpAnyH_take (i := 0) (oi := ⟨some 28, .fieldAddr 171 (.tmp 5) 0, 0, "l02_files.go:57", #[], none⟩) (v := ?v313) rfl (by kernel_rfl) (by kernel_rfl) (by kernel_rfl) (fun _ _ _ h => h) (Or.inl ⟨by rfl, ?hy313⟩) (by assumption) ?rest313
                  case hy313 => (intro w hSw; (try dsimp only at hSw); go_simp; try (with_reducible rfl))
                  try simp only [Act.put, List.setIfInBounds_toArray, List.set_cons_zero, List.set_cons_succ]
                  refine wpAnyH_take (i := 1) (oi := ⟨some 29, .load 3 (.tmp 28), 3, "l02_files.go:57", #[⟨0, .data⟩], none⟩) (v := ?v314) rfl (by kernel_rfl) (by kernel_rfl) (by kernel_rfl) (fun _ _ _ h => h) (Or.inl ⟨by rfl, ?hy314⟩) (by assumption) ?rest314
                  case hy314 => (intro w hSw; (try dsimp only at hSw); go_simp; try (with_reducible rfl))
                  try simp only [Act.put, List.setIfInBounds_toArray, List.set_cons_zero, List.set_cons_succ]
                  refine wpAnyH_take (i := 2) (oi := ⟨some 30, .fieldAddr 43 (.tmp 1) 3, 0, "l02_files.go:57", #[], none⟩) (v := ?v315) rfl (by kernel_rfl) (by kernel_rfl) (by kernel_rfl) (fun _ _ _ h => h) (Or.inl ⟨by rfl, ?hy315⟩) (by assumption) ?rest315
                  case hy315 => (intro w hSw; (try dsimp only at hSw); go_simp; try (with_reducible rfl))
                  try simp only [Act.put, List.setIfInBounds_toArray, List.set_cons_zero, List.set_cons_succ]
                  refine wpAnyH_take (i := 3) (oi := ⟨some 31, .load 3 (.tmp 30), 3, "l02_files.go:57", #[⟨2, .data⟩], none⟩) (v := ?v316) rfl (by kernel_rfl) (by kernel_rfl) (by kernel_rfl) (fun _ _ _ h => h) (Or.inl ⟨by rfl, ?hy316⟩) (by assumption) ?rest316
                  case hy316 => (intro w hSw; (try dsimp only at hSw); go_simp; try (with_reducible rfl))
                  try simp only [Act.put, List.setIfInBounds_toArray, List.set_cons_zero, List.set_cons_succ]
                  refine wpAnyH_take (i := 4) (oi := ⟨some 32, .binOp .sub 3 (.tmp 31) (.const (.int .i64 1)) 3, 3, "l02_files.go:57", #[⟨3, .data⟩], none⟩) (v := ?v317) rfl (by kernel_rfl) (by kernel_rfl) (by kernel_rfl) (fun _ _ _ h => h) (Or.inl ⟨by rfl, ?hy317⟩) (by assumption) ?rest317
                  case hy317 => (intro w hSw; (try dsimp only at hSw); go_simp; try (with_reducible rfl))
                  try simp only [Act.put, List.setIfInBounds_toArray, List.set_cons_zero, List.set_cons_succ]
                  refine wpAnyH_ready (rs := [5]) (by kernel_rfl) (by simp) ?_
                  refine AllReadyH.cons (o := ⟨some 33, .call { callee := .value (.func 103), args := #[.tmp 29, .const (.int .i64 1), .tmp 32], argTypes := #[3, 3, 3] }, 4, "l02_files.go:57", #[⟨1, .data⟩, ⟨4, .data⟩], none⟩) rfl (fun K hK => ?_) AllReadyH.nil
                  go_simp
                  refine Calls.mono (l1In_any _ _ _ _) ?_
                  rintro e w1 ⟨rfl, hw1⟩
                  have hx1 := below_same hw1
                  clear hw1
                  (try simp only [e1, e3])
                  go_wp2_with fail
                  refine hK.out _ _ (bthen hHeld hx1) (fun hHeld => ?_)
                  clear hK K
                  try simp only [Act.put, List.setIfInBounds_toArray, List.set_cons_zero, List.set_cons_succ]
                  refine wpAnyH_take (i := 6) (oi := ⟨some 34, .unOp .not 4 (.tmp 33), 4, "l02_files.go:57", #[⟨5, .data⟩], none⟩) (v := ?v318) rfl (by kernel_rfl) (by kernel_rfl) (by kernel_rfl) (fun _ _ _ h => h) (Or.inl ⟨by rfl, ?hy318⟩) (by assumption) ?rest318
                  case hy318 => (intro w hSw; (try dsimp only at hSw); go_simp; try (with_reducible rfl))
                  try simp only [Act.put, List.setIfInBounds_toArray, List.set_cons_zero, List.set_cons_succ]
                  refine wpAnyH_take (i := 7) (oi := ⟨some 35, .move (.tmp 34), 4, "l02_files.go:57", #[⟨6, .data⟩, ⟨5, .chain⟩], none⟩) (v := ?v319) rfl (by kernel_rfl) (by kernel_rfl) (by kernel_rfl) (fun _ _ _ h => h) (Or.inl ⟨by rfl, ?hy319⟩) (by assumption) ?rest319
                  case hy319 => (intro w hSw; (try dsimp only at hSw); go_simp; try (with_reducible rfl))
                  try simp only [Act.put, List.setIfInBounds_toArray, List.set_cons_zero, List.set_cons_succ]
                  refine wpAnyH_take (i := 8) (oi := ⟨some 36, .move (.tmp 4), 3, "l02_files.go:57", #[⟨7, .guard⟩], some (7, false)⟩) (v := ?v320) rfl (by kernel_rfl) (by kernel_rfl) (by kernel_rfl) (fun _ _ _ h => h) (Or.inl ⟨by rfl, ?hy320⟩) (by assumption) ?rest320
                  case hy320 => (intro w hSw; (try dsimp only at hSw); go_simp; try (with_reducible rfl))
                  try simp only [Act.put, List.setIfInBounds_toArray, List.set_cons_zero, List.set_cons_succ]
                  refine wpAnyH_take (i := 9) (oi := ⟨some 37, .binOp .gtr 3 (.tmp 36) (.const (.int .i64 0)) 3, 4, "l02_files.go:57", #[⟨8, .data⟩, ⟨7, .guard⟩], some (7, false)⟩) (v := ?v321) rfl (by kernel_rfl) (by kernel_rfl) (by kernel_rfl) (fun _ _ _ h => h) (Or.inl ⟨by rfl, ?hy321⟩) (by assumption) ?rest321
                  case hy321 => (intro w hSw; (try dsimp only at hSw); go_simp; try (with_reducible rfl))
                  try simp only [Act.put, List.setIfInBounds_toArray, List.set_cons_zero, List.set_cons_succ]
                  refine wpAnyH_take (i := 10) (oi := ⟨some 38, .move (.tmp 37), 4, "l02_files.go:57", #[⟨9, .data⟩, ⟨7, .chain⟩, ⟨7, .guard⟩], some (7, false)⟩) (v := ?v322) rfl (by kernel_rfl) (by kernel_rfl) (by kernel_rfl) (fun _ _ _ h => h) (Or.inl ⟨by rfl, ?hy322⟩) (by assumption) ?rest322
                  case hy322 => (intro w hSw; (try dsimp only at hSw); go_simp; try (with_reducible rfl))
                  try simp only [Act.put, List.setIfInBounds_toArray, List.set_cons_zero, List.set_cons_succ]
                  refine wpAnyH_take (i := 11) (oi := ⟨some 39, .fieldAddr 43 (.tmp 1) 0, 0, "l02_files.go:57", #[⟨10, .guard⟩], some (10, true)⟩) (v := ?v323) rfl (by kernel_rfl) (by kernel_rfl) (by kernel_rfl) (fun _ _ _ h => h) (Or.inl ⟨by rfl, ?hy323⟩) (by assumption) ?rest323
                  case hy323 => (intro w hSw; (try dsimp only at hSw); go_simp; try (with_reducible rfl))
                  try simp only [Act.put, List.setIfInBounds_toArray, List.set_cons_zero, List.set_cons_succ]
                  refine wpAnyH_take (i := 12) (oi := ⟨some 40, .load 40 (.tmp 39), 40, "l02_files.go:57", #[⟨11, .data⟩, ⟨10, .guard⟩], some (10, true)⟩) (v := ?v324) rfl (by kernel_rfl) (by kernel_rfl) (by kernel_rfl) (fun _ _ _ h => h) (Or.inl ⟨by rfl, ?hy324⟩) (by assumption) ?rest324
                  case hy324 => (intro w hSw; (try dsimp only at hSw); go_simp; try (with_reducible rfl))
                  try simp only [Act.put, List.setIfInBounds_toArray, List.set_cons_zero, List.set_cons_succ]
                  refine wpAnyH_take (i := 13) (oi := ⟨some 41, .move (.tmp 4), 3, "l02_files.go:57", #[⟨10, .guard⟩], some (10, true)⟩) (v := ?v325) rfl (by kernel_rfl) (by kernel_rfl) (by kernel_rfl) (fun _ _ _ h => h) (Or.inl ⟨by rfl, ?hy325⟩) (by assumption) ?rest325
                  case hy325 => (intro w hSw; (try dsimp only at hSw); go_simp; try (with_reducible rfl))
                  try simp only [Act.put, List.setIfInBounds_toArray, List.set_cons_zero, List.set_cons_succ]
                  refine wpAnyH_take (i := 14) (oi := ⟨some 42, .binOp .sub 3 (.tmp 41) (.const (.int .i64 1)) 3, 3, "l02_files.go:57", #[⟨13, .data⟩, ⟨10, .guard⟩], some (10, true)⟩) (v := ?v326) rfl (by kernel_rfl) (by kernel_rfl) (by kernel_rfl) (fun _ _ _ h => h) (Or.inl ⟨by rfl, ?hy326⟩) (by assumption) ?rest326
                  case hy326 => (intro w hSw; (try dsimp only at hSw); go_simp; try (with_reducible rfl))
                  try simp only [Act.put, List.setIfInBounds_toArray, List.set_cons_zero, List.set_cons_succ]
                  refine wpAnyH_take (i := 15) (oi := ⟨some 43, .indexAddr 40 (.tmp 40) (.tmp 42), 0, "l02_files.go:57", #[⟨12, .data⟩, ⟨14, .data⟩, ⟨10, .guard⟩], some (10, true)⟩) (v := ?v327) rfl (by kernel_rfl) (by kernel_rfl) (by kernel_rfl) (fun _ _ _ h => h) (Or.inl ⟨by rfl, ?hy327⟩) (by assumption) ?rest327
                  case hy327 => (intro w hSw; (try dsimp only at hSw); go_simp; try (with_reducible rfl))
                  try simp only [Act.put, List.setIfInBounds_toArray, List.set_cons_zero, List.set_cons_succ]
                  refine wpAnyH_take (i := 16) (oi := ⟨some 44, .fieldAddr 171 (.tmp 43) 0, 0, "l02_files.go:57", #[⟨15, .data⟩, ⟨10, .guard⟩], some (10, true)⟩) (v := ?v328) rfl (by kernel_rfl) (by kernel_rfl) (by kernel_rfl) (fun _ _ _ h => h) (Or.inl ⟨by rfl, ?hy328⟩) (by assumption) ?rest328
                  case hy328 => (intro w hSw; (try dsimp only at hSw); go_simp; try (with_reducible rfl))
                  try simp only [Act.put, List.setIfInBounds_toArray, List.set_cons_zero, List.set_cons_succ]
                  refine wpAnyH_take (i := 17) (oi := ⟨some 45, .load 3 (.tmp 44), 3, "l02_files.go:57", #[⟨16, .data⟩, ⟨10, .guard⟩], some (10, true)⟩) (v := ?v329) rfl (by kernel_rfl) (by kernel_rfl) (by kernel_rfl) (fun _ _ _ h => h) (Or.inl ⟨by rfl, ?hy329⟩) (by assumption) ?rest329
                  case hy329 => (intro w hSw; (try dsimp only at hSw); go_simp; try (with_reducible rfl))
                  try simp only [Act.put, List.setIfInBounds_toArray, List.set_cons_zero, List.set_cons_succ]
                  refine wpAnyH_take (i := 18) (oi := ⟨some 46, .fieldAddr 171 (.tmp 5) 0, 0, "l02_files.go:57", #[⟨10, .guard⟩], some (10, true)⟩) (v := ?v330) rfl (by kernel_rfl) (by kernel_rfl) (by kernel_rfl) (fun _ _ _ h => h) (Or.inl ⟨by rfl, ?hy330⟩) (by assumption) ?rest330
                  case hy330 => (intro w hSw; (try dsimp only at hSw); go_simp; try (with_reducible rfl))
                  try simp only [Act.put, List.setIfInBounds_toArray, List.set_cons_zero, List.set_cons_succ]
                  refine wpAnyH_take (i := 19) (oi := ⟨some 47, .load 3 (.tmp 46), 3, "l02_files.go:57", #[⟨18, .data⟩, ⟨10, .guard⟩], some (10, true)⟩) (v := ?v331) rfl (by kernel_rfl) (by kernel_rfl) (by kernel_rfl) (fun _ _ _ h => h) (Or.inl ⟨by rfl, ?hy331⟩) (by assumption) ?rest331
                  case hy331 => (intro w hSw; (try dsimp only at hSw); go_simp; try (with_reducible rfl))
                  try simp only [Act.put, List.setIfInBounds_toArray, List.set_cons_zero, List.set_cons_succ]
                  refine wpAnyH_take (i := 20) (oi := ⟨some 48, .binOp .geq 3 (.tmp 45) (.tmp 47) 3, 4, "l02_files.go:57", #[⟨17, .data⟩, ⟨19, .data⟩, ⟨10, .guard⟩], some (10, true)⟩) (v := ?v332) rfl (by kernel_rfl) (by kernel_rfl) (by kernel_rfl) (fun _ _ _ h => h) (Or.inl ⟨by rfl, ?hy332⟩) (by assumption) ?rest332
                  case hy332 => (intro w hSw; (try dsimp only at hSw); go_simp; try (with_reducible rfl))
                  try simp only [Act.put, List.setIfInBounds_toArray, List.set_cons_zero, List.set_cons_succ]
                  refine wpAnyH_take (i := 21) (oi := ⟨some 49, .pick (.tmp 38) (.tmp 48) (.const (.bool false)), 4, "l02_files.go:57", #[⟨10, .data⟩, ⟨20, .data⟩, ⟨7, .guard⟩], some (7, false)⟩) (v := ?v333) rfl (by kernel_rfl) (by kernel_rfl) (by kernel_rfl) (fun _ _ _ h => h) (Or.inl ⟨by rfl, ?hy333⟩) (by assumption) ?rest333
                  case hy333 => (intro w hSw; (try dsimp only at hSw); go_simp; try (with_reducible rfl))
                  try simp only [Act.put, List.setIfInBounds_toArray, List.set_cons_zero, List.set_cons_succ]
                  refine wpAnyH_take (i := 22) (oi := ⟨some 50, .pick (.tmp 35) (.const (.bool true)) (.tmp 49), 4, "l02_files.go:57", #[⟨7, .data⟩, ⟨21, .data⟩], none⟩) (v := ?v334) rfl (by kernel_rfl) (by kernel_rfl) (by kernel_rfl) (fun _ _ _ h => h) (Or.inl ⟨by rfl, ?hy334⟩) (by assumption) ?rest334
                  case hy334 => (intro w hSw; (try dsimp only at hSw); go_simp; try (with_reducible rfl))
                  try simp only [Act.put, List.setIfInBounds_toArray, List.set_cons_zero, List.set_cons_succ]
                  refine wpAnyH_take (i := 23) (oi := ⟨some 51, .move (.tmp 50), 4, "l02_files.go:57", #[⟨22, .data⟩, ⟨10, .chain⟩], none⟩) (v := ?v335) rfl (by kernel_rfl) (by kernel_rfl) (by kernel_rfl) (fun _ _ _ h => h) (Or.inl ⟨by rfl, ?hy335⟩) (by assumption) ?rest335
                  case hy335 => (intro w hSw; (try dsimp only at hSw); go_simp; try (with_reducible rfl))
                  try simp only [Act.put, List.setIfInBounds_toArray, List.set_cons_zero, List.set_cons_succ]
                  refine wpAnyH_take (i := 24) (oi := ⟨some 52, .fieldAddr 171 (.tmp 5) 2, 0, "l02_files.go:57", #[⟨23, .guard⟩], some (23, false)⟩) (v := ?v336) rfl (by kernel_rfl) (by kernel_rfl) (by kernel_rfl) (fun _ _ _ h => h) (Or.inl ⟨by rfl, ?hy336⟩) (by assumption) ?rest336
                  case hy336 => (intro w hSw; (try dsimp only at hSw); go_simp; try (with_reducible rfl))
                  try simp only [Act.put, List.setIfInBounds_toArray, List.set_cons_zero, List.set_cons_succ]
                  refine wpAnyH_take (i := 25) (oi := ⟨some 53, .load 3 (.tmp 52), 3, "l02_files.go:57", #[⟨24, .data⟩, ⟨23, .guard⟩], some (23, false)⟩) (v := ?v337) rfl (by kernel_rfl) (by kernel_rfl) (by kernel_rfl) (fun _ _ _ h => h) (Or.inl ⟨by rfl, ?hy337⟩) (by assumption) ?rest337
                  case hy337 => (intro w hSw; (try dsimp only at hSw); go_simp; try (with_reducible rfl))
                  try simp only [Act.put, List.setIfInBounds_toArray, List.set_cons_zero, List.set_cons_succ]
                  refine wpAnyH_take (i := 26) (oi := ⟨some 54, .fieldAddr 171 (.tmp 5) 1, 0, "l02_files.go:57", #[⟨23, .guard⟩], some (23, false)⟩) (v := ?v338) rfl (by kernel_rfl) (by kernel_rfl) (by kernel_rfl) (fun _ _ _ h => h) (Or.inl ⟨by rfl, ?hy338⟩) (by assumption) ?rest338
                  case hy338 => (intro w hSw; (try dsimp only at hSw); go_simp; try (with_reducible rfl))
                  try simp only [Act.put, List.setIfInBounds_toArray, List.set_cons_zero, List.set_cons_succ]
                  refine wpAnyH_take (i := 27) (oi := ⟨some 55, .load 22 (.tmp 54), 22, "l02_files.go:57", #[⟨26, .data⟩, ⟨23, .guard⟩], some (23, false)⟩) (v := ?v339) rfl (by kernel_rfl) (by kernel_rfl) (by kernel_rfl) (fun _ _ _ h => h) (Or.inl ⟨by rfl, ?hy339⟩) (by assumption) ?rest339
                  case hy339 => (intro w hSw; (try dsimp only at hSw); go_simp; try (with_reducible rfl))
                  try simp only [Act.put, List.setIfInBounds_toArray, List.set_cons_zero, List.set_cons_succ]
                  refine wpAnyH_take (i := 28) (oi := ⟨some 56, .call { callee := .builtin .len, args := #[.tmp 55], argTypes := #[22] }, 3, "l02_files.go:57", #[⟨27, .data⟩, ⟨23, .guard⟩], some (23, false)⟩) (v := ?v340) rfl (by kernel_rfl) (by kernel_rfl) (by kernel_rfl) (fun _ _ _ h => h) (Or.inl ⟨by rfl, ?hy340⟩) (by assumption) ?rest340
                  case hy340 => (intro w hSw; (try dsimp only at hSw); go_simp; try (with_reducible rfl))
                  try simp only [Act.put, List.setIfInBounds_toArray, List.set_cons_zero, List.set_cons_succ]
                  refine wpAnyH_ready (rs := [29]) (by kernel_rfl) (by simp) ?_
                  refine AllReadyH.cons (o := ⟨some 57, .call { callee := .value (.func 103), args := #[.tmp 53, .const (.int .i64 0), .tmp 56], argTypes := #[3, 3, 3] }, 4, "l02_files.go:57", #[⟨25, .data⟩, ⟨28, .data⟩, ⟨23, .chain⟩, ⟨23, .guard⟩], some (23, false)⟩) rfl (fun K hK => ?_) AllReadyH.nil
                  go_simp
                  refine Calls.mono (l1In_any _ _ _ _) ?_
                  rintro e w2 ⟨rfl, hw2⟩
                  have hx2 := below_same hw2
                  clear hw2
                  (try simp only [e1, e3])
                  go_wp2_with fail
                  refine hK.out _ _ (bthen hHeld hx2) (fun hHeld => ?_)
                  clear hK K
                  try simp only [Act.put, List.setIfInBounds_toArray, List.set_cons_zero, List.set_cons_succ]
                  refine wpAnyH_take (i := 30) (oi := ⟨some 58, .unOp .not 4 (.tmp 57), 4, "l02_files.go:57", #[⟨29, .data⟩, ⟨23, .guard⟩], some (23, false)⟩) (v := ?v341) rfl (by kernel_rfl) (by kernel_rfl) (by kernel_rfl) (fun _ _ _ h => h) (Or.inl ⟨by rfl, ?hy341⟩) (by assumption) ?rest341
                  case hy341 => (intro w hSw; (try dsimp only at hSw); go_simp; try (with_reducible rfl))
                  try simp only [Act.put, List.setIfInBounds_toArray, List.set_cons_zero, List.set_cons_succ]
                  refine wpAnyH_take (i := 31) (oi := ⟨some 59, .pick (.tmp 51) (.const (.bool true)) (.tmp 58), 4, "l02_files.go:57", #[⟨23, .data⟩, ⟨30, .data⟩], none⟩) (v := ?v342) rfl (by kernel_rfl) (by kernel_rfl) (by kernel_rfl) (fun _ _ _ h => h) (Or.inl ⟨by rfl, ?hy342⟩) (by assumption) ?rest342
                  case hy342 => (intro w hSw; (try dsimp only at hSw); go_simp; try (with_reducible rfl))
                  try simp only [Act.put, List.setIfInBounds_toArray, List.set_cons_zero, List.set_cons_succ]
                  refine wpAnyH_take (i := 32) (oi := ⟨some 60, .move (.tmp 59), 4, "l02_files.go:57", #[⟨31, .data⟩, ⟨29, .chain⟩], none⟩) (v := ?v343) rfl (by kernel_rfl) (by kernel_rfl) (by kernel_rfl) (fun _ _ _ h => h) (Or.inl ⟨by rfl, ?hy343⟩) (by assumption) ?rest343
                  case hy343 => (intro w hSw; (try dsimp only at hSw); go_simp; try (with_reducible rfl))
                  try simp only [Act.put, List.setIfInBounds_toArray, List.set_cons_zero, List.set_cons_succ]
                  refine wpAnyH_take (i := 33) (oi := ⟨some 61, .fieldAddr 43 (.tmp 1) 1, 0, "l02_files.go:57", #[⟨32, .guard⟩], some (32, false)⟩) (v := undef) rfl (by kernel_rfl) (by kernel_rfl) (by kernel_rfl) (fun _ _ _ h => h) (Or.inr ⟨by rfl, rfl⟩) (by assumption) ?rest344
                  try simp only [Act.put, List.setIfInBounds_toArray, List.set_cons_zero, List.set_cons_succ]
                  refine wpAnyH_take (i := 34) (oi := ⟨some 62, .load 41 (.tmp 61), 41, "l02_files.go:57", #[⟨33, .data⟩, ⟨32, .guard⟩], some (32, false)⟩) (v := undef) rfl (by kernel_rfl) (by kernel_rfl) (by kernel_rfl) (fun _ _ _ h => h) (Or.inr ⟨by rfl, rfl⟩) (by assumption) ?rest345
                  try simp only [Act.put, List.setIfInBounds_toArray, List.set_cons_zero, List.set_cons_succ]
                  refine wpAnyH_take (i := 35) (oi := ⟨some 63, .fieldAddr 171 (.tmp 5) 0, 0, "l02_files.go:57", #[⟨32, .guard⟩], some (32, false)⟩) (v := undef) rfl (by kernel_rfl) (by kernel_rfl) (by kernel_rfl) (fun _ _ _ h => h) (Or.inr ⟨by rfl, rfl⟩) (by assumption) ?rest346
                  try simp only [Act.put, List.setIfInBounds_toArray, List.set_cons_zero, List.set_cons_succ]
                  refine wpAnyH_take (i := 36) (oi := ⟨some 64, .load 3 (.tmp 63), 3, "l02_files.go:57", #[⟨35, .data⟩, ⟨32, .guard⟩], some (32, false)⟩) (v := undef) rfl (by kernel_rfl) (by kernel_rfl) (by kernel_rfl) (fun _ _ _ h => h) (Or.inr ⟨by rfl, rfl⟩) (by assumption) ?rest347
                  try simp only [Act.put, List.setIfInBounds_toArray, List.set_cons_zero, List.set_cons_succ]
                  refine wpAnyH_take (i := 37) (oi := ⟨some 65, .call { callee := .value (.func 175), args := #[.tmp 62, .tmp 64], argTypes := #[41, 3] }, 4, "l02_files.go:57", #[⟨34, .data⟩, ⟨36, .data⟩, ⟨32, .chain⟩, ⟨32, .guard⟩], some (32, false)⟩) (v := undef) rfl (by kernel_rfl) (by kernel_rfl) (by kernel_rfl) (fun _ _ _ h => h) (Or.inr ⟨by rfl, rfl⟩) (by assumption) ?rest348
                  try simp only [Act.put, List.setIfInBounds_toArray, List.set_cons_zero, List.set_cons_succ]
                  refine wpAnyH_take (i := 38) (oi := ⟨some 66, .unOp .not 4 (.tmp 65), 4, "l02_files.go:57", #[⟨37, .data⟩, ⟨32, .guard⟩], some (32, false)⟩) (v := undef) rfl (by kernel_rfl) (by kernel_rfl) (by kernel_rfl) (fun _ _ _ h => h) (Or.inr ⟨by rfl, rfl⟩) (by assumption) ?rest349
                  try simp only [Act.put, List.setIfInBounds_toArray, List.set_cons_zero, List.set_cons_succ]
                  refine wpAnyH_take (i := 39) (oi := ⟨some 67, .move (.tmp 66), 4, "l02_files.go:57", #[⟨38, .data⟩, ⟨37, .chain⟩, ⟨32, .guard⟩], some (32, false)⟩) (v := undef) rfl (by kernel_rfl) (by kernel_rfl) (by kernel_rfl) (fun _ _ _ h => h) (Or.inr ⟨by rfl, rfl⟩) (by assumption) ?rest350
                  try simp only [Act.put, List.setIfInBounds_toArray, List.set_cons_zero, List.set_cons_succ]
                  refine wpAnyH_take (i := 40) (oi := ⟨some 68, .fieldAddr 43 (.tmp 1) 2, 0, "l02_files.go:57", #[⟨39, .guard⟩], some (39, true)⟩) (v := undef) rfl (by kernel_rfl) (by kernel_rfl) (by kernel_rfl) (fun _ _ _ h => h) (Or.inr ⟨by rfl, rfl⟩) (by assumption) ?rest351
                  try simp only [Act.put, List.setIfInBounds_toArray, List.set_cons_zero, List.set_cons_succ]
                  refine wpAnyH_take (i := 41) (oi := ⟨some 69, .load 41 (.tmp 68), 41, "l02_files.go:57", #[⟨40, .data⟩, ⟨39, .guard⟩], some (39, true)⟩) (v := undef) rfl (by kernel_rfl) (by kernel_rfl) (by kernel_rfl) (fun _ _ _ h => h) (Or.inr ⟨by rfl, rfl⟩) (by assumption) ?rest352
                  try simp only [Act.put, List.setIfInBounds_toArray, List.set_cons_zero, List.set_cons_succ]
                  refine wpAnyH_take (i := 42) (oi := ⟨some 70, .fieldAddr 171 (.tmp 5) 0, 0, "l02_files.go:57", #[⟨39, .guard⟩], some (39, true)⟩) (v := undef) rfl (by kernel_rfl) (by kernel_rfl) (by kernel_rfl) (fun _ _ _ h => h) (Or.inr ⟨by rfl, rfl⟩) (by assumption) ?rest353
                  try simp only [Act.put, List.setIfInBounds_toArray, List.set_cons_zero, List.set_cons_succ]
                  refine wpAnyH_take (i := 43) (oi := ⟨some 71, .load 3 (.tmp 70), 3, "l02_files.go:57", #[⟨42, .data⟩, ⟨39, .guard⟩], some (39, true)⟩) (v := undef) rfl (by kernel_rfl) (by kernel_rfl) (by kernel_rfl) (fun _ _ _ h => h) (Or.inr ⟨by rfl, rfl⟩) (by assumption) ?rest354
                  try simp only [Act.put, List.setIfInBounds_toArray, List.set_cons_zero, List.set_cons_succ]
                  refine wpAnyH_take (i := 44) (oi := ⟨some 72, .call { callee := .value (.func 175), args := #[.tmp 69, .tmp 71], argTypes := #[41, 3] }, 4, "l02_files.go:57", #[⟨41, .data⟩, ⟨43, .data⟩, ⟨39, .chain⟩, ⟨39, .guard⟩], some (39, true)⟩) (v := undef) rfl (by kernel_rfl) (by kernel_rfl) (by kernel_rfl) (fun _ _ _ h => h) (Or.inr ⟨by rfl, rfl⟩) (by assumption) ?rest355
                  try simp only [Act.put, List.setIfInBounds_toArray, List.set_cons_zero, List.set_cons_succ]
                  refine wpAnyH_take (i := 45) (oi := ⟨some 73, .unOp .not 4 (.tmp 72), 4, "l02_files.go:57", #[⟨44, .data⟩, ⟨39, .guard⟩], some (39, true)⟩) (v := undef) rfl (by kernel_rfl) (by kernel_rfl) (by kernel_rfl) (fun _ _ _ h => h) (Or.inr ⟨by rfl, rfl⟩) (by assumption) ?rest356
                  try simp only [Act.put, List.setIfInBounds_toArray, List.set_cons_zero, List.set_cons_succ]
                  refine wpAnyH_take (i := 46) (oi := ⟨some 74, .pick (.tmp 67) (.tmp 73) (.const (.bool false)), 4, "l02_files.go:57", #[⟨39, .data⟩, ⟨45, .data⟩, ⟨32, .guard⟩], some (32, false)⟩) (v := undef) rfl (by kernel_rfl) (by kernel_rfl) (by kernel_rfl) (fun _ _ _ h => h) (Or.inr ⟨by rfl, rfl⟩) (by assumption) ?rest357
                  try simp only [Act.put, List.setIfInBounds_toArray, List.set_cons_zero, List.set_cons_succ]
                  refine wpAnyH_take (i := 47) (oi := ⟨some 75, .pick (.tmp 60) (.const (.bool true)) (.tmp 74), 4, "l02_files.go:57", #[⟨32, .data⟩, ⟨46, .data⟩], none⟩) (v := ?v358) rfl (by kernel_rfl) (by kernel_rfl) (by kernel_rfl) (fun _ _ _ h => h) (Or.inl ⟨by rfl, ?hy358⟩) (by assumption) ?rest358
                  case hy358 => (intro w hSw; (try dsimp only at hSw); go_simp; try (with_reducible rfl))
                  try simp only [Act.put, List.setIfInBounds_toArray, List.set_cons_zero, List.set_cons_succ]
                  refine wpAnyH_done (by kernel_rfl) ?_ _
                  go_wp2_with fail
                  go_ret
                  exact ⟨by rw [HV.out]; rfl, bthen hbW hHeld⟩
              · have hp2 : n.fId ≤ pv := by omega
                have HV : Hid (specOk m = false) := HFAIL.out (by rw [HSI.out, HNI.out]; rw [decide_eq_false (by omega)]; rfl)
                have e3 := e1
                clear HFAIL HGO HSI HNI hp HSP
                refine wp_region_held_drew (S := fun W => Below wq.heap.size wq W) (by kernel_rfl) (Below.drew (Below.refl _ _)) (fun hHeld => ?_)
                refine wpAnyH_take (i := 0) (oi := ⟨some 28, .fieldAddr 171 (.tmp 5) 0, 0, "l02_files.go:57", #[], none⟩) (v := ?v359) rfl (by kernel_rfl) (by kernel_rfl) (by kernel_rfl) (fun _ _ _ h => h) (Or.inl ⟨by rfl, ?hy359⟩) (by assumption) ?rest359
                case hy359 => (intro w hSw; (try dsimp only at hSw); go_simp; try (with_reducible rfl))
                try simp only [Act.put, List.setIfInBounds_toArray, List.set_cons_zero, List.set_cons_succ]
                refine wpAnyH_take (i := 1) (oi := ⟨some 29, .load 3 (.tmp 28), 3, "l02_files.go:57", #[⟨0, .data⟩], none⟩) (v := ?v360) rfl (by kernel_rfl) (by kernel_rfl) (by kernel_rfl) (fun _ _ _ h => h) (Or.inl ⟨by rfl, ?hy360⟩) (by assumption) ?rest360
                case hy360 => (intro w hSw; (try dsimp only at hSw); go_simp; try (with_reducible rfl))
                try simp only [Act.put, List.setIfInBounds_toArray, List.set_cons_zero, List.set_cons_succ]
                refine wpAnyH_take (i := 2) (oi := ⟨some 30, .fieldAddr 43 (.tmp 1) 3, 0, "l02_files.go:57", #[], none⟩) (v := ?v361) rfl (by kernel_rfl) (by kernel_rfl) (by kernel_rfl) (fun _ _ _ h => h) (Or.inl ⟨by rfl, ?hy361⟩) (by assumption) ?rest361
                case hy361 => (intro w hSw; (try dsimp only at hSw); go_simp; try (with_reducible rfl))
                try simp only [Act.put, List.setIfInBounds_toArray, List.set_cons_zero, List.set_cons_succ]
                refine wpAnyH_take (i := 3) (oi := ⟨some 31, .load 3 (.tmp 30), 3, "l02_files.go:57", #[⟨2, .data⟩], none⟩) (v := ?v362) rfl (by kernel_rfl) (by kernel_rfl) (by kernel_rfl) (fun _ _ _ h => h) (Or.inl ⟨by rfl, ?hy362⟩) (by assumption) ?rest362
                case hy362 => (intro w hSw; (try dsimp only at hSw); go_simp; try (with_reducible rfl))
                try simp only [Act.put, List.setIfInBounds_toArray, List.set_cons_zero, List.set_cons_succ]
                refine wpAnyH_take (i := 4) (oi := ⟨some 32, .binOp .sub 3 (.tmp 31) (.const (.int .i64 1)) 3, 3, "l02_files.go:57", #[⟨3, .data⟩], none⟩) (v := ?v363) rfl (by kernel_rfl) (by kernel_rfl) (by kernel_rfl) (fun _ _ _ h => h) (Or.inl ⟨by rfl, ?hy363⟩) (by assumption) ?rest363
                case hy363 => (intro w hSw; (try dsimp only at hSw); go_simp; try (with_reducible rfl))
                try simp only [Act.put, List.setIfInBounds_toArray, List.set_cons_zero, List.set_cons_succ]
                refine wpAnyH_ready (rs := [5]) (by kernel_rfl) (by simp) ?_
                refine AllReadyH.cons (o := ⟨some 33, .call { callee := .value (.func 103), args := #[.tmp 29, .const (.int .i64 1), .tmp 32], argTypes := #[3, 3, 3] }, 4, "l02_files.go:57", #[⟨1, .data⟩, ⟨4, .data⟩], none⟩) rfl (fun K hK => ?_) AllReadyH.nil
                go_simp
                refine Calls.mono (l1In_any _ _ _ _) ?_
                rintro e w1 ⟨rfl, hw1⟩
                have hx1 := below_same hw1
                clear hw1
                (try simp only [e1, e3])
                go_wp2_with fail
                refine hK.out _ _ (bthen hHeld hx1) (fun hHeld => ?_)
                clear hK K
                try simp only [Act.put, List.setIfInBounds_toArray, List.set_cons_zero, List.set_cons_succ]
                refine wpAnyH_take (i := 6) (oi := ⟨some 34, .unOp .not 4 (.tmp 33), 4, "l02_files.go:57", #[⟨5, .data⟩], none⟩) (v := ?v364) rfl (by kernel_rfl) (by kernel_rfl) (by kernel_rfl) (fun _ _ _ h => h) (Or.inl ⟨by rfl, ?hy364⟩) (by assumption) ?rest364
                case hy364 => (intro w hSw; (try dsimp only at hSw); go_simp; try (with_reducible rfl))
                try simp only [Act.put, List.setIfInBounds_toArray, List.set_cons_zero, List.set_cons_succ]
                refine wpAnyH_take (i := 7) (oi := ⟨some 35, .move (.tmp 34), 4, "l02_files.go:57", #[⟨6, .data⟩, ⟨5, .chain⟩], none⟩) (v := ?v365) rfl (by kernel_rfl) (by kernel_rfl) (by kernel_rfl) (fun _ _ _ h => h) (Or.inl ⟨by rfl, ?hy365⟩) (by assumption) ?rest365
                case hy365 => (intro w hSw; (try dsimp only at hSw); go_simp; try (with_reducible rfl))
                try simp only [Act.put, List.setIfInBounds_toArray, List.set_cons_zero, List.set_cons_succ]
                refine wpAnyH_take (i := 8) (oi := ⟨some 36, .move (.tmp 4), 3, "l02_files.go:57", #[⟨7, .guard⟩], some (7, false)⟩) (v := ?v366) rfl (by kernel_rfl) (by kernel_rfl) (by kernel_rfl) (fun _ _ _ h => h) (Or.inl ⟨by rfl, ?hy366⟩) (by assumption) ?rest366
                case hy366 => (intro w hSw; (try dsimp only at hSw); go_simp; try (with_reducible rfl))
                try simp only [Act.put, List.setIfInBounds_toArray, List.set_cons_zero, List.set_cons_succ]
                refine wpAnyH_take (i := 9) (oi := ⟨some 37, .binOp .gtr 3 (.tmp 36) (.const (.int .i64 0)) 3, 4, "l02_files.go:57", #[⟨8, .data⟩, ⟨7, .guard⟩], some (7, false)⟩) (v := ?v367) rfl (by kernel_rfl) (by kernel_rfl) (by kernel_rfl) (fun _ _ _ h => h) (Or.inl ⟨by rfl, ?hy367⟩) (by assumption) ?rest367
                case hy367 => (intro w hSw; (try dsimp only at hSw); go_simp; try (with_reducible rfl))
                try simp only [Act.put, List.setIfInBounds_toArray, List.set_cons_zero, List.set_cons_succ]
                refine wpAnyH_take (i := 10) (oi := ⟨some 38, .move (.tmp 37), 4, "l02_files.go:57", #[⟨9, .data⟩, ⟨7, .chain⟩, ⟨7, .guard⟩], some (7, false)⟩) (v := ?v368) rfl (by kernel_rfl) (by kernel_rfl) (by kernel_rfl) (fun _ _ _ h => h) (Or.inl ⟨by rfl, ?hy368⟩) (by assumption) ?rest368
                case hy368 => (intro w hSw; (try dsimp only at hSw); go_simp; try (with_reducible rfl))
                try simp only [Act.put, List.setIfInBounds_toArray, List.set_cons_zero, List.set_cons_succ]
                refine wpAnyH_take (i := 11) (oi := ⟨some 39, .fieldAddr 43 (.tmp 1) 0, 0, "l02_files.go:57", #[⟨10, .guard⟩], some (10, true)⟩) (v := ?v369) rfl (by kernel_rfl) (by kernel_rfl) (by kernel_rfl) (fun _ _ _ h => h) (Or.inl ⟨by rfl, ?hy369⟩) (by assumption) ?rest369
                case hy369 => (intro w hSw; (try dsimp only at hSw); go_simp; try (with_reducible rfl))
                try simp only [Act.put, List.setIfInBounds_toArray, List.set_cons_zero, List.set_cons_succ]
                refine wpAnyH_take (i := 12) (oi := ⟨some 40, .load 40 (.tmp 39), 40, "l02_files.go:57", #[⟨11, .data⟩, ⟨10, .guard⟩], some (10, true)⟩) (v := ?v370) rfl (by kernel_rfl) (by kernel_rfl) (by kernel_rfl) (fun _ _ _ h => h) (Or.inl ⟨by rfl, ?hy370⟩) (by assumption) ?rest370
                case hy370 => (intro w hSw; (try dsimp only at hSw); go_simp; try (with_reducible rfl))
                try simp only [Act.put, List.setIfInBounds_toArray, List.set_cons_zero, List.set_cons_succ]
                refine wpAnyH_take (i := 13) (oi := ⟨some 41, .move (.tmp 4), 3, "l02_files.go:57", #[⟨10, .guard⟩], some (10, true)⟩) (v := ?v371) rfl (by kernel_rfl) (by kernel_rfl) (by kernel_rfl) (fun _ _ _ h => h) (Or.inl ⟨by rfl, ?hy371⟩) (by assumption) ?rest371
                case hy371 => (intro w hSw; (try dsimp only at hSw); go_simp; try (with_reducible rfl))
                try simp only [Act.put, List.setIfInBounds_toArray, List.set_cons_zero, List.set_cons_succ]
                refine wpAnyH_take (i := 14) (oi := ⟨some 42, .binOp .sub 3 (.tmp 41) (.const (.int .i64 1)) 3, 3, "l02_files.go:57", #[⟨13, .data⟩, ⟨10, .guard⟩], some (10, true)⟩) (v := ?v372) rfl (by kernel_rfl) (by kernel_rfl) (by kernel_rfl) (fun _ _ _ h => h) (Or.inl ⟨by rfl, ?hy372⟩) (by assumption) ?rest372
                case hy372 => (intro w hSw; (try dsimp only at hSw); go_simp; try (with_reducible rfl))
                try simp only [Act.put, List.setIfInBounds_toArray, List.set_cons_zero, List.set_cons_succ]
                refine wpAnyH_take (i := 15) (oi := ⟨some 43, .indexAddr 40 (.tmp 40) (.tmp 42), 0, "l02_files.go:57", #[⟨12, .data⟩, ⟨14, .data⟩, ⟨10, .guard⟩], some (10, true)⟩) (v := ?v373) rfl (by kernel_rfl) (by kernel_rfl) (by kernel_rfl) (fun _ _ _ h => h) (Or.inl ⟨by rfl, ?hy373⟩) (by assumption) ?rest373
                case hy373 => (intro w hSw; (try dsimp only at hSw); go_simp; try (with_reducible rfl))
                try simp only [Act.put, List.setIfInBounds_toArray, List.set_cons_zero, List.set_cons_succ]
                refine wpAnyH_take (i := 16) (oi := ⟨some 44, .fieldAddr 171 (.tmp 43) 0, 0, "l02_files.go:57", #[⟨15, .data⟩, ⟨10, .guard⟩], some (10, true)⟩) (v := ?v374) rfl (by kernel_rfl) (by kernel_rfl) (by kernel_rfl) (fun _ _ _ h => h) (Or.inl ⟨by rfl, ?hy374⟩) (by assumption) ?rest374
                case hy374 => (intro w hSw; (try dsimp only at hSw); go_simp; try (with_reducible rfl))
                try simp only [Act.put, List.setIfInBounds_toArray, List.set_cons_zero, List.set_cons_succ]
                refine wpAnyH_take (i := 17) (oi := ⟨some 45, .load 3 (.tmp 44), 3, "l02_files.go:57", #[⟨16, .data⟩, ⟨10, .guard⟩], some (10, true)⟩) (v := ?v375) rfl (by kernel_rfl) (by kernel_rfl) (by kernel_rfl) (fun _ _ _ h => h) (Or.inl ⟨by rfl, ?hy375⟩) (by assumption) ?rest375
                case hy375 => (intro w hSw; (try dsimp only at hSw); go_simp; try (with_reducible rfl))
                try simp only [Act.put, List.setIfInBounds_toArray, List.set_cons_zero, List.set_cons_succ]
                refine wpAnyH_take (i := 18) (oi := ⟨some 46, .fieldAddr 171 (.tmp 5) 0, 0, "l02_files.go:57", #[⟨10, .guard⟩], some (10, true)⟩) (v := ?v376) rfl (by kernel_rfl) (by kernel_rfl) (by kernel_rfl) (fun _ _ _ h => h) (Or.inl ⟨by rfl, ?hy376⟩) (by assumption) ?rest376
                case hy376 => (intro w hSw; (try dsimp only at hSw); go_simp; try (with_reducible rfl))
                try simp only [Act.put, List.setIfInBounds_toArray, List.set_cons_zero, List.set_cons_succ]
                refine wpAnyH_take (i := 19) (oi := ⟨some 47, .load 3 (.tmp 46), 3, "l02_files.go:57", #[⟨18, .data⟩, ⟨10, .guard⟩], some (10, true)⟩) (v := ?v377) rfl (by kernel_rfl) (by kernel_rfl) (by kernel_rfl) (fun _ _ _ h => h) (Or.inl ⟨by rfl, ?hy377⟩) (by assumption) ?rest377
                case hy377 => (intro w hSw; (try dsimp only at hSw); go_simp; try (with_reducible rfl))
                try simp only [Act.put, List.setIfInBounds_toArray, List.set_cons_zero, List.set_cons_succ]
                refine wpAnyH_take (i := 20) (oi := ⟨some 48, .binOp .geq 3 (.tmp 45) (.tmp 47) 3, 4, "l02_files.go:57", #[⟨17, .data⟩, ⟨19, .data⟩, ⟨10, .guard⟩], some (10, true)⟩) (v := ?v378) rfl (by kernel_rfl) (by kernel_rfl) (by kernel_rfl) (fun _ _ _ h => h) (Or.inl ⟨by rfl, ?hy378⟩) (by assumption) ?rest378
                case hy378 => (intro w hSw; (try dsimp only at hSw); go_simp; try (with_reducible rfl))
                try simp only [Act.put, List.setIfInBounds_toArray, List.set_cons_zero, List.set_cons_succ]
                refine wpAnyH_take (i := 21) (oi := ⟨some 49, .pick (.tmp 38) (.tmp 48) (.const (.bool false)), 4, "l02_files.go:57", #[⟨10, .data⟩, ⟨20, .data⟩, ⟨7, .guard⟩], some (7, false)⟩) (v := ?v379) rfl (by kernel_rfl) (by kernel_rfl) (by kernel_rfl) (fun _ _ _ h => h) (Or.inl ⟨by rfl, ?hy379⟩) (by assumption) ?rest379
                case hy379 => (intro w hSw; (try dsimp only at hSw); go_simp; try (with_reducible rfl))
                try simp only [Act.put, List.setIfInBounds_toArray, List.set_cons_zero, List.set_cons_succ]
                refine wpAnyH_take (i := 22) (oi := ⟨some 50, .pick (.tmp 35) (.const (.bool true)) (.tmp 49), 4, "l02_files.go:57", #[⟨7, .data⟩, ⟨21, .data⟩], none⟩) (v := ?v380) rfl (by kernel_rfl) (by kernel_rfl) (by kernel_rfl) (fun _ _ _ h => h) (Or.inl ⟨by rfl, ?hy380⟩) (by assumption) ?rest380
                case hy380 => (intro w hSw; (try dsimp only at hSw); go_simp; try (with_reducible rfl))
                try simp only [Act.put, List.setIfInBounds_toArray, List.set_cons_zero, List.set_cons_succ]
                refine wpAnyH_take (i := 23) (oi := ⟨some 51, .move (.tmp 50), 4, "l02_files.go:57", #[⟨22, .data⟩, ⟨10, .chain⟩], none⟩) (v := ?v381) rfl (by kernel_rfl) (by kernel_rfl) (by kernel_rfl) (fun _ _ _ h => h) (Or.inl ⟨by rfl, ?hy381⟩) (by assumption) ?rest381
                case hy381 => (intro w hSw; (try dsimp only at hSw); go_simp; try (with_reducible rfl))
                try simp only [Act.put, List.setIfInBounds_toArray, List.set_cons_zero, List.set_cons_succ]
                refine wpAnyH_take (i := 24) (oi := ⟨some 52, .fieldAddr 171 (.tmp 5) 2, 0, "l02_files.go:57", #[⟨23, .guard⟩], some (23, false)⟩) (v := undef) rfl (by kernel_rfl) (by kernel_rfl) (by kernel_rfl) (fun _ _ _ h => h) (Or.inr ⟨by rfl, rfl⟩) (by assumption) ?rest382
                try simp only [Act.put, List.setIfInBounds_toArray, List.set_cons_zero, List.set_cons_succ]
                refine wpAnyH_take (i := 25) (oi := ⟨some 53, .load 3 (.tmp 52), 3, "l02_files.go:57", #[⟨24, .data⟩, ⟨23, .guard⟩], some (23, false)⟩) (v := undef) rfl (by kernel_rfl) (by kernel_rfl) (by kernel_rfl) (fun _ _ _ h => h) (Or.inr ⟨by rfl, rfl⟩) (by assumption) ?rest383
                try simp only [Act.put, List.setIfInBounds_toArray, List.set_cons_zero, List.set_cons_succ]
                refine wpAnyH_take (i := 26) (oi := ⟨some 54, .fieldAddr 171 (.tmp 5) 1, 0, "l02_files.go:57", #[⟨23, .guard⟩], some (23, false)⟩) (v := undef) rfl (by kernel_rfl) (by kernel_rfl) (by kernel_rfl) (fun _ _ _ h => h) (Or.inr ⟨by rfl, rfl⟩) (by assumption) ?rest384
                try simp only [Act.put, List.setIfInBounds_toArray, List.set_cons_zero, List.set_cons_succ]
                refine wpAnyH_take (i := 27) (oi := ⟨some 55, .load 22 (.tmp 54), 22, "l02_files.go:57", #[⟨26, .data⟩, ⟨23, .guard⟩], some (23, false)⟩) (v := undef) rfl (by kernel_rfl) (by kernel_rfl) (by kernel_rfl) (fun _ _ _ h => h) (Or.inr ⟨by rfl, rfl⟩) (by assumption) ?rest385
                try simp only [Act.put, List.setIfInBounds_toArray, List.set_cons_zero, List.set_cons_succ]
                refine wpAnyH_take (i := 28) (oi := ⟨some 56, .call { callee := .builtin .len, args := #[.tmp 55], argTypes := #[22] }, 3, "l02_files.go:57", #[⟨27, .data⟩, ⟨23, .guard⟩], some (23, false)⟩) (v := undef) rfl (by kernel_rfl) (by kernel_rfl) (by kernel_rfl) (fun _ _ _ h => h) (Or.inr ⟨by rfl, rfl⟩) (by assumption) ?rest386
                try simp only [Act.put, List.setIfInBounds_toArray, List.set_cons_zero, List.set_cons_succ]
                refine wpAnyH_take (i := 29) (oi := ⟨some 57, .call { callee := .value (.func 103), args := #[.tmp 53, .const (.int .i64 0), .tmp 56], argTypes := #[3, 3, 3] }, 4, "l02_files.go:57", #[⟨25, .data⟩, ⟨28, .data⟩, ⟨23, .chain⟩, ⟨23, .guard⟩], some (23, false)⟩) (v := undef) rfl (by kernel_rfl) (by kernel_rfl) (by kernel_rfl) (fun _ _ _ h => h) (Or.inr ⟨by rfl, rfl⟩) (by assumption) ?rest387
                try simp only [Act.put, List.setIfInBounds_toArray, List.set_cons_zero, List.set_cons_succ]
                refine wpAnyH_take (i := 30) (oi := ⟨some 58, .unOp .not 4 (.tmp 57), 4, "l02_files.go:57", #[⟨29, .data⟩, ⟨23, .guard⟩], some (23, false)⟩) (v := undef) rfl (by kernel_rfl) (by kernel_rfl) (by kernel_rfl) (fun _ _ _ h => h) (Or.inr ⟨by rfl, rfl⟩) (by assumption) ?rest388
                try simp only [Act.put, List.setIfInBounds_toArray, List.set_cons_zero, List.set_cons_succ]
                refine wpAnyH_take (i := 31) (oi := ⟨some 59, .pick (.tmp 51) (.const (.bool true)) (.tmp 58), 4, "l02_files.go:57", #[⟨23, .data⟩, ⟨30, .data⟩], none⟩) (v := ?v389) rfl (by kernel_rfl) (by kernel_rfl) (by kernel_rfl) (fun _ _ _ h => h) (Or.inl ⟨by rfl, ?hy389⟩) (by assumption) ?rest389
                case hy389 => (intro w hSw; (try dsimp only at hSw); go_simp; try (with_reducible rfl))
                try simp only [Act.put, List.setIfInBounds_toArray, List.set_cons_zero, List.set_cons_succ]
                refine wpAnyH_take (i := 32) (oi := ⟨some 60, .move (.tmp 59), 4, "l02_files.go:57", #[⟨31, .data⟩, ⟨29, .chain⟩], none⟩) (v := ?v390) rfl (by kernel_rfl) (by kernel_rfl) (by kernel_rfl) (fun _ _ _ h => h) (Or.inl ⟨by rfl, ?hy390⟩) (by assumption) ?rest390
                case hy390 => (intro w hSw; (try dsimp only at hSw); go_simp; try (with_reducible rfl))
                try simp only [Act.put, List.setIfInBounds_toArray, List.set_cons_zero, List.set_cons_succ]
                refine wpAnyH_take (i := 33) (oi := ⟨some 61, .fieldAddr 43 (.tmp 1) 1, 0, "l02_files.go:57", #[⟨32, .guard⟩], some (32, false)⟩) (v := undef) rfl (by kernel_rfl) (by kernel_rfl) (by kernel_rfl) (fun _ _ _ h => h) (Or.inr ⟨by rfl, rfl⟩) (by assumption) ?rest391
                try simp only [Act.put, List.setIfInBounds_toArray, List.set_cons_zero, List.set_cons_succ]
                refine wpAnyH_take (i := 34) (oi := ⟨some 62, .load 41 (.tmp 61), 41, "l02_files.go:57", #[⟨33, .data⟩, ⟨32, .guard⟩], some (32, false)⟩) (v := undef) rfl (by kernel_rfl) (by kernel_rfl) (by kernel_rfl) (fun _ _ _ h => h) (Or.inr ⟨by rfl, rfl⟩) (by assumption) ?rest392
                try simp only [Act.put, List.setIfInBounds_toArray, List.set_cons_zero, List.set_cons_succ]
                refine wpAnyH_take (i := 35) (oi := ⟨some 63, .fieldAddr 171 (.tmp 5) 0, 0, "l02_files.go:57", #[⟨32, .guard⟩], some (32, false)⟩) (v := undef) rfl (by kernel_rfl) (by kernel_rfl) (by kernel_rfl) (fun _ _ _ h => h) (Or.inr ⟨by rfl, rfl⟩) (by assumption) ?rest393
                try simp only [Act.put, List.setIfInBounds_toArray, List.set_cons_zero, List.set_cons_succ]
                refine wpAnyH_take (i := 36) (oi := ⟨some 64, .load 3 (.tmp 63), 3, "l02_files.go:57", #[⟨35, .data⟩, ⟨32, .guard⟩], some (32, false)⟩) (v := undef) rfl (by kernel_rfl) (by kernel_rfl) (by kernel_rfl) (fun _ _ _ h => h) (Or.inr ⟨by rfl, rfl⟩) (by assumption) ?rest394
                try simp only [Act.put, List.setIfInBounds_toArray, List.set_cons_zero, List.set_cons_succ]
                refine wpAnyH_take (i := 37) (oi := ⟨some 65, .call { callee := .value (.func 175), args := #[.tmp 62, .tmp 64], argTypes := #[41, 3] }, 4, "l02_files.go:57", #[⟨34, .data⟩, ⟨36, .data⟩, ⟨32, .chain⟩, ⟨32, .guard⟩], some (32, false)⟩) (v := undef) rfl (by kernel_rfl) (by kernel_rfl) (by kernel_rfl) (fun _ _ _ h => h) (Or.inr ⟨by rfl, rfl⟩) (by assumption) ?rest395
                try simp only [Act.put, List.setIfInBounds_toArray, List.set_cons_zero, List.set_cons_succ]
                refine wpAnyH_take (i := 38) (oi := ⟨some 66, .unOp .not 4 (.tmp 65), 4, "l02_files.go:57", #[⟨37, .data⟩, ⟨32, .guard⟩], some (32, false)⟩) (v := undef) rfl (by kernel_rfl) (by kernel_rfl) (by kernel_rfl) (fun _ _ _ h => h) (Or.inr ⟨by rfl, rfl⟩) (by assumption) ?rest396
                try simp only [Act.put, List.setIfInBounds_toArray, List.set_cons_zero, List.set_cons_succ]
                refine wpAnyH_take (i := 39) (oi := ⟨some 67, .move (.tmp 66), 4, "l02_files.go:57", #[⟨38, .data⟩, ⟨37, .chain⟩, ⟨32, .guard⟩], some (32, false)⟩) (v := undef) rfl (by kernel_rfl) (by kernel_rfl) (by kernel_rfl) (fun _ _ _ h => h) (Or.inr ⟨by rfl, rfl⟩) (by assumption) ?rest397
                try simp only [Act.put, List.setIfInBounds_toArray, List.set_cons_zero, List.set_cons_succ]
                refine wpAnyH_take (i := 40) (oi := ⟨some 68, .fieldAddr 43 (.tmp 1) 2, 0, "l02_files.go:57", #[⟨39, .guard⟩], some (39, true)⟩) (v := undef) rfl (by kernel_rfl) (by kernel_rfl) (by kernel_rfl) (fun _ _ _ h => h) (Or.inr ⟨by rfl, rfl⟩) (by assumption) ?rest398
                try simp only [Act.put, List.setIfInBounds_toArray, List.set_cons_zero, List.set_cons_succ]
                refine wpAnyH_take (i := 41) (oi := ⟨some 69, .load 41 (.tmp 68), 41, "l02_files.go:57", #[⟨40, .data⟩, ⟨39, .guard⟩], some (39, true)⟩) (v := undef) rfl (by kernel_rfl) (by kernel_rfl) (by kernel_rfl) (fun _ _ _ h => h) (Or.inr ⟨by rfl, rfl⟩) (by assumption) ?rest399
                try simp only [Act.put, List.setIfInBounds_toArray, List.set_cons_zero, List.set_cons_succ]
                refine wpAnyH_take (i := 42) (oi := ⟨some 70, .fieldAddr 171 (.tmp 5) 0, 0, "l02_files.go:57", #[⟨39, .guard⟩], some (39, true)⟩) (v := undef) rfl (by kernel_rfl) (by kernel_rfl) (by kernel_rfl) (fun _ _ _ h => h) (Or.inr ⟨by rfl, rfl⟩) (by assumption) ?rest400
                try simp only [Act.put, List.setIfInBounds_toArray, List.set_cons_zero, List.set_cons_succ]
                refine wpAnyH_take (i := 43) (oi := ⟨some 71, .load 3 (.tmp 70), 3, "l02_files.go:57", #[⟨42, .data⟩, ⟨39, .guard⟩], some (39, true)⟩) (v := undef) rfl (by kernel_rfl) (by kernel_rfl) (by kernel_rfl) (fun _ _ _ h => h) (Or.inr ⟨by rfl, rfl⟩) (by assumption) ?rest401
                try simp only [Act.put, List.setIfInBounds_toArray, List.set_cons_zero, List.set_cons_succ]
                refine wpAnyH_take (i := 44) (oi := ⟨some 72, .call { callee := .value (.func 175), args := #[.tmp 69, .tmp 71], argTypes := #[41, 3] }, 4, "l02_files.go:57", #[⟨41, .data⟩, ⟨43, .data⟩, ⟨39, .chain⟩, ⟨39, .guard⟩], some (39, true)⟩) (v := undef) rfl (by kernel_rfl) (by kernel_rfl) (by kernel_rfl) (fun _ _ _ h => h) (Or.inr ⟨by rfl, rfl⟩) (by assumption) ?rest402
                try simp only [Act.put, List.setIfInBounds_toArray, List.set_cons_zero, List.set_cons_succ]
                refine wpAnyH_take (i := 45) (oi := ⟨some 73, .unOp .not 4 (.tmp 72), 4, "l02_files.go:57", #[⟨44, .data⟩, ⟨39, .guard⟩], some (39, true)⟩) (v := undef) rfl (by kernel_rfl) (by kernel_rfl) (by kernel_rfl) (fun _ _ _ h => h) (Or.inr ⟨by rfl, rfl⟩) (by assumption) ?rest403
                try simp only [Act.put, List.setIfInBounds_toArray, List.set_cons_zero, List.set_cons_succ]
                refine wpAnyH_take (i := 46) (oi := ⟨some 74, .pick (.tmp 67) (.tmp 73) (.const (.bool false)), 4, "l02_files.go:57", #[⟨39, .data⟩, ⟨45, .data⟩, ⟨32, .guard⟩], some (32, false)⟩) (v := undef) rfl (by kernel_rfl) (by kernel_rfl) (by kernel_rfl) (fun _ _ _ h => h) (Or.inr ⟨by rfl, rfl⟩) (by assumption) ?rest404
                try simp only [Act.put, List.setIfInBounds_toArray, List.set_cons_zero, List.set_cons_succ]
                refine wpAnyH_take (i := 47) (oi := ⟨some 75, .pick (.tmp 60) (.const (.bool true)) (.tmp 74), 4, "l02_files.go:57", #[⟨32, .data⟩, ⟨46, .data⟩], none⟩) (v := ?v405) rfl (by kernel_rfl) (by kernel_rfl) (by kernel_rfl) (fun _ _ _ h => h) (Or.inl ⟨by rfl, ?hy405⟩) (by assumption) ?rest405
                case hy405 => (intro w hSw; (try dsimp only at hSw); go_simp; try (with_reducible rfl))
                try simp only [Act.put, List.setIfInBounds_toArray, List.set_cons_zero, List.set_cons_succ]
                refine wpAnyH_done (by kernel_rfl) ?_ _
                go_wp2_with fail
                go_ret
                exact ⟨by rw [HV.out]; rfl, bthen hbW hHeld⟩
          · have e1 : inRange n.fId 1 (m.fNext - 1) = false := inRange_no h1
            have HV : Hid (specOk m = false) := HFAIL.out (by rw [HSI.out, HNI.out]; rw [decide_eq_false (by omega)]; rfl)
            have e3 := e1
            clear HFAIL HGO HSI HNI h1 HSP
            refine wp_region_held_drew (S := fun W => Below wq.heap.size wq W) (by kernel_rfl) (Below.drew (Below.refl _ _)) (fun hHeld => ?_)
            refine wpAnyH_take (i := 0) (oi := ⟨some 28, .fieldAddr 171 (.tmp 5) 0, 0, "l02_files.go:57", #[], none⟩) (v := ?v406) rfl (by kernel_rfl) (by kernel_rfl) (by kernel_rfl) (fun _ _ _ h => h) (Or.inl ⟨by rfl, ?hy406⟩) (by assumption) ?rest406
            case hy406 => (intro w hSw; (try dsimp only at hSw); go_simp; try (with_reducible rfl))
            try simp only [Act.put, List.setIfInBounds_toArray, List.set_cons_zero, List.set_cons_succ]
            refine wpAnyH_take (i := 1) (oi := ⟨some 29, .load 3 (.tmp 28), 3, "l02_files.go:57", #[⟨0, .data⟩], none⟩) (v := ?v407) rfl (by kernel_rfl) (by kernel_rfl) (by kernel_rfl) (fun _ _ _ h => h) (Or.inl ⟨by rfl, ?hy407⟩) (by assumption) ?rest407
            case hy407 => (intro w hSw; (try dsimp only at hSw); go_simp; try (with_reducible rfl))
            try simp only [Act.put, List.setIfInBounds_toArray, List.set_cons_zero, List.set_cons_succ]
            refine wpAnyH_take (i := 2) (oi := ⟨some 30, .fieldAddr 43 (.tmp 1) 3, 0, "l02_files.go:57", #[], none⟩) (v := ?v408) rfl (by kernel_rfl) (by kernel_rfl) (by kernel_rfl) (fun _ _ _ h => h) (Or.inl ⟨by rfl, ?hy408⟩) (by assumption) ?rest408
            case hy408 => (intro w hSw; (try dsimp only at hSw); go_simp; try (with_reducible rfl))
            try simp only [Act.put, List.setIfInBounds_toArray, List.set_cons_zero, List.set_cons_succ]
            refine wpAnyH_take (i := 3) (oi := ⟨some 31, .load 3 (.tmp 30), 3, "l02_files.go:57", #[⟨2, .data⟩], none⟩) (v := ?v409) rfl (by kernel_rfl) (by kernel_rfl) (by kernel_rfl) (fun _ _ _ h => h) (Or.inl ⟨by rfl, ?hy409⟩) (by assumption) ?rest409
            case hy409 => (intro w hSw; (try dsimp only at hSw); go_simp; try (with_reducible rfl))
            try simp only [Act.put, List.setIfInBounds_toArray, List.set_cons_zero, List.set_cons_succ]
            refine wpAnyH_take (i := 4) (oi := ⟨some 32, .binOp .sub 3 (.tmp 31) (.const (.int .i64 1)) 3, 3, "l02_files.go:57", #[⟨3, .data⟩], none⟩) (v := ?v410) rfl (by kernel_rfl) (by kernel_rfl) (by kernel_rfl) (fun _ _ _ h => h) (Or.inl ⟨by rfl, ?hy410⟩) (by assumption) ?rest410
            case hy410 => (intro w hSw; (try dsimp only at hSw); go_simp; try (with_reducible rfl))
            try simp only [Act.put, List.setIfInBounds_toArray, List.set_cons_zero, List.set_cons_succ]
            refine wpAnyH_ready (rs := [5]) (by kernel_rfl) (by simp) ?_
            refine AllReadyH.cons (o := ⟨some 33, .call { callee := .value (.func 103), args := #[.tmp 29, .const (.int .i64 1), .tmp 32], argTypes := #[3, 3, 3] }, 4, "l02_files.go:57", #[⟨1, .data⟩, ⟨4, .data⟩], none⟩) rfl (fun K hK => ?_) AllReadyH.nil
            go_simp
            refine Calls.mono (l1In_any _ _ _ _) ?_
            rintro e w1 ⟨rfl, hw1⟩
            have hx1 := below_same hw1
            clear hw1
            (try simp only [e1, e3])
            go_wp2_with fail
            refine hK.out _ _ (bthen hHeld hx1) (fun hHeld => ?_)
            clear hK K
            try simp only [Act.put, List.setIfInBounds_toArray, List.set_cons_zero, List.set_cons_succ]
            refine wpAnyH_take (i := 6) (oi := ⟨some 34, .unOp .not 4 (.tmp 33), 4, "l02_files.go:57", #[⟨5, .data⟩], none⟩) (v := ?v411) rfl (by kernel_rfl) (by kernel_rfl) (by kernel_rfl) (fun _ _ _ h => h) (Or.inl ⟨by rfl, ?hy411⟩) (by assumption) ?rest411
            case hy411 => (intro w hSw; (try dsimp only at hSw); go_simp; try (with_reducible rfl))
            try simp only [Act.put, List.setIfInBounds_toArray, List.set_cons_zero, List.set_cons_succ]
            refine wpAnyH_take (i := 7) (oi := ⟨some 35, .move (.tmp 34), 4, "l02_files.go:57", #[⟨6, .data⟩, ⟨5, .chain⟩], none⟩) (v := ?v412) rfl (by kernel_rfl) (by kernel_rfl) (by kernel_rfl) (fun _ _ _ h => h) (Or.inl ⟨by rfl, ?hy412⟩) (by assumption) ?rest412
            case hy412 => (intro w hSw; (try dsimp only at hSw); go_simp; try (with_reducible rfl))
            try simp only [Act.put, List.setIfInBounds_toArray, List.set_cons_zero, List.set_cons_succ]
            refine wpAnyH_take (i := 8) (oi := ⟨some 36, .move (.tmp 4), 3, "l02_files.go:57", #[⟨7, .guard⟩], some (7, false)⟩) (v := undef) rfl (by kernel_rfl) (by kernel_rfl) (by kernel_rfl) (fun _ _ _ h => h) (Or.inr ⟨by rfl, rfl⟩) (by assumption) ?rest413
            try simp only [Act.put, List.setIfInBounds_toArray, List.set_cons_zero, List.set_cons_succ]
            refine wpAnyH_take (i := 9) (oi := ⟨some 37, .binOp .gtr 3 (.tmp 36) (.const (.int .i64 0)) 3, 4, "l02_files.go:57", #[⟨8, .data⟩, ⟨7, .guard⟩], some (7, false)⟩) (v := undef) rfl (by kernel_rfl) (by kernel_rfl) (by kernel_rfl) (fun _ _ _ h => h) (Or.inr ⟨by rfl, rfl⟩) (by assumption) ?rest414
            try simp only [Act.put, List.setIfInBounds_toArray, List.set_cons_zero, List.set_cons_succ]
            refine wpAnyH_take (i := 10) (oi := ⟨some 38, .move (.tmp 37), 4, "l02_files.go:57", #[⟨9, .data⟩, ⟨7, .chain⟩, ⟨7, .guard⟩], some (7, false)⟩) (v := undef) rfl (by kernel_rfl) (by kernel_rfl) (by kernel_rfl) (fun _ _ _ h => h) (Or.inr ⟨by rfl, rfl⟩) (by assumption) ?rest415
            try simp only [Act.put, List.setIfInBounds_toArray, List.set_cons_zero, List.set_cons_succ]
            refine wpAnyH_take (i := 11) (oi := ⟨some 39, .fieldAddr 43 (.tmp 1) 0, 0, "l02_files.go:57", #[⟨10, .guard⟩], some (10, true)⟩) (v := undef) rfl (by kernel_rfl) (by kernel_rfl) (by kernel_rfl) (fun _ _ _ h => h) (Or.inr ⟨by rfl, rfl⟩) (by assumption) ?rest416
            try simp only [Act.put, List.setIfInBounds_toArray, List.set_cons_zero, List.set_cons_succ]
            refine wpAnyH_take (i := 12) (oi := ⟨some 40, .load 40 (.tmp 39), 40, "l02_files.go:57", #[⟨11, .data⟩, ⟨10, .guard⟩], some (10, true)⟩) (v := undef) rfl (by kernel_rfl) (by kernel_rfl) (by kernel_rfl) (fun _ _ _ h => h) (Or.inr ⟨by rfl, rfl⟩) (by assumption) ?rest417
            try simp only [Act.put, List.setIfInBounds_toArray, List.set_cons_zero, List.set_cons_succ]
            refine wpAnyH_take (i := 13) (oi := ⟨some 41, .move (.tmp 4), 3, "l02_files.go:57", #[⟨10, .guard⟩], some (10, true)⟩) (v := undef) rfl (by kernel_rfl) (by kernel_rfl) (by kernel_rfl) (fun _ _ _ h => h) (Or.inr ⟨by rfl, rfl⟩) (by assumption) ?rest418
            try simp only [Act.put, List.setIfInBounds_toArray, List.set_cons_zero, List.set_cons_succ]
            refine wpAnyH_take (i := 14) (oi := ⟨some 42, .binOp .sub 3 (.tmp 41) (.const (.int .i64 1)) 3, 3, "l02_files.go:57", #[⟨13, .data⟩, ⟨10, .guard⟩], some (10, true)⟩) (v := undef) rfl (by kernel_rfl) (by kernel_rfl) (by kernel_rfl) (fun _ _ _ h => h) (Or.inr ⟨by rfl, rfl⟩) (by assumption) ?rest419
            try simp only [Act.put, List.setIfInBounds_toArray, List.set_cons_zero, List.set_cons_succ]
            refine wpAnyH_take (i := 15) (oi := ⟨some 43, .indexAddr 40 (.tmp 40) (.tmp 42), 0, "l02_files.go:57", #[⟨12, .data⟩, ⟨14, .data⟩, ⟨10, .guard⟩], some (10, true)⟩) (v := undef) rfl (by kernel_rfl) (by kernel_rfl) (by kernel_rfl) (fun _ _ _ h => h) (Or.inr ⟨by rfl, rfl⟩) (by assumption) ?rest420
            try simp only [Act.put, List.setIfInBounds_toArray, List.set_cons_zero, List.set_cons_succ]
            refine wpAnyH_take (i := 16) (oi := ⟨some 44, .fieldAddr 171 (.tmp 43) 0, 0, "l02_files.go:57", #[⟨15, .data⟩, ⟨10, .guard⟩], some (10, true)⟩) (v := undef) rfl (by kernel_rfl) (by kernel_rfl) (by kernel_rfl) (fun _ _ _ h => h) (Or.inr ⟨by rfl, rfl⟩) (by assumption) ?rest421
            try simp only [Act.put, List.setIfInBounds_toArray, List.set_cons_zero, List.set_cons_succ]
            refine wpAnyH_take (i := 17) (oi := ⟨some 45, .load 3 (.tmp 44), 3, "l02_files.go:57", #[⟨16, .data⟩, ⟨10, .guard⟩], some (10, true)⟩) (v := undef) rfl (by kernel_rfl) (by kernel_rfl) (by kernel_rfl) (fun _ _ _ h => h) (Or.inr ⟨by rfl, rfl⟩) (by assumption) ?rest422
            try simp only [Act.put, List.setIfInBounds_toArray, List.set_cons_zero, List.set_cons_succ]
            refine wpAnyH_take (i := 18) (oi := ⟨some 46, .fieldAddr 171 (.tmp 5) 0, 0, "l02_files.go:57", #[⟨10, .guard⟩], some (10, true)⟩) (v := undef) rfl (by kernel_rfl) (by kernel_rfl) (by kernel_rfl) (fun _ _ _ h => h) (Or.inr ⟨by rfl, rfl⟩) (by assumption) ?rest423
            try simp only [Act.put, List.setIfInBounds_toArray, List.set_cons_zero, List.set_cons_succ]
            refine wpAnyH_take (i := 19) (oi := ⟨some 47, .load 3 (.tmp 46), 3, "l02_files.go:57", #[⟨18, .data⟩, ⟨10, .guard⟩], some (10, true)⟩) (v := undef) rfl (by kernel_rfl) (by kernel_rfl) (by kernel_rfl) (fun _ _ _ h => h) (Or.inr ⟨by rfl, rfl⟩) (by assumption) ?rest424
            try simp only [Act.put, List.setIfInBounds_toArray, List.set_cons_zero, List.set_cons_succ]
            refine wpAnyH_take (i := 20) (oi := ⟨some 48, .binOp .geq 3 (.tmp 45) (.tmp 47) 3, 4, "l02_files.go:57", #[⟨17, .data⟩, ⟨19, .data⟩, ⟨10, .guard⟩], some (10, true)⟩) (v := undef) rfl (by kernel_rfl) (by kernel_rfl) (by kernel_rfl) (fun _ _ _ h => h) (Or.inr ⟨by rfl, rfl⟩) (by assumption) ?rest425
            try simp only [Act.put, List.setIfInBounds_toArray, List.set_cons_zero, List.set_cons_succ]
            refine wpAnyH_take (i := 21) (oi := ⟨some 49, .pick (.tmp 38) (.tmp 48) (.const (.bool false)), 4, "l02_files.go:57", #[⟨10, .data⟩, ⟨20, .data⟩, ⟨7, .guard⟩], some (7, false)⟩) (v := undef) rfl (by kernel_rfl) (by kernel_rfl) (by kernel_rfl) (fun _ _ _ h => h) (Or.inr ⟨by rfl, rfl⟩) (by assumption) ?rest426
            try simp only [Act.put, List.setIfInBounds_toArray, List.set_cons_zero, List.set_cons_succ]
            refine wpAnyH_take (i := 22) (oi := ⟨some 50, .pick (.tmp 35) (.const (.bool true)) (.tmp 49), 4, "l02_files.go:57", #[⟨7, .data⟩, ⟨21, .data⟩], none⟩) (v := ?v427) rfl (by kernel_rfl) (by kernel_rfl) (by kernel_rfl) (fun _ _ _ h => h) (Or.inl ⟨by rfl, ?hy427⟩) (by assumption) ?rest427
            case hy427 => (intro w hSw; (try dsimp only at hSw); go_simp; try (with_reducible rfl))
            try simp only [Act.put, List.setIfInBounds_toArray, List.set_cons_zero, List.set_cons_succ]
            refine wpAnyH_take (i := 23) (oi := ⟨some 51, .move (.tmp 50), 4, "l02_files.go:57", #[⟨22, .data⟩, ⟨10, .chain⟩], none⟩) (v := ?v428) rfl (by kernel_rfl) (by kernel_rfl) (by kernel_rfl) (fun _ _ _ h => h) (Or.inl ⟨by rfl, ?hy428⟩) (by assumption) ?rest428
            case hy428 => (intro w hSw; (try dsimp only at hSw); go_simp; try (with_reducible rfl))
            try simp only [Act.put, List.setIfInBounds_toArray, List.set_cons_zero, List.set_cons_succ]
            refine wpAnyH_take (i := 24) (oi := ⟨some 52, .fieldAddr 171 (.tmp 5) 2, 0, "l02_files.go:57", #[⟨23, .guard⟩], some (23, false)⟩) (v := undef) rfl (by kernel_rfl) (by kernel_rfl) (by kernel_rfl) (fun _ _ _ h => h) (Or.inr ⟨by rfl, rfl⟩) (by assumption) ?rest429
            try simp only [Act.put, List.setIfInBounds_toArray, List.set_cons_zero, List.set_cons_succ]
            refine wpAnyH_take (i := 25) (oi := ⟨some 53, .load 3 (.tmp 52), 3, "l02_files.go:57", #[⟨24, .data⟩, ⟨23, .guard⟩], some (23, false)⟩) (v := undef) rfl (by kernel_rfl) (by kernel_rfl) (by kernel_rfl) (fun _ _ _ h => h) (Or.inr ⟨by rfl, rfl⟩) (by assumption) ?rest430
            try simp only [Act.put, List.setIfInBounds_toArray, List.set_cons_zero, List.set_cons_succ]
            refine wpAnyH_take (i := 26) (oi := ⟨some 54, .fieldAddr 171 (.tmp 5) 1, 0, "l02_files.go:57", #[⟨23, .guard⟩], some (23, false)⟩) (v := undef) rfl (by kernel_rfl) (by kernel_rfl) (by kernel_rfl) (fun _ _ _ h => h) (Or.inr ⟨by rfl, rfl⟩) (by assumption) ?rest431
            try simp only [Act.put, List.setIfInBounds_toArray, List.set_cons_zero, List.set_cons_succ]
            refine wpAnyH_take (i := 27) (oi := ⟨some 55, .load 22 (.tmp 54), 22, "l02_files.go:57", #[⟨26, .data⟩, ⟨23, .guard⟩], some (23, false)⟩) (v := undef) rfl (by kernel_rfl) (by kernel_rfl) (by kernel_rfl) (fun _ _ _ h => h) (Or.inr ⟨by rfl, rfl⟩) (by assumption) ?rest432
            try simp only [Act.put, List.setIfInBounds_toArray, List.set_cons_zero, List.set_cons_succ]
            refine wpAnyH_take (i := 28) (oi := ⟨some 56, .call { callee := .builtin .len, args := #[.tmp 55], argTypes := #[22] }, 3, "l02_files.go:57", #[⟨27, .data⟩, ⟨23, .guard⟩], some (23, false)⟩) (v := undef) rfl (by kernel_rfl) (by kernel_rfl) (by kernel_rfl) (fun _ _ _ h => h) (Or.inr ⟨by rfl, rfl⟩) (by assumption) ?rest433
            try simp only [Act.put, List.setIfInBounds_toArray, List.set_cons_zero, List.set_cons_succ]
            refine wpAnyH_take (i := 29) (oi := ⟨some 57, .call { callee := .value (.func 103), args := #[.tmp 53, .const (.int .i64 0), .tmp 56], argTypes := #[3, 3, 3] }, 4, "l02_files.go:57", #[⟨25, .data⟩, ⟨28, .data⟩, ⟨23, .chain⟩, ⟨23, .guard⟩], some (23, false)⟩) (v := undef) rfl (by kernel_rfl) (by kernel_rfl) (by kernel_rfl) (fun _ _ _ h => h) (Or.inr ⟨by rfl, rfl⟩) (by assumption) ?rest434
            try simp only [Act.put, List.setIfInBounds_toArray, List.set_cons_zero, List.set_cons_succ]
            refine wpAnyH_take (i := 30) (oi := ⟨some 58, .unOp .not 4 (.tmp 57), 4, "l02_files.go:57", #[⟨29, .data⟩, ⟨23, .guard⟩], some (23, false)⟩) (v := undef) rfl (by kernel_rfl) (by kernel_rfl) (by kernel_rfl) (fun _ _ _ h => h) (Or.inr ⟨by rfl, rfl⟩) (by assumption) ?rest435
            try simp only [Act.put, List.setIfInBounds_toArray, List.set_cons_zero, List.set_cons_succ]
            refine wpAnyH_take (i := 31) (oi := ⟨some 59, .pick (.tmp 51) (.const (.bool true)) (.tmp 58), 4, "l02_files.go:57", #[⟨23, .data⟩, ⟨30, .data⟩], none⟩) (v := ?v436) rfl (by kernel_rfl) (by kernel_rfl) (by kernel_rfl) (fun _ _ _ h => h) (Or.inl ⟨by rfl, ?hy436⟩) (by assumption) ?rest436
            case hy436 => (intro w hSw; (try dsimp only at hSw); go_simp; try (with_reducible rfl))
            try simp only [Act.put, List.setIfInBounds_toArray, List.set_cons_zero, List.set_cons_succ]
            refine wpAnyH_take (i := 32) (oi := ⟨some 60, .move (.tmp 59), 4, "l02_files.go:57", #[⟨31, .data⟩, ⟨29, .chain⟩], none⟩) (v := ?v437) rfl (by kernel_rfl) (by kernel_rfl) (by kernel_rfl) (fun _ _ _ h => h) (Or.inl ⟨by rfl, ?hy437⟩) (by assumption) ?rest437
            case hy437 => (intro w hSw; (try dsimp only at hSw); go_simp; try (with_reducible rfl))
            try simp only [Act.put, List.setIfInBounds_toArray, List.set_cons_zero, List.set_cons_succ]
            refine wpAnyH_take (i := 33) (oi := ⟨some 61, .fieldAddr 43 (.tmp 1) 1, 0, "l02_files.go:57", #[⟨32, .guard⟩], some (32, false)⟩) (v := undef) rfl (by kernel_rfl) (by kernel_rfl) (by kernel_rfl) (fun _ _ _ h => h) (Or.inr ⟨by rfl, rfl⟩) (by assumption) ?rest438
            try simp only [Act.put, List.setIfInBounds_toArray, List.set_cons_zero, List.set_cons_succ]
            refine wpAnyH_take (i := 34) (oi := ⟨some 62, .load 41 (.tmp 61), 41, "l02_files.go:57", #[⟨33, .data⟩, ⟨32, .guard⟩], some (32, false)⟩) (v := undef) rfl (by kernel_rfl) (by kernel_rfl) (by kernel_rfl) (fun _ _ _ h => h) (Or.inr ⟨by rfl, rfl⟩) (by assumption) ?rest439
            try simp only [Act.put, List.setIfInBounds_toArray, List.set_cons_zero, List.set_cons_succ]
            refine wpAnyH_take (i := 35) (oi := ⟨some 63, .fieldAddr 171 (.tmp 5) 0, 0, "l02_files.go:57", #[⟨32, .guard⟩], some (32, false)⟩) (v := undef) rfl (by kernel_rfl) (by kernel_rfl) (by kernel_rfl) (fun _ _ _ h => h) (Or.inr ⟨by rfl, rfl⟩) (by assumption) ?rest440
            try simp only [Act.put, List.setIfInBounds_toArray, List.set_cons_zero, List.set_cons_succ]
            refine wpAnyH_take (i := 36) (oi := ⟨some 64, .load 3 (.tmp 63), 3, "l02_files.go:57", #[⟨35, .data⟩, ⟨32, .guard⟩], some (32, false)⟩) (v := undef) rfl (by kernel_rfl) (by kernel_rfl) (by kernel_rfl) (fun _ _ _ h => h) (Or.inr ⟨by rfl, rfl⟩) (by assumption) ?rest441
            try simp only [Act.put, List.setIfInBounds_toArray, List.set_cons_zero, List.set_cons_succ]
            refine wpAnyH_take (i := 37) (oi := ⟨some 65, .call { callee := .value (.func 175), args := #[.tmp 62, .tmp 64], argTypes := #[41, 3] }, 4, "l02_files.go:57", #[⟨34, .data⟩, ⟨36, .data⟩, ⟨32, .chain⟩, ⟨32, .guard⟩], some (32, false)⟩) (v := undef) rfl (by kernel_rfl) (by kernel_rfl) (by kernel_rfl) (fun _ _ _ h => h) (Or.inr ⟨by rfl, rfl⟩) (by assumption) ?rest442
            try simp only [Act.put, List.setIfInBounds_toArray, List.set_cons_zero, List.set_cons_succ]
            refine wpAnyH_take (i := 38) (oi := ⟨some 66, .unOp .not 4 (.tmp 65), 4, "l02_files.go:57", #[⟨37, .data⟩, ⟨32, .guard⟩], some (32, false)⟩) (v := undef) rfl (by kernel_rfl) (by kernel_rfl) (by kernel_rfl) (fun _ _ _ h => h) (Or.inr ⟨by rfl, rfl⟩) (by assumption) ?rest443
            try simp only [Act.put, List.setIfInBounds_toArray, List.set_cons_zero, List.set_cons_succ]
            refine wpAnyH_take (i := 39) (oi := ⟨some 67, .move (.tmp 66), 4, "l02_files.go:57", #[⟨38, .data⟩, ⟨37, .chain⟩, ⟨32, .guard⟩], some (32, false)⟩) (v := undef) rfl (by kernel_rfl) (by kernel_rfl) (by kernel_rfl) (fun _ _ _ h => h) (Or.inr ⟨by rfl, rfl⟩) (by assumption) ?rest444
            try simp only [Act.put, List.setIfInBounds_toArray, List.set_cons_zero, List.set_cons_succ]
            refine wpAnyH_take (i := 40) (oi := ⟨some 68, .fieldAddr 43 (.tmp 1) 2, 0, "l02_files.go:57", #[⟨39, .guard⟩], some (39, true)⟩) (v := undef) rfl (by kernel_rfl) (by kernel_rfl) (by kernel_rfl) (fun _ _ _ h => h) (Or.inr ⟨by rfl, rfl⟩) (by assumption) ?rest445
            try simp only [Act.put, List.setIfInBounds_toArray, List.set_cons_zero, List.set_cons_succ]
            refine wpAnyH_take (i := 41) (oi := ⟨some 69, .load 41 (.tmp 68), 41, "l02_files.go:57", #[⟨40, .data⟩, ⟨39, .guard⟩], some (39, true)⟩) (v := undef) rfl (by kernel_rfl) (by kernel_rfl) (by kernel_rfl) (fun _ _ _ h => h) (Or.inr ⟨by rfl, rfl⟩) (by assumption) ?rest446
            try simp only [Act.put, List.setIfInBounds_toArray, List.set_cons_zero, List.set_cons_succ]
            refine wpAnyH_take (i := 42) (oi := ⟨some 70, .fieldAddr 171 (.tmp 5) 0, 0, "l02_files.go:57", #[⟨39, .guard⟩], some (39, true)⟩) (v := undef) rfl (by kernel_rfl) (by kernel_rfl) (by kernel_rfl) (fun _ _ _ h => h) (Or.inr ⟨by rfl, rfl⟩) (by assumption) ?rest447
            try simp only [Act.put, List.setIfInBounds_toArray, List.set_cons_zero, List.set_cons_succ]
            refine wpAnyH_take (i := 43) (oi := ⟨some 71, .load 3 (.tmp 70), 3, "l02_files.go:57", #[⟨42, .data⟩, ⟨39, .guard⟩], some (39, true)⟩) (v := undef) rfl (by kernel_rfl) (by kernel_rfl) (by kernel_rfl) (fun _ _ _ h => h) (Or.inr ⟨by rfl, rfl⟩) (by assumption) ?rest448
            try simp only [Act.put, List.setIfInBounds_toArray, List.set_cons_zero, List.set_cons_succ]
            refine wpAnyH_take (i := 44) (oi := ⟨some 72, .call { callee := .value (.func 175), args := #[.tmp 69, .tmp 71], argTypes := #[41, 3] }, 4, "l02_files.go:57", #[⟨41, .data⟩, ⟨43, .data⟩, ⟨39, .chain⟩, ⟨39, .guard⟩], some (39, true)⟩) (v := undef) rfl (by kernel_rfl) (by kernel_rfl) (by kernel_rfl) (fun _ _ _ h => h) (Or.inr ⟨by rfl, rfl⟩) (by assumption) ?rest449
            try simp only [Act.put, List.setIfInBounds_toArray, List.set_cons_zero, List.set_cons_succ]
            refine wpAnyH_take (i := 45) (oi := ⟨some 73, .unOp .not 4 (.tmp 72), 4, "l02_files.go:57", #[⟨44, .data⟩, ⟨39, .guard⟩], some (39, true)⟩) (v := undef) rfl (by kernel_rfl) (by kernel_rfl) (by kernel_rfl) (fun _ _ _ h => h) (Or.inr ⟨by rfl, rfl⟩) (by assumption) ?rest450
            try simp only [Act.put, List.setIfInBounds_toArray, List.set_cons_zero, List.set_cons_succ]
            refine wpAnyH_take (i := 46) (oi := ⟨some 74, .pick (.tmp 67) (.tmp 73) (.const (.bool false)), 4, "l02_files.go:57", #[⟨39, .data⟩, ⟨45, .data⟩, ⟨32, .guard⟩], some (32, false)⟩) (v := undef) rfl (by kernel_rfl) (by kernel_rfl) (by kernel_rfl) (fun _ _ _ h => h) (Or.inr ⟨by rfl, rfl⟩) (by assumption) ?rest451
            try simp only [Act.put, List.setIfInBounds_toArray, List.set_cons_zero, List.set_cons_succ]
            refine wpAnyH_take (i := 47) (oi := ⟨some 75, .pick (.tmp 60) (.const (.bool true)) (.tmp 74), 4, "l02_files.go:57", #[⟨32, .data⟩, ⟨46, .data⟩], none⟩) (v := ?v452) rfl (by kernel_rfl) (by kernel_rfl) (by kernel_rfl) (fun _ _ _ h => h) (Or.inl ⟨by rfl, ?hy452⟩) (by assumption) ?rest452
            case hy452 => (intro w hSw; (try dsimp only at hSw); go_simp; try (with_reducible rfl))
            try simp only [Act.put, List.setIfInBounds_toArray, List.set_cons_zero, List.set_cons_succ]
            refine wpAnyH_done (by kernel_rfl) ?_ _
            go_wp2_with fail
            go_ret
            exact ⟨by rw [HV.out]; rfl, bthen hbW hHeld⟩
        · have hkn : k = m.fInodes.length := by omega
          subst hkn
          rw [List.take_length]
          have HV0 : Hid ((okI m.fNext 0 m.fInodes && m.fInodes.all (isNamed m)) = true) := by
            show _ = true
            rw [HINV.out, List.drop_length]
            rfl
          have hCa := fun W (hb : Below wr.heap.size wr W) => l2Entries_any _ m a1 _ c1 m.fNames W (rDisk_good.mono (rDisk_good.below HR.out (bthen hbk hb)) (bthen hbk hb).size) (by omega) rfl (by omega) (LeafL.mono rEntry_good (HNL.out.below rEntry_good (bthen hbk hb)) (bthen hbk hb).size)
          have hCb := fun W (hb : Below wr.heap.size wr W) => l2Entries_any _ m a2 _ c2 m.fSafe W (rDisk_good.mono (rDisk_good.below HR.out (bthen hbk hb)) (bthen hbk hb).size) (by omega) rfl (by omega) (LeafL.mono rEntry_good (HSL.out.below rEntry_good (bthen hbk hb)) (bthen hbk hb).size)
          obtain ⟨sm, hsm⟩ : ∃ sm : Nat, sumW wInode m.fInodes = sm := ⟨_, rfl⟩
          obtain ⟨E1, hE1⟩ : ∃ E1 : Bool, (okE m.fInodes [] ByteArray.empty m.fNames && decide (m.fNames.length ≤ 30)) = E1 := ⟨_, rfl⟩
          obtain ⟨E2, hE2⟩ : ∃ E2 : Bool, (okE m.fInodes [] ByteArray.empty m.fSafe && decide (m.fSafe.length ≤ 30)) = E2 := ⟨_, rfl⟩
          have HFIN : Hid (specOk m = (decide (sm ≤ 60000) && E1 && E2)) := by
            show _ = _
            rw [HSP.out, HV0.out, hE1, hE2, hsm, Bool.true_and]
          simp only [hE1] at hCa
          simp only [hE2] at hCb
          rw [hsm] at hw2 ⊢
          clear hE1 hE2 hsm HSP HV0 HINV
          by_cases h6 : sm ≤ 60000
          · have HD := Hid.mk (decide_eq_true h6)
            cases E1
            · go_wp2_with fail
              refine Calls.mono (hCa _ (Below.refl _ _)) ?_
              rintro e w1 ⟨rfl, hx1⟩
              go_wp2_with fail
              go_ret
              exact ⟨by rw [HFIN.out]; simp, bthen hbk hx1⟩
            · go_wp2_with fail
              refine Calls.mono (hCa _ (Below.refl _ _)) ?_
              rintro e w1 ⟨rfl, hx1⟩
              have hb1 := hbx.under hx1
              have y0 := hb1.2 0 _ rfl
              have y1 := hb1.2 1 _ rfl
              have y2 := hb1.2 2 _ rfl
              have y3 := hb1.2 3 _ rfl
              go_wp2_with fail
              refine Calls.mono (hCb _ hx1) ?_
              rintro e w2 ⟨rfl, hx2⟩
              go_wp2_with fail
              go_ret
              exact ⟨by rw [HFIN.out, HD.out]; rfl, bthen hbk (bthen hx1 hx2)⟩
          · have HD := Hid.mk (decide_eq_false h6)
            go_wp2_with fail
            go_ret
            exact ⟨by rw [HFIN.out, HD.out]; rfl, hbk⟩
    · have HV : Hid (specOk m = false) := by
        show specOk m = false
        unfold specOk
        rw [decide_eq_false hL]
        simp
      have hL2 : (60 : Int) < (m.fInodes.length : Int) := by omega
      go_enter Tryd.func164, Tryd.ntmps164
      go_wp2_with (go_at_call 103; refine (l1In_any _ _ _ _).mono ?_; rintro e w' ⟨rfl, rfl⟩)
      go_ret
      exact ⟨by rw [HV.out]; rfl, (Below.refl _ _).alloc (Nat.le_refl _) _⟩
  · have e0 : inRange m.fNext 1 1000000 = false := inRange_no hN1
    have HV : Hid (specOk m = false) := by
      show specOk m = false
      unfold specOk
      rw [e0]
      simp
    go_enter Tryd.func164, Tryd.ntmps164
    go_wp2_with (go_at_call 103; refine (l1In_any _ _ _ _).mono ?_; rintro e w' ⟨rfl, rfl⟩)
    go_ret
    exact ⟨by rw [HV.out]; rfl, (Below.refl _ _).alloc (Nat.le_refl _) _⟩

theorem specDiskOk_b (cs : List Value) (m : MDisk) (w : World) (hr : rDisk w.heap.size w cs m) (hw : wDisk m ≤ 16777216) :
    Calls Tryd.prog 164 #[.agg cs.toArray] w fun e w' => e = .returned (.bool (diskOk m)) ∧ Below w.heap.size w w' := by
  rw [← specOk_eq]
  exact specDiskOk_any cs m w hr hw

theorem specDiskOk_c (cs : List Value) (m : MDisk) (w : World) (hr : rDisk w.heap.size w cs m) (hw : wDisk m ≤ 1048576) :
    Calls Tryd.prog 164 #[.agg cs.toArray] w fun e w' => e = .returned (.bool (diskOk m)) ∧ Below w.heap.size w w' :=
  specDiskOk_b cs m w hr (by omega)

end Go.Proofs.YtcbhmbgmeodjdaaDoor
