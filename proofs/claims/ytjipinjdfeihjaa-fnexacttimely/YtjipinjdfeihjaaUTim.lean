/-
  Whether what was asked for later comes behind what was answered: plainly, and the specification's Timely.
-/
import Derived.Test.YtjipinjdfeihjaaRegK
import Derived.Test.YtjipinjdfeihjaaUAsk
import Derived.Test.YtjipinjdfeihjaaUSur
import Derived.Deep.DeepCutAuto
namespace Go.Proofs.Ytjipinjdfeihjaa
open Go.RowKit Go.Maps
set_option linter.unusedVariables false
set_option linter.unusedSimpArgs false
set_option maxRecDepth 10000
abbrev q2fa_13_10_0 : Oper := ⟨some 30, .move (.tmp 7), 3, "l11_safe.go:99", #[], none⟩
abbrev q2fa_13_10_1 : Oper := ⟨some 31, .fieldAddr 73 (.tmp 5) 2, 0, "l11_safe.go:99", #[], none⟩
abbrev q2fa_13_10_2 : Oper := ⟨some 32, .load 46 (.tmp 31), 46, "l11_safe.go:99", #[⟨1, .data⟩], none⟩
abbrev q2fa_13_10_3 : Oper := ⟨some 33, .call { callee := .builtin .len, args := #[.tmp 32], argTypes := #[46] }, 3, "l11_safe.go:99", #[⟨2, .data⟩], none⟩
abbrev q2fa_13_10_4 : Oper := ⟨some 34, .binOp .lss 3 (.tmp 30) (.tmp 33) 3, 4, "l11_safe.go:99", #[⟨0, .data⟩, ⟨3, .data⟩], none⟩
abbrev q2fa_13_10_5 : Oper := ⟨some 35, .move (.tmp 34), 4, "l11_safe.go:99", #[⟨4, .data⟩], none⟩
abbrev q2fa_13_10_6 : Oper := ⟨some 36, .move (.tmp 3), 40, "l11_safe.go:99", #[⟨5, .guard⟩], some (5, true)⟩
abbrev q2fa_13_10_7 : Oper := ⟨some 37, .move (.tmp 6), 3, "l11_safe.go:99", #[⟨5, .guard⟩], some (5, true)⟩
abbrev q2fa_13_10_8 : Oper := ⟨some 38, .indexAddr 40 (.tmp 36) (.tmp 37), 0, "l11_safe.go:99", #[⟨6, .data⟩, ⟨7, .data⟩, ⟨5, .guard⟩], some (5, true)⟩
abbrev q2fa_13_10_9 : Oper := ⟨some 39, .fieldAddr 48 (.tmp 38) 0, 0, "l11_safe.go:99", #[⟨8, .data⟩, ⟨5, .guard⟩], some (5, true)⟩
abbrev q2fa_13_10_10 : Oper := ⟨some 40, .load 43 (.tmp 39), 43, "l11_safe.go:99", #[⟨9, .data⟩, ⟨5, .guard⟩], some (5, true)⟩
abbrev q2fa_13_10_11 : Oper := ⟨some 41, .fieldAddr 73 (.tmp 5) 0, 0, "l11_safe.go:99", #[⟨5, .guard⟩], some (5, true)⟩
abbrev q2fa_13_10_12 : Oper := ⟨some 42, .load 43 (.tmp 41), 43, "l11_safe.go:99", #[⟨11, .data⟩, ⟨5, .guard⟩], some (5, true)⟩
abbrev q2fa_13_10_13 : Oper := ⟨some 43, .binOp .eql 43 (.tmp 40) (.tmp 42) 43, 4, "l11_safe.go:99", #[⟨10, .data⟩, ⟨12, .data⟩, ⟨5, .guard⟩], some (5, true)⟩
abbrev q2fa_13_10_14 : Oper := ⟨some 44, .pick (.tmp 35) (.tmp 43) (.const (.bool false)), 4, "l11_safe.go:99", #[⟨5, .data⟩, ⟨13, .data⟩], none⟩
abbrev q2fa_13_13_0 : Oper := ⟨some 57, .move (.tmp 9), 4, "l11_safe.go:101", #[], none⟩
abbrev q2fa_13_13_1 : Oper := ⟨some 58, .move (.tmp 57), 4, "l11_safe.go:101", #[⟨0, .data⟩], none⟩
abbrev q2fa_13_13_2 : Oper := ⟨some 59, .load 45 (.tmp 8), 45, "l11_safe.go:101", #[⟨1, .guard⟩], some (1, true)⟩
abbrev q2fa_13_13_3 : Oper := ⟨some 60, .fieldAddr 73 (.tmp 5) 1, 0, "l11_safe.go:101", #[⟨1, .guard⟩], some (1, true)⟩
abbrev q2fa_13_13_4 : Oper := ⟨some 61, .load 45 (.tmp 60), 45, "l11_safe.go:101", #[⟨3, .data⟩, ⟨1, .guard⟩], some (1, true)⟩
abbrev q2fa_13_13_5 : Oper := ⟨some 62, .call { callee := .value (.func 20), args := #[.tmp 59, .tmp 61], argTypes := #[45, 45] }, 4, "l11_safe.go:101", #[⟨2, .data⟩, ⟨4, .data⟩, ⟨1, .chain⟩, ⟨1, .guard⟩], some (1, true)⟩
abbrev q2fa_13_13_6 : Oper := ⟨some 63, .pick (.tmp 58) (.tmp 62) (.const (.bool false)), 4, "l11_safe.go:101", #[⟨1, .data⟩, ⟨5, .data⟩], none⟩
abbrev q2fa_13_13_7 : Oper := ⟨some 64, .move (.tmp 63), 4, "l11_safe.go:101", #[⟨6, .data⟩, ⟨5, .chain⟩], none⟩
abbrev q2fa_13_13_8 : Oper := ⟨some 65, .move (.tmp 3), 40, "l11_safe.go:101", #[⟨7, .guard⟩], some (7, true)⟩
abbrev q2fa_13_13_9 : Oper := ⟨some 66, .move (.tmp 6), 3, "l11_safe.go:101", #[⟨7, .guard⟩], some (7, true)⟩
abbrev q2fa_13_13_10 : Oper := ⟨some 67, .indexAddr 40 (.tmp 65) (.tmp 66), 0, "l11_safe.go:101", #[⟨8, .data⟩, ⟨9, .data⟩, ⟨7, .guard⟩], some (7, true)⟩
abbrev q2fa_13_13_11 : Oper := ⟨some 68, .fieldAddr 48 (.tmp 67) 2, 0, "l11_safe.go:101", #[⟨10, .data⟩, ⟨7, .guard⟩], some (7, true)⟩
abbrev q2fa_13_13_12 : Oper := ⟨some 69, .load 46 (.tmp 68), 46, "l11_safe.go:101", #[⟨11, .data⟩, ⟨7, .guard⟩], some (7, true)⟩
abbrev q2fa_13_13_13 : Oper := ⟨some 70, .fieldAddr 73 (.tmp 5) 2, 0, "l11_safe.go:101", #[⟨7, .guard⟩], some (7, true)⟩
abbrev q2fa_13_13_14 : Oper := ⟨some 71, .load 46 (.tmp 70), 46, "l11_safe.go:101", #[⟨13, .data⟩, ⟨7, .guard⟩], some (7, true)⟩
abbrev q2fa_13_13_15 : Oper := ⟨some 72, .move (.tmp 7), 3, "l11_safe.go:101", #[⟨7, .guard⟩], some (7, true)⟩
abbrev q2fa_13_13_16 : Oper := ⟨some 73, .indexAddr 46 (.tmp 71) (.tmp 72), 0, "l11_safe.go:101", #[⟨14, .data⟩, ⟨15, .data⟩, ⟨7, .guard⟩], some (7, true)⟩
abbrev q2fa_13_13_17 : Oper := ⟨some 74, .load 43 (.tmp 73), 43, "l11_safe.go:101", #[⟨16, .data⟩, ⟨7, .guard⟩], some (7, true)⟩
abbrev q2fa_13_13_18 : Oper := ⟨some 75, .call { callee := .value (.func 21), args := #[.tmp 69, .tmp 74], argTypes := #[46, 43] }, 4, "l11_safe.go:101", #[⟨12, .data⟩, ⟨17, .data⟩, ⟨7, .chain⟩, ⟨7, .guard⟩], some (7, true)⟩
abbrev q2fa_13_13_19 : Oper := ⟨some 76, .unOp .not 4 (.tmp 75), 4, "l11_safe.go:101", #[⟨18, .data⟩, ⟨7, .guard⟩], some (7, true)⟩
abbrev q2fa_13_13_20 : Oper := ⟨some 77, .pick (.tmp 64) (.tmp 76) (.const (.bool false)), 4, "l11_safe.go:101", #[⟨7, .data⟩, ⟨19, .data⟩], none⟩
abbrev q2fa_13_12_0 : Oper := ⟨some 48, .load 33 (.tmp 1), 33, "l11_safe.go:100", #[], none⟩
abbrev q2fa_13_12_1 : Oper := ⟨some 49, .fieldAddr 73 (.tmp 5) 2, 0, "l11_safe.go:100", #[], none⟩
abbrev q2fa_13_12_2 : Oper := ⟨some 50, .load 46 (.tmp 49), 46, "l11_safe.go:100", #[⟨1, .data⟩], none⟩
abbrev q2fa_13_12_3 : Oper := ⟨some 51, .move (.tmp 7), 3, "l11_safe.go:100", #[], none⟩
abbrev q2fa_13_12_4 : Oper := ⟨some 52, .indexAddr 46 (.tmp 50) (.tmp 51), 0, "l11_safe.go:100", #[⟨2, .data⟩, ⟨3, .data⟩], none⟩
abbrev q2fa_13_12_5 : Oper := ⟨some 53, .load 43 (.tmp 52), 43, "l11_safe.go:100", #[⟨4, .data⟩], none⟩
abbrev q2fa_13_12_10 : Oper := ⟨some 8, .alloc 45, 0, "l11_safe.go:100", #[], none⟩
abbrev q2fa_13_12_6 : Oper := ⟨some 54, .call { callee := .value (.func 36), args := #[.tmp 48, .tmp 53], argTypes := #[33, 43] }, 74, "l11_safe.go:100", #[⟨0, .data⟩, ⟨5, .data⟩], none⟩
abbrev q2fa_13_12_7 : Oper := ⟨some 47, .move (.tmp 54), 74, "l11_safe.go:100", #[⟨6, .data⟩], none⟩
abbrev q2fa_13_12_8 : Oper := ⟨some 55, .extract (.tmp 47) 0, 45, "l11_safe.go:100", #[⟨7, .data⟩], none⟩
abbrev q2fa_13_12_9 : Oper := ⟨some 56, .extract (.tmp 47) 1, 4, "l11_safe.go:100", #[⟨7, .data⟩, { on := 11, ground := Ground.gcOnly Departure.lateStores }], none⟩
abbrev q2fa_13_12_11 : Oper := ⟨none, .store 45 (.tmp 8) (.tmp 55), 0, "l11_safe.go:100", #[⟨10, .data⟩, ⟨8, .data⟩, ⟨6, .chain⟩, ⟨0, .phase⟩, ⟨1, .phase⟩, ⟨2, .phase⟩, ⟨3, .phase⟩, ⟨4, .phase⟩, ⟨5, .phase⟩, ⟨6, .phase⟩, ⟨7, .phase⟩, ⟨8, .phase⟩, { on := 9, ground := Ground.textOnly Departure.lateStores }, ⟨10, .phase⟩], none⟩
abbrev q2fa_13_12_12 : Oper := ⟨some 9, .assign (.tmp 56), 4, "l11_safe.go:100", #[⟨9, .data⟩, ⟨11, .chain⟩, ⟨0, .phase⟩, ⟨1, .phase⟩, ⟨2, .phase⟩, ⟨3, .phase⟩, ⟨4, .phase⟩, ⟨5, .phase⟩, ⟨6, .phase⟩, ⟨7, .phase⟩, ⟨8, .phase⟩, ⟨9, .phase⟩, ⟨10, .phase⟩, ⟨11, .phase⟩], none⟩

/-- Of a command that was asked for, one that is sure under its dot, and one dot that was answered ahead of it. -/
def timD (l : List MAsked) (a : MAsked) (x : MRec) (d : MDot) : Bool := match askP l d with
  | some c => !meetP c a.fC || hasD x.fDeps d
  | none => true
def timX (l : List MAsked) (a : MAsked) (x : MRec) : Bool := !sameD x.fD a.fD || a.fBefore.all (timD l a x)
def timP (m : MCluster) : Bool := m.fAsked.all fun a => (sureF m.fReps).all (timX m.fAsked a)
theorem all_at {α : Type} {f : α → Bool} {l : List α} (h : ∀ j, (hj : j < l.length) → f l[j] = true) : l.all f = true := by
  rw [List.all_eq_true]
  intro x hx
  obtain ⟨j, hj, rfl⟩ := List.mem_iff_getElem.1 hx
  exact h j hj
theorem all_no {α : Type} {f : α → Bool} {l : List α} {k : Nat} (hk : k < l.length) (h : f l[k] = false) : l.all f = false := by
  rw [List.all_eq_false]
  exact ⟨l[k], List.getElem_mem hk, by rw [h]; decide⟩
theorem deps_small : ∀ {l : List MReplica} {x : MRec}, x ∈ sureF l → x.fDeps.length ≤ sumW wReplica l
  | [], x, h => by simp [sureF] at h
  | r :: l, x, h => by
    unfold sureF at h
    rw [List.flatMap_cons] at h
    simp only [sumW]
    rcases List.mem_append.1 h with h | h
    · have hm := (List.mem_filter.1 h).1
      obtain ⟨j, hj, rfl⟩ := List.mem_iff_getElem.1 hm
      have h1 := sumW_le (f := wRec) hj
      have h2 : r.fRecs[j].fDeps.length ≤ wRec r.fRecs[j] := by unfold wRec; omega
      have h3 : sumW wRec r.fRecs ≤ wReplica r := by unfold wReplica; omega
      omega
    · have := deps_small (l := l) h
      omega
theorem before_small {m : MCluster} (hw : wCluster m ≤ 1048576) : ∀ i, (hi : i < m.fAsked.length) → m.fAsked[i].fBefore.length ≤ 1048576 := fun i hi => by
  have h1 := sumW_le (f := wAsked) hi
  have h2 : m.fAsked[i].fBefore.length ≤ wAsked m.fAsked[i] := by unfold wAsked; omega
  unfold wCluster at hw
  omega
theorem deps_le {m : MCluster} (hw : wCluster m ≤ 1048576) : ∀ i, (hi : i < (sureF m.fReps).length) → (sureF m.fReps)[i].fDeps.length ≤ 1048576 := fun i hi => by
  have h1 := deps_small (List.getElem_mem hi)
  unfold wCluster at hw
  omega
set_option maxHeartbeats 8000000 in
theorem timS_any (cs : List Value) (m : MCluster) (w : World) (hr : rCluster w.heap.size w cs m) (hw : wCluster m ≤ 1048576) :
    Calls Try.prog 13 #[.agg cs.toArray] w fun e w' => e = .returned (.bool (timP m)) ∧ Below w.heap.size w w' := by
  have HR := Hid.mk hr
  have HWC := Hid.mk hw
  obtain ⟨a0, c0, a1, c1, a2, c2, rfl, _⟩ := hr
  have hn2 : m.fAsked.length ≤ 1048576 := by unfold wCluster at hw; omega
  have hnL : (sureF m.fReps).length ≤ 1048576 := by have := sureF_len m.fReps; unfold wCluster at hw; omega
  obtain ⟨w0, hw0⟩ : ∃ q, q = w.alloc (.cells #[.slice a0 m.fReps.length c0, .slice a1 m.fNet.length c1, .slice a2 m.fAsked.length c2] 33) := ⟨_, rfl⟩
  have hb0 : Below w.heap.size w w0 := by rw [hw0]; exact (Below.refl _ _).alloc (Nat.le_refl _) _
  have hq0 : Bw w0 w.heap.size 33 [.slice a0 m.fReps.length c0, .slice a1 m.fNet.length c1, .slice a2 m.fAsked.length c2] := by rw [hw0]; exact Bw.new _ _ _
  have HB0 := Hid.mk hb0
  have HQ0 := Hid.mk hq0
  have HWA := Hid.mk (before_small hw)
  have HWD := Hid.mk (deps_le hw)
  clear hb0 hq0 hw
  go_enter Try.func13, Try.ntmps13
  go_wp2_with fail
  rw [← hw0]
  clear hw0
  refine (sureS_any _ m w0 (rCluster_good.mono (rCluster_good.below HR.out HB0.out) HB0.out.size) HWC.out).mono ?_
  rintro e w1 ⟨vL, rfl, hrow, hx1⟩
  obtain ⟨aL, cL, hvL, hLf⟩ := hrow.leaf rRec_good hx1.size
  subst hvL
  have HB1 : Hid (Below w.heap.size w w1) := bthen HB0.out hx1
  have HQ1 := Hid.mk (HQ0.out.under hx1)
  have HCR : Hid (rCluster w1.heap.size w1 [.slice a0 m.fReps.length c0, .slice a1 m.fNet.length c1, .slice a2 m.fAsked.length c2] m) := rCluster_good.mono (rCluster_good.below HR.out HB1.out) HB1.out.size
  have HLL := Hid.mk hLf
  have HAL : Hid (LeafL 6 rAsked w1.heap.size w1 a2 c2 m.fAsked) := by
    obtain ⟨_, _, _, _, _, _, he, _, _, h3, _⟩ := HCR.out
    injection he with e0 he; injection he with e1 he; injection he with e2 he; injection e2 with e3 e4 e5
    subst e3 e5; exact h3
  have HTY : Hid ((∀ j, (hj : j < m.fAsked.length) → (sureF m.fReps).all (timX m.fAsked m.fAsked[j]) = true) → timP m = true) := fun h => all_at h
  have HTN : Hid (∀ i k (hi : i < m.fAsked.length) (hk : k < (sureF m.fReps).length), timX m.fAsked m.fAsked[i] (sureF m.fReps)[k] = false → timP m = false) := fun i k hi hk h => all_no hi (all_no hk h)
  clear hrow hx1 hLf HB0 HQ0 HR
  obtain ⟨TP, hTP⟩ : ∃ q, q = timP m := ⟨_, rfl⟩
  rw [← hTP] at HTY HTN
  have HTP := Hid.mk hTP
  clear hTP
  obtain ⟨N0, hN0⟩ : ∃ q, q = m.fReps.length := ⟨_, rfl⟩
  obtain ⟨N1, hN1⟩ : ∃ q, q = m.fNet.length := ⟨_, rfl⟩
  have HNB : Hid (N0 = m.fReps.length ∧ N1 = m.fNet.length) := ⟨hN0, hN1⟩
  rw [← hN0, ← hN1] at HQ1
  have HASK := Hid.mk (fun (ds : List Value) (d : MDot) (W : World) (h : Below w1.heap.size w1 W) (hd : rDot W.heap.size W ds d) => askS_any _ m ds d W (rCluster_good.mono (rCluster_good.below HCR.out h) h.size) hd HWC.out)
  rw [← hN0, ← hN1] at HASK
  clear hN0 hN1 HCR
  generalize sureF m.fReps = L at *
  obtain ⟨l, hl⟩ : ∃ q, q = m.fAsked := ⟨_, rfl⟩
  rw [← hl] at hn2 HQ1 HAL HTY HTN HASK
  have HWA : Hid (∀ i, (hi : i < l.length) → l[i].fBefore.length ≤ 1048576) := by show ∀ i, _; rw [hl]; exact HWA.out
  try rw [← hl]
  clear hl
  obtain ⟨n, hn⟩ : ∃ q, l.length = q := ⟨_, rfl⟩
  obtain ⟨nL, hnLq⟩ : ∃ q, L.length = q := ⟨_, rfl⟩
  have HNn := Hid.mk hn
  have HNL := Hid.mk hnLq
  rw [hn] at hn2 HQ1 HASK
  rw [hnLq] at hnL
  try rw [hn]
  try rw [hnLq]
  clear hn hnLq
  go_wp2_with fail
  go_loopw [4] (fun i wr => ∃ k : Nat, k ≤ n ∧ i = .int .i64 k ∧ Hid (∀ j, (hj : j < l.length) → j < k → L.all (timX l l[j]) = true) ∧ Below w1.heap.size w1 wr) (fun i _ => n - (intOf i).toNat)
  case atStart => exact ⟨0, Nat.zero_le _, rfl, Hid.mk (fun j _ h => absurd h (Nat.not_lt_zero j)), Below.refl _ _⟩
  case round =>
    obtain ⟨i, hi, rfl, HI, hbk⟩ := hrel
    have xb2 := (HQ1.out.under hbk).cell 2 _ rfl
    have hlb := (HQ1.out.under hbk).lt
    by_cases hlt : i < n
    · have hil : i < l.length := by rw [HNn.out]; exact hlt
      obtain ⟨b1, o1, rfl, hB, cs, hcl, hcell, a5, c5, rfl, g0, g1, g2, g3, g4, hBF, _⟩ := HAL.out.2.2 i hil
      have HTNi : Hid (∀ k (hk : k < L.length), timX l l[i] L[k] = false → TP = false) := fun k hk h => HTN.out i k hil hk h
      have HIN : Hid (L.all (timX l l[i]) = true → ∀ j, (hj : j < l.length) → j < i + 1 → L.all (timX l l[j]) = true) := fun h j hj hjk => by
        rcases Nat.lt_succ_iff_lt_or_eq.1 hjk with g | g
        · exact HI.out j hj g
        · subst g; exact h
      have hnb : l[i].fBefore.length ≤ 1048576 := HWA.out i hil
      obtain ⟨a, haq⟩ : ∃ q, l[i] = q := ⟨_, rfl⟩
      rw [haq] at hcell hBF HTNi HIN hnb g0 g1 g2 g3 g4
      have k0 := (hbk.cell (p := ⟨b1, o1 + i * 6 + 0, none⟩) hB).trans (hcell 0 _ rfl)
      have k1 := (hbk.cell (p := ⟨b1, o1 + i * 6 + 1, none⟩) hB).trans (hcell 1 _ rfl)
      have k2 := (hbk.cell (p := ⟨b1, o1 + i * 6 + 2, none⟩) hB).trans (hcell 2 _ rfl)
      have k3 := (hbk.cell (p := ⟨b1, o1 + i * 6 + 3, none⟩) hB).trans (hcell 3 _ rfl)
      have k4 := (hbk.cell (p := ⟨b1, o1 + i * 6 + 4, none⟩) hB).trans (hcell 4 _ rfl)
      have k5 := (hbk.cell (p := ⟨b1, o1 + i * 6 + 5, none⟩) hB).trans (hcell 5 _ rfl)
      rw [Nat.add_zero] at k0
      have HBF := Hid.mk hBF
      have HG := Hid.mk (And.intro g0 (And.intro g1 (And.intro g2 (And.intro g3 g4))))
      clear hcell hcl haq hBF HI g0 g1 g2 g3 g4
      obtain ⟨nb, hnbq⟩ : ∃ q, a.fBefore.length = q := ⟨_, rfl⟩
      rw [hnbq] at k5 hnb
      have HNb := Hid.mk hnbq
      clear hnbq
      obtain ⟨Wa, hWa⟩ : ∃ Wa, Wa = wr.alloc (.cells #[.int .i64 a.fD.fR, .int .i64 a.fD.fN, .int .i64 a.fC.fKind, .string a.fC.fKey, .string a.fC.fVal, .slice a5 nb c5] 73) := ⟨_, rfl⟩
      obtain ⟨bA, hbA⟩ : ∃ q, q = wr.heap.size := ⟨_, rfl⟩
      have HBA : Hid (Bw Wa bA 73 [.int .i64 a.fD.fR, .int .i64 a.fD.fN, .int .i64 a.fC.fKind, .string a.fC.fKey, .string a.fC.fVal, .slice a5 nb c5]) := by show Bw _ _ _ _; rw [hWa]; exact Bw.new' _ _ _ hbA
      have HBW : Hid (Below w1.heap.size w1 Wa) := by show Below _ _ _; rw [hWa]; exact hbk.alloc hbk.size _
      have hB' : b1 < wr.heap.size := Nat.lt_of_lt_of_le hB hbk.size
      go_wp2_with fail
      rw [← hWa]
      rw [← hbA]
      clear hWa hbA k0 k1 k2 k3 k4 k5 xb2 hlb hbk hB' hB
      go_loopw [6] (fun j wv => ∃ k : Nat, k ≤ nL ∧ j = .int .i64 k ∧ Hid (∀ q, (hq : q < L.length) → q < k → timX l a L[q] = true) ∧ Below Wa.heap.size Wa wv) (fun j _ => nL - (intOf j).toNat)
      case atStart => exact ⟨0, Nat.zero_le _, rfl, Hid.mk (fun j _ h => absurd h (Nat.not_lt_zero j)), Below.refl _ _⟩
      case round =>
        obtain ⟨k, hk, rfl, HK, hbv⟩ := hrel
        by_cases hkt : k < nL
        · have hkl : k < L.length := by rw [HNL.out]; exact hkt
          obtain ⟨b2, o2, rfl, hB2, cs2, hcl2, hcell2, a6, c6, rfl, q0, q1, q2, q3, q4, hLD, _⟩ := HLL.out.2.2 k hkl
          have HKN : Hid (timX l a L[k] = true → ∀ q, (hq : q < L.length) → q < k + 1 → timX l a L[q] = true) := fun h q hq hqk => by
            rcases Nat.lt_succ_iff_lt_or_eq.1 hqk with g | g
            · exact HK.out q hq g
            · subst g; exact h
          have HTF : Hid (timX l a L[k] = false → TP = false) := fun h => HTNi.out k hkl h
          have hnd : L[k].fDeps.length ≤ 1048576 := HWD.out k hkl
          have HC2 : Hid (∀ W, Below w1.heap.size w1 W → W.cell? ⟨b2, o2 + k * 7, none⟩ = some (.int .i64 L[k].fD.fR) ∧ W.cell? ⟨b2, o2 + k * 7 + 1, none⟩ = some (.int .i64 L[k].fD.fN) ∧ W.cell? ⟨b2, o2 + k * 7 + 5, none⟩ = some (.slice a6 L[k].fDeps.length c6)) := fun W h =>
            ⟨(h.cell (p := ⟨b2, o2 + k * 7, none⟩) hB2).trans (hcell2 0 _ rfl), (h.cell (p := ⟨b2, o2 + k * 7 + 1, none⟩) hB2).trans (hcell2 1 _ rfl), (h.cell (p := ⟨b2, o2 + k * 7 + 5, none⟩) hB2).trans (hcell2 5 _ rfl)⟩
          have HLD := Hid.mk hLD
          have HB2 := Hid.mk hB2
          clear hcell2 hcl2 hLD HK q0 q1 q2 q3 q4 hB2
          generalize L[k] = x at *
          go_wp2_with fail
          go_loopw [7] (fun j wv => ∃ p : Nat, p ≤ nb ∧ j = .int .i64 p ∧ Hid (∀ q, (hq : q < a.fBefore.length) → q < p → timD l a x a.fBefore[q] = true) ∧ Below Wa.heap.size Wa wv) (fun j _ => nb - (intOf j).toNat)
          case atStart => exact ⟨0, Nat.zero_le _, rfl, Hid.mk (fun j _ h => absurd h (Nat.not_lt_zero j)), hbv⟩
          case round =>
            clear hbv
            obtain ⟨p, hp, rfl, HP, hbp⟩ := hrel
            have hbw1 : Below w1.heap.size w1 wr := bthen HBW.out hbp
            have HBAp := Hid.mk (HBA.out.under hbp)
            have y0 : ∀ W, Below wr.heap.size wr W → W.cell? ⟨bA, 0, none⟩ = some (.int .i64 a.fD.fR) := fun W h => (HBAp.out.under h).cell 0 _ rfl
            have y1 : ∀ W, Below wr.heap.size wr W → W.cell? ⟨bA, 1, none⟩ = some (.int .i64 a.fD.fN) := fun W h => (HBAp.out.under h).cell 1 _ rfl
            have y5 : ∀ W, Below wr.heap.size wr W → W.cell? ⟨bA, 5, none⟩ = some (.slice a5 nb c5) := fun W h => (HBAp.out.under h).cell 5 _ rfl
            have x0 : ∀ W, Below wr.heap.size wr W → W.cell? ⟨b2, o2 + k * 7, none⟩ = some (.int .i64 x.fD.fR) := fun W h => (HC2.out W (bthen hbw1 h)).1
            have x1 : ∀ W, Below wr.heap.size wr W → W.cell? ⟨b2, o2 + k * 7 + 1, none⟩ = some (.int .i64 x.fD.fN) := fun W h => (HC2.out W (bthen hbw1 h)).2.1
            have hk1 : (0 : Int) ≤ (k : Int) := by omega
            have hk2 : (k : Int) < (nL : Int) := by omega
            have hB2' : b2 < wr.heap.size := Nat.lt_of_lt_of_le HB2.out hbw1.size
            by_cases hpt : p < nb
            · have hp2 : (p : Int) < (nb : Int) := by omega
              have hp2' : decide ((p : Int) < (nb : Int)) = true := decide_eq_true hp2
              by_cases hs : sameD x.fD a.fD = true
              · have hq1 := (sameD_eq hs).1
                have hq2 := (sameD_eq hs).2
                rw [hq1] at x0
                rw [hq2] at x1
                have HSX : Hid (∀ q, timD l a x q = false → q ∈ a.fBefore → timX l a x = false) := fun q h hm => by unfold timX; rw [hs, List.all_eq_false.2 ⟨q, hm, by rw [h]; decide⟩]; rfl
                clear hq1 hq2 hs
                go_wp2_with fail
                refine wp_region_held_drew (S := fun W => Below wr.heap.size wr W) (by kernel_rfl) (Below.drew (Below.refl _ _)) (fun hHeld => ?_)
                refine tk 0 q2fa_13_10_0 (some 30) (v := ?v1) rfl rfl (by kernel_rfl) hHeld (by rfl) (fun _ _ _ x => x) (fun w h => ?y1) ?_; (case y1 => (try dsimp only at h); go_simp; try (with_reducible rfl)); try simp only [Act.put, sa, s0, s1]
                refine tk 1 q2fa_13_10_1 (some 31) (v := ?v2) rfl rfl (by kernel_rfl) hHeld (by rfl) (fun _ _ _ x => x) (fun w h => ?y2) ?_; (case y2 => (try dsimp only at h); go_simp; try (with_reducible rfl)); try simp only [Act.put, sa, s0, s1]
                refine tk 2 q2fa_13_10_2 (some 32) (v := ?v3) rfl rfl (by kernel_rfl) hHeld (by rfl) (fun _ _ _ x => x) (fun w h => ?y3) ?_; (case y3 => (try dsimp only at h); go_simp; try (with_reducible rfl)); try simp only [Act.put, sa, s0, s1]
                refine tk 3 q2fa_13_10_3 (some 33) (v := ?v4) rfl rfl (by kernel_rfl) hHeld (by rfl) (fun _ _ _ x => x) (fun w h => ?y4) ?_; (case y4 => (try dsimp only at h); go_simp; try (with_reducible rfl)); try simp only [Act.put, sa, s0, s1]
                refine tk 4 q2fa_13_10_4 (some 34) (v := ?v5) rfl rfl (by kernel_rfl) hHeld (by rfl) (fun _ _ _ x => x) (fun w h => ?y5) ?_; (case y5 => (try dsimp only at h); go_simp; try (with_reducible rfl)); try simp only [Act.put, sa, s0, s1]
                refine tk 5 q2fa_13_10_5 (some 35) (v := ?v6) rfl rfl (by kernel_rfl) hHeld (by rfl) (fun _ _ _ x => x) (fun w h => ?y6) ?_; (case y6 => (try dsimp only at h); go_simp; try (with_reducible rfl)); try simp only [Act.put, sa, s0, s1]
                refine tk 6 q2fa_13_10_6 (some 36) (v := ?v7) rfl rfl (by kernel_rfl) hHeld (by rfl) (fun _ _ _ x => x) (fun w h => ?y7) ?_; (case y7 => (try dsimp only at h); go_simp; try (with_reducible rfl)); try simp only [Act.put, sa, s0, s1]
                refine tk 7 q2fa_13_10_7 (some 37) (v := ?v8) rfl rfl (by kernel_rfl) hHeld (by rfl) (fun _ _ _ x => x) (fun w h => ?y8) ?_; (case y8 => (try dsimp only at h); go_simp; try (with_reducible rfl)); try simp only [Act.put, sa, s0, s1]
                refine tk 8 q2fa_13_10_8 (some 38) (v := ?v9) rfl rfl (by kernel_rfl) hHeld (by rfl) (fun _ _ _ x => x) (fun w h => ?y9) ?_; (case y9 => (try dsimp only at h); go_simp; try (with_reducible rfl)); try simp only [Act.put, sa, s0, s1]
                refine tk 9 q2fa_13_10_9 (some 39) (v := ?v10) rfl rfl (by kernel_rfl) hHeld (by rfl) (fun _ _ _ x => x) (fun w h => ?y10) ?_; (case y10 => (try dsimp only at h); go_simp; try (with_reducible rfl)); try simp only [Act.put, sa, s0, s1]
                refine tk 10 q2fa_13_10_10 (some 40) (v := ?v11) rfl rfl (by kernel_rfl) hHeld (by rfl) (fun _ _ _ x => x) (fun w h => ?y11) ?_; (case y11 => (try dsimp only at h); go_simp; try (with_reducible rfl)); try simp only [Act.put, sa, s0, s1]
                refine tk 11 q2fa_13_10_11 (some 41) (v := ?v12) rfl rfl (by kernel_rfl) hHeld (by rfl) (fun _ _ _ x => x) (fun w h => ?y12) ?_; (case y12 => (try dsimp only at h); go_simp; try (with_reducible rfl)); try simp only [Act.put, sa, s0, s1]
                refine tk 12 q2fa_13_10_12 (some 42) (v := ?v13) rfl rfl (by kernel_rfl) hHeld (by rfl) (fun _ _ _ x => x) (fun w h => ?y13) ?_; (case y13 => (try dsimp only at h); go_simp; try (with_reducible rfl)); try simp only [Act.put, sa, s0, s1]
                refine tk 13 q2fa_13_10_13 (some 43) (v := ?v14) rfl rfl (by kernel_rfl) hHeld (by rfl) (fun _ _ _ x => x) (fun w h => ?y14) ?_; (case y14 => (try dsimp only at h); go_simp; try (with_reducible rfl)); try simp only [Act.put, sa, s0, s1]
                refine tk 14 q2fa_13_10_14 (some 44) (v := ?v15) rfl rfl (by kernel_rfl) hHeld (by rfl) (fun _ _ _ x => x) (fun w h => ?y15) ?_; (case y15 => (try dsimp only at h); go_simp; try (with_reducible rfl)); try simp only [Act.put, sa, s0, s1]
                refine wpAnyH_done (by kernel_rfl) ?_ _
                have hbr := bthen hbp hHeld
                obtain ⟨wz, hwz⟩ : ∃ q, q = wr.drew := ⟨_, rfl⟩
                rw [← hwz] at hbr ⊢
                clear hwz hHeld x0 x1 y0 y1 y5 HBAp hbw1 hB2'
                have hbz1 : Below w1.heap.size w1 wz := bthen HBW.out hbr
                have HBAz := Hid.mk (HBA.out.under hbr)
                have hpl : p < a.fBefore.length := by rw [HNb.out]; exact hpt
                obtain ⟨b3, o3, rfl, hB3, cs3, hcl3, hcell3, rfl, e0, e1, _⟩ := HBF.out.2.2 p hpl
                have HC3 : Hid (∀ W, Below w1.heap.size w1 W → W.cell? ⟨b3, o3 + p * 2, none⟩ = some (.int .i64 a.fBefore[p].fR) ∧ W.cell? ⟨b3, o3 + p * 2 + 1, none⟩ = some (.int .i64 a.fBefore[p].fN)) := fun W h =>
                  ⟨(h.cell (p := ⟨b3, o3 + p * 2, none⟩) hB3).trans (hcell3 0 _ rfl), (h.cell (p := ⟨b3, o3 + p * 2 + 1, none⟩) hB3).trans (hcell3 1 _ rfl)⟩
                have HB3 := Hid.mk hB3
                have HPN : Hid (timD l a x a.fBefore[p] = true → ∀ q, (hq : q < a.fBefore.length) → q < p + 1 → timD l a x a.fBefore[q] = true) := fun h q hq hqk => by
                  rcases Nat.lt_succ_iff_lt_or_eq.1 hqk with g | g
                  · exact HP.out q hq g
                  · subst g; exact h
                have HPF : Hid (timD l a x a.fBefore[p] = false → TP = false) := fun h => HTF.out (HSX.out _ h (List.getElem_mem hpl))
                clear hcell3 hcl3 HP hB3 HSX
                generalize a.fBefore[p] = d at *
                obtain ⟨c, hcq⟩ : ∃ q, q = (askP l d).getD noCmd := ⟨_, rfl⟩
                obtain ⟨ok, hokq⟩ : ∃ q, q = (askP l d).isSome := ⟨_, rfl⟩
                have HCC := Hid.mk hcq
                have HOK := Hid.mk hokq
                clear hcq hokq
                have zc0 : ∀ W, Below wz.heap.size wz W → W.cell? ⟨w.heap.size, 0, none⟩ = some (.slice a0 N0 c0) := fun W h => ((HQ1.out.under hbz1).under h).cell 0 _ rfl
                have zc1 : ∀ W, Below wz.heap.size wz W → W.cell? ⟨w.heap.size, 1, none⟩ = some (.slice a1 N1 c1) := fun W h => ((HQ1.out.under hbz1).under h).cell 1 _ rfl
                have zc2 : ∀ W, Below wz.heap.size wz W → W.cell? ⟨w.heap.size, 2, none⟩ = some (.slice (some ⟨b1, o1, none⟩) n c2) := fun W h => ((HQ1.out.under hbz1).under h).cell 2 _ rfl
                have y5 : ∀ W, Below wz.heap.size wz W → W.cell? ⟨bA, 5, none⟩ = some (.slice (some ⟨b3, o3, none⟩) nb c5) := fun W h => (HBAz.out.under h).cell 5 _ rfl
                have v0 : ∀ W, Below wz.heap.size wz W → W.cell? ⟨b3, o3 + p * 2, none⟩ = some (.int .i64 d.fR) := fun W h => (HC3.out W (bthen hbz1 h)).1
                have v1 : ∀ W, Below wz.heap.size wz W → W.cell? ⟨b3, o3 + p * 2 + 1, none⟩ = some (.int .i64 d.fN) := fun W h => (HC3.out W (bthen hbz1 h)).2
                have hp1 : (0 : Int) ≤ (p : Int) := by omega
                go_wp2_with fail
                go_cut [8, 9] (fun x8 x9 wc => ∃ g8 : Nat, x8 = .pointer (some ⟨g8, 0, none⟩) ∧ x9 = .bool ok ∧ Hid (Bw wc g8 45 [.int .i64 c.fKind, .string c.fKey, .string c.fVal]) ∧ Hid ((Lit.int .i64 c.fKind).wf = true ∧ c.fKey.size ≤ 9223372036854775807 ∧ c.fVal.size ≤ 9223372036854775807) ∧ Below wz.heap.size wz wc)
                case first =>
                  refine wp_region_held_drew (S := fun W => Below wz.heap.size wz W) (by kernel_rfl) (Below.drew (Below.refl _ _)) (fun hHeld => ?_)
                  obtain ⟨wS, hwS⟩ : ∃ wS, wS = wz.drew := ⟨_, rfl⟩
                  rw [← hwS] at hHeld ⊢
                  clear hwS
                  refine tk 0 q2fa_13_12_0 (some 48) (v := ?v140) rfl rfl (by kernel_rfl) hHeld (by rfl) (fun _ _ _ x => x) (fun w h => ?y140) ?_; (case y140 => (try dsimp only at h); go_simp; try (with_reducible rfl)); try simp only [Act.put, sa, s0, s1]
                  refine tk 1 q2fa_13_12_1 (some 49) (v := ?v141) rfl rfl (by kernel_rfl) hHeld (by rfl) (fun _ _ _ x => x) (fun w h => ?y141) ?_; (case y141 => (try dsimp only at h); go_simp; try (with_reducible rfl)); try simp only [Act.put, sa, s0, s1]
                  refine tk 2 q2fa_13_12_2 (some 50) (v := ?v142) rfl rfl (by kernel_rfl) hHeld (by rfl) (fun _ _ _ x => x) (fun w h => ?y142) ?_; (case y142 => (try dsimp only at h); go_simp; try (with_reducible rfl)); try simp only [Act.put, sa, s0, s1]
                  refine tk 3 q2fa_13_12_3 (some 51) (v := ?v143) rfl rfl (by kernel_rfl) hHeld (by rfl) (fun _ _ _ x => x) (fun w h => ?y143) ?_; (case y143 => (try dsimp only at h); go_simp; try (with_reducible rfl)); try simp only [Act.put, sa, s0, s1]
                  refine tk 4 q2fa_13_12_4 (some 52) (v := ?v144) rfl rfl (by kernel_rfl) hHeld (by rfl) (fun _ _ _ x => x) (fun w h => ?y144) ?_; (case y144 => (try dsimp only at h); go_simp; try (with_reducible rfl)); try simp only [Act.put, sa, s0, s1]
                  refine tk 5 q2fa_13_12_5 (some 53) (v := ?v145) rfl rfl (by kernel_rfl) hHeld (by rfl) (fun _ _ _ x => x) (fun w h => ?y145) ?_; (case y145 => (try dsimp only at h); go_simp; try (with_reducible rfl)); try simp only [Act.put, sa, s0, s1]
                  refine wpAnyH_ready (rs := [6, 10]) (by kernel_rfl) (by simp) ?_
                  refine (AllReadyH.cons (o := q2fa_13_12_6) rfl (fun K hK => ?_) (AllReadyH.cons (o := q2fa_13_12_10) rfl (fun K hK => ?_) AllReadyH.nil))
                  · go_simp
                    refine (HASK.out [.int .i64 d.fR, .int .i64 d.fN] d wS (bthen hbz1 hHeld) ⟨rfl, e0, e1, trivial⟩).mono ?_
                    rintro e wE6 ⟨cc, rfl, hrc, hop6⟩
                    obtain ⟨rfl, u0, u1, u2, _⟩ := hrc
                    have HU := Hid.mk (And.intro u0 (And.intro u1 u2))
                    rw [← HCC.out] at HU ⊢
                    rw [← HOK.out]
                    clear u0 u1 u2
                    go_wp2_with fail
                    refine hK.out _ _ (bthen hHeld hop6) (fun hHeld => ?_)
                    clear hK K
                    try simp only [Act.put, sa, s0, s1]
                    refine tk 7 q2fa_13_12_7 (some 47) (v := ?v146) rfl rfl (by kernel_rfl) hHeld (by rfl) (fun _ _ _ x => x) (fun w h => ?y146) ?_; (case y146 => (try dsimp only at h); go_simp; try (with_reducible rfl)); try simp only [Act.put, sa, s0, s1]
                    refine tk 8 q2fa_13_12_8 (some 55) (v := ?v147) rfl rfl (by kernel_rfl) hHeld (by rfl) (fun _ _ _ x => x) (fun w h => ?y147) ?_; (case y147 => (try dsimp only at h); go_simp; try (with_reducible rfl)); try simp only [Act.put, sa, s0, s1]
                    refine tk 9 q2fa_13_12_9 (some 56) (v := ?v148) rfl rfl (by kernel_rfl) hHeld (by rfl) (fun _ _ _ x => x) (fun w h => ?y148) ?_; (case y148 => (try dsimp only at h); go_simp; try (with_reducible rfl)); try simp only [Act.put, sa, s0, s1]
                    refine wpAnyH_ready (rs := [10]) (by kernel_rfl) (by simp) ?_
                    refine (AllReadyH.cons (o := q2fa_13_12_10) rfl (fun K hK => ?_) AllReadyH.nil)
                    · go_simp
                      obtain ⟨wE10, hq10⟩ : ∃ q, q = wE6.alloc (.cells (List.toArray [.int .i64 0, .string ⟨#[]⟩, .string ⟨#[]⟩]) 45) := ⟨_, rfl⟩
                      have hop10 : Below wE6.heap.size wE6 wE10 := by rw [hq10]; exact (Below.refl _ _).alloc (Nat.le_refl _) _
                      obtain ⟨g8, HG8⟩ : ∃ z, Hid (z = wE6.heap.size) := ⟨_, Hid.mk rfl⟩
                      have HB10 : Hid (Bw wE10 g8 45 [.int .i64 0, .string ⟨#[]⟩, .string ⟨#[]⟩]) := by unfold Hid; rw [HG8.out, hq10]; exact Bw.new _ _ _
                      have HGL : Hid (wz.heap.size ≤ g8) := by unfold Hid; rw [HG8.out]; exact hHeld.size
                      rw [← HG8.out]
                      rw [← hq10]
                      clear hq10
                      refine hK.out _ _ (bthen hHeld hop10) (fun hHeld => ?_)
                      clear hK K
                      try simp only [Act.put, sa, s0, s1]
                      refine wpAnyH_ready (rs := [11]) (by kernel_rfl) (by simp) ?_
                      refine (AllReadyH.cons (o := q2fa_13_12_11) rfl (fun K hK => ?_) AllReadyH.nil)
                      · skip
                        have hbd := HB10.out.under (show Below wE10.heap.size wE10 wE10 from Below.refl _ _)
                        have s0 := hbd.cell 0 _ rfl
                        have s1 := hbd.cell 1 _ rfl
                        have s2 := hbd.cell 2 _ rfl
                        have t0 := hbd.free 0
                        have t1 := hbd.free 1
                        have t2 := hbd.free 2
                        have s4 := hbd.lt
                        go_simp
                        obtain ⟨wE11, hq11⟩ : ∃ q, q = ((wE10.setCell ⟨g8, 0, none⟩ (.int .i64 c.fKind)).setCell ⟨g8, 1, none⟩ (.string c.fKey)).setCell ⟨g8, 2, none⟩ (.string c.fVal) := ⟨_, rfl⟩
                        have hT11 : Turn [g8] wE10 wE11 := by rw [hq11]; exact turn3u _ _ _ _ _
                        have HB11 : Hid (Bw wE11 g8 45 [.int .i64 c.fKind, .string c.fKey, .string c.fVal]) := by unfold Hid; rw [hq11]; exact ((hbd.put 0 _).put 1 _).put 2 _
                        have hop11 : Below wz.heap.size wz wE11 := hHeld.trans (hT11.below (fun k hk => by simp at hk; rw [hk]; exact HGL.out) hHeld.size)
                        rw [← hq11]
                        clear hq11 hT11 hbd s0 s1 s2 t0 t1 t2 s4
                        refine hK.out _ _ (hop11) (fun hHeld => ?_)
                        clear hK K
                        try simp only [Act.put, sa, s0, s1]
                        refine tk 12 q2fa_13_12_12 (some 9) (v := ?v149) rfl rfl (by kernel_rfl) hHeld (by rfl) (fun _ _ _ x => x) (fun w h => ?y149) ?_; (case y149 => (try dsimp only at h); go_simp; try (with_reducible rfl)); try simp only [Act.put, sa, s0, s1]
                        refine wpAnyH_done (by kernel_rfl) ?_ _
                        try go_wp2_with fail
                        go_meet
                        case rel => exact ⟨g8, rfl, rfl, HB11, HU, hHeld⟩
                  · go_simp
                    obtain ⟨wE10, hq10⟩ : ∃ q, q = wS.alloc (.cells (List.toArray [.int .i64 0, .string ⟨#[]⟩, .string ⟨#[]⟩]) 45) := ⟨_, rfl⟩
                    have hop10 : Below wS.heap.size wS wE10 := by rw [hq10]; exact (Below.refl _ _).alloc (Nat.le_refl _) _
                    obtain ⟨g8, HG8⟩ : ∃ z, Hid (z = wS.heap.size) := ⟨_, Hid.mk rfl⟩
                    have HB10 : Hid (Bw wE10 g8 45 [.int .i64 0, .string ⟨#[]⟩, .string ⟨#[]⟩]) := by unfold Hid; rw [HG8.out, hq10]; exact Bw.new _ _ _
                    have HGL : Hid (wz.heap.size ≤ g8) := by unfold Hid; rw [HG8.out]; exact hHeld.size
                    rw [← HG8.out]
                    rw [← hq10]
                    clear hq10
                    refine hK.out _ _ (bthen hHeld hop10) (fun hHeld => ?_)
                    clear hK K
                    try simp only [Act.put, sa, s0, s1]
                    refine wpAnyH_ready (rs := [6]) (by kernel_rfl) (by simp) ?_
                    refine (AllReadyH.cons (o := q2fa_13_12_6) rfl (fun K hK => ?_) AllReadyH.nil)
                    · go_simp
                      refine (HASK.out [.int .i64 d.fR, .int .i64 d.fN] d wE10 (bthen hbz1 hHeld) ⟨rfl, e0, e1, trivial⟩).mono ?_
                      rintro e wE6 ⟨cc, rfl, hrc, hop6⟩
                      obtain ⟨rfl, u0, u1, u2, _⟩ := hrc
                      have HU := Hid.mk (And.intro u0 (And.intro u1 u2))
                      rw [← HCC.out] at HU ⊢
                      rw [← HOK.out]
                      clear u0 u1 u2
                      go_wp2_with fail
                      refine hK.out _ _ (bthen hHeld hop6) (fun hHeld => ?_)
                      clear hK K
                      try simp only [Act.put, sa, s0, s1]
                      refine tk 7 q2fa_13_12_7 (some 47) (v := ?v150) rfl rfl (by kernel_rfl) hHeld (by rfl) (fun _ _ _ x => x) (fun w h => ?y150) ?_; (case y150 => (try dsimp only at h); go_simp; try (with_reducible rfl)); try simp only [Act.put, sa, s0, s1]
                      refine tk 8 q2fa_13_12_8 (some 55) (v := ?v151) rfl rfl (by kernel_rfl) hHeld (by rfl) (fun _ _ _ x => x) (fun w h => ?y151) ?_; (case y151 => (try dsimp only at h); go_simp; try (with_reducible rfl)); try simp only [Act.put, sa, s0, s1]
                      refine tk 9 q2fa_13_12_9 (some 56) (v := ?v152) rfl rfl (by kernel_rfl) hHeld (by rfl) (fun _ _ _ x => x) (fun w h => ?y152) ?_; (case y152 => (try dsimp only at h); go_simp; try (with_reducible rfl)); try simp only [Act.put, sa, s0, s1]
                      refine wpAnyH_ready (rs := [11]) (by kernel_rfl) (by simp) ?_
                      refine (AllReadyH.cons (o := q2fa_13_12_11) rfl (fun K hK => ?_) AllReadyH.nil)
                      · skip
                        have hbd := HB10.out.under (show Below wE10.heap.size wE10 wE6 from bthen (Below.refl _ _) hop6)
                        have s0 := hbd.cell 0 _ rfl
                        have s1 := hbd.cell 1 _ rfl
                        have s2 := hbd.cell 2 _ rfl
                        have t0 := hbd.free 0
                        have t1 := hbd.free 1
                        have t2 := hbd.free 2
                        have s4 := hbd.lt
                        go_simp
                        obtain ⟨wE11, hq11⟩ : ∃ q, q = ((wE6.setCell ⟨g8, 0, none⟩ (.int .i64 c.fKind)).setCell ⟨g8, 1, none⟩ (.string c.fKey)).setCell ⟨g8, 2, none⟩ (.string c.fVal) := ⟨_, rfl⟩
                        have hT11 : Turn [g8] wE6 wE11 := by rw [hq11]; exact turn3u _ _ _ _ _
                        have HB11 : Hid (Bw wE11 g8 45 [.int .i64 c.fKind, .string c.fKey, .string c.fVal]) := by unfold Hid; rw [hq11]; exact ((hbd.put 0 _).put 1 _).put 2 _
                        have hop11 : Below wz.heap.size wz wE11 := hHeld.trans (hT11.below (fun k hk => by simp at hk; rw [hk]; exact HGL.out) hHeld.size)
                        rw [← hq11]
                        clear hq11 hT11 hbd s0 s1 s2 t0 t1 t2 s4
                        refine hK.out _ _ (hop11) (fun hHeld => ?_)
                        clear hK K
                        try simp only [Act.put, sa, s0, s1]
                        refine tk 12 q2fa_13_12_12 (some 9) (v := ?v153) rfl rfl (by kernel_rfl) hHeld (by rfl) (fun _ _ _ x => x) (fun w h => ?y153) ?_; (case y153 => (try dsimp only at h); go_simp; try (with_reducible rfl)); try simp only [Act.put, sa, s0, s1]
                        refine wpAnyH_done (by kernel_rfl) ?_ _
                        try go_wp2_with fail
                        go_meet
                        case rel => exact ⟨g8, rfl, rfl, HB11, HU, hHeld⟩
                case rest =>
                  obtain ⟨g8, rfl, rfl, HB8, HU, hbc⟩ := hcut
                  clear zc0 zc1 zc2 y5 v0 v1
                  have hbz2 : Below w1.heap.size w1 wc := bthen hbz1 hbc
                  have hbaC : Below Wa.heap.size Wa wc := bthen hbr hbc
                  have HBAc := Hid.mk (HBA.out.under hbaC)
                  have w0c : ∀ W, Below wc.heap.size wc W → W.cell? ⟨g8, 0, none⟩ = some (.int .i64 c.fKind) := fun W h => (HB8.out.under h).cell 0 _ rfl
                  have w1c : ∀ W, Below wc.heap.size wc W → W.cell? ⟨g8, 1, none⟩ = some (.string c.fKey) := fun W h => (HB8.out.under h).cell 1 _ rfl
                  have w2c : ∀ W, Below wc.heap.size wc W → W.cell? ⟨g8, 2, none⟩ = some (.string c.fVal) := fun W h => (HB8.out.under h).cell 2 _ rfl
                  have y2 : ∀ W, Below wc.heap.size wc W → W.cell? ⟨bA, 2, none⟩ = some (.int .i64 a.fC.fKind) := fun W h => (HBAc.out.under h).cell 2 _ rfl
                  have y3 : ∀ W, Below wc.heap.size wc W → W.cell? ⟨bA, 3, none⟩ = some (.string a.fC.fKey) := fun W h => (HBAc.out.under h).cell 3 _ rfl
                  have y4 : ∀ W, Below wc.heap.size wc W → W.cell? ⟨bA, 4, none⟩ = some (.string a.fC.fVal) := fun W h => (HBAc.out.under h).cell 4 _ rfl
                  have y5 : ∀ W, Below wc.heap.size wc W → W.cell? ⟨bA, 5, none⟩ = some (.slice (some ⟨b3, o3, none⟩) nb c5) := fun W h => (HBAc.out.under h).cell 5 _ rfl
                  have x5 : ∀ W, Below wc.heap.size wc W → W.cell? ⟨b2, o2 + k * 7 + 5, none⟩ = some (.slice a6 x.fDeps.length c6) := fun W h => (HC2.out W (bthen hbz2 h)).2.2
                  have v0 : ∀ W, Below wc.heap.size wc W → W.cell? ⟨b3, o3 + p * 2, none⟩ = some (.int .i64 d.fR) := fun W h => (HC3.out W (bthen hbz2 h)).1
                  have v1 : ∀ W, Below wc.heap.size wc W → W.cell? ⟨b3, o3 + p * 2 + 1, none⟩ = some (.int .i64 d.fN) := fun W h => (HC3.out W (bthen hbz2 h)).2
                  clear hbc hbr hbz1
                  cases hoc : askP l d with
                  | none =>
                    have hok : ok = false := by rw [HOK.out, hoc]; rfl
                    subst hok
                    have HTD : Hid (timD l a x d = true) := by show _ = _; unfold timD; rw [hoc]
                    clear hoc
                    go_wp2_with fail
                    refine wp_region_held_drew (S := fun W => Below wc.heap.size wc W) (by kernel_rfl) (Below.drew (Below.refl _ _)) (fun hHeld => ?_)
                    refine tk 0 q2fa_13_13_0 (some 57) (v := ?v16) rfl rfl (by kernel_rfl) hHeld (by rfl) (fun _ _ _ x => x) (fun w h => ?y16) ?_; (case y16 => (try dsimp only at h); go_simp; try (with_reducible rfl)); try simp only [Act.put, sa, s0, s1]
                    refine tk 1 q2fa_13_13_1 (some 58) (v := ?v17) rfl rfl (by kernel_rfl) hHeld (by rfl) (fun _ _ _ x => x) (fun w h => ?y17) ?_; (case y17 => (try dsimp only at h); go_simp; try (with_reducible rfl)); try simp only [Act.put, sa, s0, s1]
                    refine tn 2 q2fa_13_13_2 (some 59) rfl rfl (by kernel_rfl) hHeld (by rfl) (fun _ _ _ x => x) ?_; try simp only [Act.put, sa, s0, s1]
                    refine tn 3 q2fa_13_13_3 (some 60) rfl rfl (by kernel_rfl) hHeld (by rfl) (fun _ _ _ x => x) ?_; try simp only [Act.put, sa, s0, s1]
                    refine tn 4 q2fa_13_13_4 (some 61) rfl rfl (by kernel_rfl) hHeld (by rfl) (fun _ _ _ x => x) ?_; try simp only [Act.put, sa, s0, s1]
                    refine tn 5 q2fa_13_13_5 (some 62) rfl rfl (by kernel_rfl) hHeld (by rfl) (fun _ _ _ x => x) ?_; try simp only [Act.put, sa, s0, s1]
                    refine tk 6 q2fa_13_13_6 (some 63) (v := ?v22) rfl rfl (by kernel_rfl) hHeld (by rfl) (fun _ _ _ x => x) (fun w h => ?y22) ?_; (case y22 => (try dsimp only at h); go_simp; try (with_reducible rfl)); try simp only [Act.put, sa, s0, s1]
                    refine tk 7 q2fa_13_13_7 (some 64) (v := ?v23) rfl rfl (by kernel_rfl) hHeld (by rfl) (fun _ _ _ x => x) (fun w h => ?y23) ?_; (case y23 => (try dsimp only at h); go_simp; try (with_reducible rfl)); try simp only [Act.put, sa, s0, s1]
                    refine tn 8 q2fa_13_13_8 (some 65) rfl rfl (by kernel_rfl) hHeld (by rfl) (fun _ _ _ x => x) ?_; try simp only [Act.put, sa, s0, s1]
                    refine tn 9 q2fa_13_13_9 (some 66) rfl rfl (by kernel_rfl) hHeld (by rfl) (fun _ _ _ x => x) ?_; try simp only [Act.put, sa, s0, s1]
                    refine tn 10 q2fa_13_13_10 (some 67) rfl rfl (by kernel_rfl) hHeld (by rfl) (fun _ _ _ x => x) ?_; try simp only [Act.put, sa, s0, s1]
                    refine tn 11 q2fa_13_13_11 (some 68) rfl rfl (by kernel_rfl) hHeld (by rfl) (fun _ _ _ x => x) ?_; try simp only [Act.put, sa, s0, s1]
                    refine tn 12 q2fa_13_13_12 (some 69) rfl rfl (by kernel_rfl) hHeld (by rfl) (fun _ _ _ x => x) ?_; try simp only [Act.put, sa, s0, s1]
                    refine tn 13 q2fa_13_13_13 (some 70) rfl rfl (by kernel_rfl) hHeld (by rfl) (fun _ _ _ x => x) ?_; try simp only [Act.put, sa, s0, s1]
                    refine tn 14 q2fa_13_13_14 (some 71) rfl rfl (by kernel_rfl) hHeld (by rfl) (fun _ _ _ x => x) ?_; try simp only [Act.put, sa, s0, s1]
                    refine tn 15 q2fa_13_13_15 (some 72) rfl rfl (by kernel_rfl) hHeld (by rfl) (fun _ _ _ x => x) ?_; try simp only [Act.put, sa, s0, s1]
                    refine tn 16 q2fa_13_13_16 (some 73) rfl rfl (by kernel_rfl) hHeld (by rfl) (fun _ _ _ x => x) ?_; try simp only [Act.put, sa, s0, s1]
                    refine tn 17 q2fa_13_13_17 (some 74) rfl rfl (by kernel_rfl) hHeld (by rfl) (fun _ _ _ x => x) ?_; try simp only [Act.put, sa, s0, s1]
                    refine tn 18 q2fa_13_13_18 (some 75) rfl rfl (by kernel_rfl) hHeld (by rfl) (fun _ _ _ x => x) ?_; try simp only [Act.put, sa, s0, s1]
                    refine tn 19 q2fa_13_13_19 (some 76) rfl rfl (by kernel_rfl) hHeld (by rfl) (fun _ _ _ x => x) ?_; try simp only [Act.put, sa, s0, s1]
                    refine tk 20 q2fa_13_13_20 (some 77) (v := ?v36) rfl rfl (by kernel_rfl) hHeld (by rfl) (fun _ _ _ x => x) (fun w h => ?y36) ?_; (case y36 => (try dsimp only at h); go_simp; try (with_reducible rfl)); try simp only [Act.put, sa, s0, s1]
                    refine wpAnyH_done (by kernel_rfl) ?_ _
                    go_wp2_with fail
                    go_roundw
                    case rel => exact ⟨p + 1, by omega, by go_num, Hid.mk (HPN.out HTD.out), bthen hbaC hHeld⟩
                    case measure => simp [intOf]; omega
                  | some c' =>
                    have hok : ok = true := by rw [HOK.out, hoc]; rfl
                    have hcc : c = c' := by rw [HCC.out, hoc]; rfl
                    subst hok
                    subst hcc
                    have HTD : Hid (timD l a x d = (!meetP c a.fC || hasD x.fDeps d)) := by show _ = _; unfold timD; rw [hoc]
                    clear hoc HASK
                    cases hmb : meetP c a.fC
                    · have HTE : Hid (timD l a x d = true) := by show _ = _; rw [HTD.out, hmb]; rfl
                      clear HTD
                      go_wp2_with fail
                      refine wp_region_held_drew (S := fun W => Below wc.heap.size wc W) (by kernel_rfl) (Below.drew (Below.refl _ _)) (fun hHeld => ?_)
                      refine tk 0 q2fa_13_13_0 (some 57) (v := ?v37) rfl rfl (by kernel_rfl) hHeld (by rfl) (fun _ _ _ x => x) (fun w h => ?y37) ?_; (case y37 => (try dsimp only at h); go_simp; try (with_reducible rfl)); try simp only [Act.put, sa, s0, s1]
                      refine tk 1 q2fa_13_13_1 (some 58) (v := ?v38) rfl rfl (by kernel_rfl) hHeld (by rfl) (fun _ _ _ x => x) (fun w h => ?y38) ?_; (case y38 => (try dsimp only at h); go_simp; try (with_reducible rfl)); try simp only [Act.put, sa, s0, s1]
                      refine tk 2 q2fa_13_13_2 (some 59) (v := ?v39) rfl rfl (by kernel_rfl) hHeld (by rfl) (fun _ _ _ x => x) (fun w h => ?y39) ?_; (case y39 => (try dsimp only at h); go_simp; try (with_reducible rfl)); try simp only [Act.put, sa, s0, s1]
                      refine tk 3 q2fa_13_13_3 (some 60) (v := ?v40) rfl rfl (by kernel_rfl) hHeld (by rfl) (fun _ _ _ x => x) (fun w h => ?y40) ?_; (case y40 => (try dsimp only at h); go_simp; try (with_reducible rfl)); try simp only [Act.put, sa, s0, s1]
                      refine tk 4 q2fa_13_13_4 (some 61) (v := ?v41) rfl rfl (by kernel_rfl) hHeld (by rfl) (fun _ _ _ x => x) (fun w h => ?y41) ?_; (case y41 => (try dsimp only at h); go_simp; try (with_reducible rfl)); try simp only [Act.put, sa, s0, s1]
                      refine wpAnyH_ready (rs := [5]) (by kernel_rfl) (by simp) ?_
                      refine AllReadyH.cons (o := q2fa_13_13_5) rfl (fun K hK => ?_) AllReadyH.nil
                      go_simp
                      refine Calls.mono (specMeet_any _ _ c a.fC _ ⟨rfl, HU.out.1, HU.out.2.1, HU.out.2.2, trivial⟩ ⟨rfl, HG.out.2.2.1, HG.out.2.2.2.1, HG.out.2.2.2.2, trivial⟩) ?_
                      rintro e wy1 ⟨rfl, hx1⟩
                      rw [hmb]
                      go_wp2_with fail
                      refine hK.out _ _ (bthen hHeld hx1) (fun hHeld => ?_)
                      clear hK K
                      try simp only [Act.put, sa, s0, s1]
                      refine tk 6 q2fa_13_13_6 (some 63) (v := ?v42) rfl rfl (by kernel_rfl) hHeld (by rfl) (fun _ _ _ x => x) (fun w h => ?y42) ?_; (case y42 => (try dsimp only at h); go_simp; try (with_reducible rfl)); try simp only [Act.put, sa, s0, s1]
                      refine tk 7 q2fa_13_13_7 (some 64) (v := ?v43) rfl rfl (by kernel_rfl) hHeld (by rfl) (fun _ _ _ x => x) (fun w h => ?y43) ?_; (case y43 => (try dsimp only at h); go_simp; try (with_reducible rfl)); try simp only [Act.put, sa, s0, s1]
                      refine tn 8 q2fa_13_13_8 (some 65) rfl rfl (by kernel_rfl) hHeld (by rfl) (fun _ _ _ x => x) ?_; try simp only [Act.put, sa, s0, s1]
                      refine tn 9 q2fa_13_13_9 (some 66) rfl rfl (by kernel_rfl) hHeld (by rfl) (fun _ _ _ x => x) ?_; try simp only [Act.put, sa, s0, s1]
                      refine tn 10 q2fa_13_13_10 (some 67) rfl rfl (by kernel_rfl) hHeld (by rfl) (fun _ _ _ x => x) ?_; try simp only [Act.put, sa, s0, s1]
                      refine tn 11 q2fa_13_13_11 (some 68) rfl rfl (by kernel_rfl) hHeld (by rfl) (fun _ _ _ x => x) ?_; try simp only [Act.put, sa, s0, s1]
                      refine tn 12 q2fa_13_13_12 (some 69) rfl rfl (by kernel_rfl) hHeld (by rfl) (fun _ _ _ x => x) ?_; try simp only [Act.put, sa, s0, s1]
                      refine tn 13 q2fa_13_13_13 (some 70) rfl rfl (by kernel_rfl) hHeld (by rfl) (fun _ _ _ x => x) ?_; try simp only [Act.put, sa, s0, s1]
                      refine tn 14 q2fa_13_13_14 (some 71) rfl rfl (by kernel_rfl) hHeld (by rfl) (fun _ _ _ x => x) ?_; try simp only [Act.put, sa, s0, s1]
                      refine tn 15 q2fa_13_13_15 (some 72) rfl rfl (by kernel_rfl) hHeld (by rfl) (fun _ _ _ x => x) ?_; try simp only [Act.put, sa, s0, s1]
                      refine tn 16 q2fa_13_13_16 (some 73) rfl rfl (by kernel_rfl) hHeld (by rfl) (fun _ _ _ x => x) ?_; try simp only [Act.put, sa, s0, s1]
                      refine tn 17 q2fa_13_13_17 (some 74) rfl rfl (by kernel_rfl) hHeld (by rfl) (fun _ _ _ x => x) ?_; try simp only [Act.put, sa, s0, s1]
                      refine tn 18 q2fa_13_13_18 (some 75) rfl rfl (by kernel_rfl) hHeld (by rfl) (fun _ _ _ x => x) ?_; try simp only [Act.put, sa, s0, s1]
                      refine tn 19 q2fa_13_13_19 (some 76) rfl rfl (by kernel_rfl) hHeld (by rfl) (fun _ _ _ x => x) ?_; try simp only [Act.put, sa, s0, s1]
                      refine tk 20 q2fa_13_13_20 (some 77) (v := ?v56) rfl rfl (by kernel_rfl) hHeld (by rfl) (fun _ _ _ x => x) (fun w h => ?y56) ?_; (case y56 => (try dsimp only at h); go_simp; try (with_reducible rfl)); try simp only [Act.put, sa, s0, s1]
                      refine wpAnyH_done (by kernel_rfl) ?_ _
                      go_wp2_with fail
                      go_roundw
                      case rel => exact ⟨p + 1, by omega, by go_num, Hid.mk (HPN.out HTE.out), bthen hbaC hHeld⟩
                      case measure => simp [intOf]; omega
                    · cases hhd : hasD x.fDeps d
                      · have HTE : Hid (TP = false) := HPF.out (by rw [HTD.out, hmb, hhd]; rfl)
                        clear HTD
                        go_wp2_with fail
                        refine wp_region_held_drew (S := fun W => Below wc.heap.size wc W) (by kernel_rfl) (Below.drew (Below.refl _ _)) (fun hHeld => ?_)
                        refine tk 0 q2fa_13_13_0 (some 57) (v := ?v57) rfl rfl (by kernel_rfl) hHeld (by rfl) (fun _ _ _ x => x) (fun w h => ?y57) ?_; (case y57 => (try dsimp only at h); go_simp; try (with_reducible rfl)); try simp only [Act.put, sa, s0, s1]
                        refine tk 1 q2fa_13_13_1 (some 58) (v := ?v58) rfl rfl (by kernel_rfl) hHeld (by rfl) (fun _ _ _ x => x) (fun w h => ?y58) ?_; (case y58 => (try dsimp only at h); go_simp; try (with_reducible rfl)); try simp only [Act.put, sa, s0, s1]
                        refine tk 2 q2fa_13_13_2 (some 59) (v := ?v59) rfl rfl (by kernel_rfl) hHeld (by rfl) (fun _ _ _ x => x) (fun w h => ?y59) ?_; (case y59 => (try dsimp only at h); go_simp; try (with_reducible rfl)); try simp only [Act.put, sa, s0, s1]
                        refine tk 3 q2fa_13_13_3 (some 60) (v := ?v60) rfl rfl (by kernel_rfl) hHeld (by rfl) (fun _ _ _ x => x) (fun w h => ?y60) ?_; (case y60 => (try dsimp only at h); go_simp; try (with_reducible rfl)); try simp only [Act.put, sa, s0, s1]
                        refine tk 4 q2fa_13_13_4 (some 61) (v := ?v61) rfl rfl (by kernel_rfl) hHeld (by rfl) (fun _ _ _ x => x) (fun w h => ?y61) ?_; (case y61 => (try dsimp only at h); go_simp; try (with_reducible rfl)); try simp only [Act.put, sa, s0, s1]
                        refine wpAnyH_ready (rs := [5]) (by kernel_rfl) (by simp) ?_
                        refine AllReadyH.cons (o := q2fa_13_13_5) rfl (fun K hK => ?_) AllReadyH.nil
                        go_simp
                        refine Calls.mono (specMeet_any _ _ c a.fC _ ⟨rfl, HU.out.1, HU.out.2.1, HU.out.2.2, trivial⟩ ⟨rfl, HG.out.2.2.1, HG.out.2.2.2.1, HG.out.2.2.2.2, trivial⟩) ?_
                        rintro e wy1 ⟨rfl, hx1⟩
                        rw [hmb]
                        go_wp2_with fail
                        refine hK.out _ _ (bthen hHeld hx1) (fun hHeld => ?_)
                        clear hK K
                        try simp only [Act.put, sa, s0, s1]
                        refine tk 6 q2fa_13_13_6 (some 63) (v := ?v62) rfl rfl (by kernel_rfl) hHeld (by rfl) (fun _ _ _ x => x) (fun w h => ?y62) ?_; (case y62 => (try dsimp only at h); go_simp; try (with_reducible rfl)); try simp only [Act.put, sa, s0, s1]
                        refine tk 7 q2fa_13_13_7 (some 64) (v := ?v63) rfl rfl (by kernel_rfl) hHeld (by rfl) (fun _ _ _ x => x) (fun w h => ?y63) ?_; (case y63 => (try dsimp only at h); go_simp; try (with_reducible rfl)); try simp only [Act.put, sa, s0, s1]
                        refine tk 8 q2fa_13_13_8 (some 65) (v := ?v64) rfl rfl (by kernel_rfl) hHeld (by rfl) (fun _ _ _ x => x) (fun w h => ?y64) ?_; (case y64 => (try dsimp only at h); go_simp; try (with_reducible rfl)); try simp only [Act.put, sa, s0, s1]
                        refine tk 9 q2fa_13_13_9 (some 66) (v := ?v65) rfl rfl (by kernel_rfl) hHeld (by rfl) (fun _ _ _ x => x) (fun w h => ?y65) ?_; (case y65 => (try dsimp only at h); go_simp; try (with_reducible rfl)); try simp only [Act.put, sa, s0, s1]
                        refine tk 10 q2fa_13_13_10 (some 67) (v := ?v66) rfl rfl (by kernel_rfl) hHeld (by rfl) (fun _ _ _ x => x) (fun w h => ?y66) ?_; (case y66 => (try dsimp only at h); go_simp; try (with_reducible rfl)); try simp only [Act.put, sa, s0, s1]
                        refine tk 11 q2fa_13_13_11 (some 68) (v := ?v67) rfl rfl (by kernel_rfl) hHeld (by rfl) (fun _ _ _ x => x) (fun w h => ?y67) ?_; (case y67 => (try dsimp only at h); go_simp; try (with_reducible rfl)); try simp only [Act.put, sa, s0, s1]
                        refine tk 12 q2fa_13_13_12 (some 69) (v := ?v68) rfl rfl (by kernel_rfl) hHeld (by rfl) (fun _ _ _ x => x) (fun w h => ?y68) ?_; (case y68 => (try dsimp only at h); go_simp; try (with_reducible rfl)); try simp only [Act.put, sa, s0, s1]
                        refine tk 13 q2fa_13_13_13 (some 70) (v := ?v69) rfl rfl (by kernel_rfl) hHeld (by rfl) (fun _ _ _ x => x) (fun w h => ?y69) ?_; (case y69 => (try dsimp only at h); go_simp; try (with_reducible rfl)); try simp only [Act.put, sa, s0, s1]
                        refine tk 14 q2fa_13_13_14 (some 71) (v := ?v70) rfl rfl (by kernel_rfl) hHeld (by rfl) (fun _ _ _ x => x) (fun w h => ?y70) ?_; (case y70 => (try dsimp only at h); go_simp; try (with_reducible rfl)); try simp only [Act.put, sa, s0, s1]
                        refine tk 15 q2fa_13_13_15 (some 72) (v := ?v71) rfl rfl (by kernel_rfl) hHeld (by rfl) (fun _ _ _ x => x) (fun w h => ?y71) ?_; (case y71 => (try dsimp only at h); go_simp; try (with_reducible rfl)); try simp only [Act.put, sa, s0, s1]
                        refine tk 16 q2fa_13_13_16 (some 73) (v := ?v72) rfl rfl (by kernel_rfl) hHeld (by rfl) (fun _ _ _ x => x) (fun w h => ?y72) ?_; (case y72 => (try dsimp only at h); go_simp; try (with_reducible rfl)); try simp only [Act.put, sa, s0, s1]
                        refine tk 17 q2fa_13_13_17 (some 74) (v := ?v73) rfl rfl (by kernel_rfl) hHeld (by rfl) (fun _ _ _ x => x) (fun w h => ?y73) ?_; (case y73 => (try dsimp only at h); go_simp; try (with_reducible rfl)); try simp only [Act.put, sa, s0, s1]
                        refine wpAnyH_ready (rs := [18]) (by kernel_rfl) (by simp) ?_
                        refine AllReadyH.cons (o := q2fa_13_13_18) rfl (fun K hK => ?_) AllReadyH.nil
                        go_simp
                        refine Calls.mono (l8Has_any a6 _ c6 x.fDeps [.int .i64 d.fR, .int .i64 d.fN] d _ rfl hnd ((HLD.out.below rDot_good (bthen hbz2 hHeld)).mono rDot_good (bthen hbz2 hHeld).size) ⟨rfl, e0, e1, trivial⟩) ?_
                        rintro e wy2 ⟨rfl, hx2⟩
                        rw [hhd]
                        go_wp2_with fail
                        refine hK.out _ _ (bthen hHeld hx2) (fun hHeld => ?_)
                        clear hK K
                        try simp only [Act.put, sa, s0, s1]
                        refine tk 19 q2fa_13_13_19 (some 76) (v := ?v74) rfl rfl (by kernel_rfl) hHeld (by rfl) (fun _ _ _ x => x) (fun w h => ?y74) ?_; (case y74 => (try dsimp only at h); go_simp; try (with_reducible rfl)); try simp only [Act.put, sa, s0, s1]
                        refine tk 20 q2fa_13_13_20 (some 77) (v := ?v75) rfl rfl (by kernel_rfl) hHeld (by rfl) (fun _ _ _ x => x) (fun w h => ?y75) ?_; (case y75 => (try dsimp only at h); go_simp; try (with_reducible rfl)); try simp only [Act.put, sa, s0, s1]
                        refine wpAnyH_done (by kernel_rfl) ?_ _
                        have hbF := HB1.out.trans ((bthen hbz2 hHeld).mono HB1.out.size)
                        go_wp2_with fail
                        go_ret
                        exact ⟨by rw [← HTP.out, HTE.out]; rfl, hbF⟩
                      · have HTE : Hid (timD l a x d = true) := by show _ = _; rw [HTD.out, hmb, hhd]; rfl
                        clear HTD
                        go_wp2_with fail
                        refine wp_region_held_drew (S := fun W => Below wc.heap.size wc W) (by kernel_rfl) (Below.drew (Below.refl _ _)) (fun hHeld => ?_)
                        refine tk 0 q2fa_13_13_0 (some 57) (v := ?v76) rfl rfl (by kernel_rfl) hHeld (by rfl) (fun _ _ _ x => x) (fun w h => ?y76) ?_; (case y76 => (try dsimp only at h); go_simp; try (with_reducible rfl)); try simp only [Act.put, sa, s0, s1]
                        refine tk 1 q2fa_13_13_1 (some 58) (v := ?v77) rfl rfl (by kernel_rfl) hHeld (by rfl) (fun _ _ _ x => x) (fun w h => ?y77) ?_; (case y77 => (try dsimp only at h); go_simp; try (with_reducible rfl)); try simp only [Act.put, sa, s0, s1]
                        refine tk 2 q2fa_13_13_2 (some 59) (v := ?v78) rfl rfl (by kernel_rfl) hHeld (by rfl) (fun _ _ _ x => x) (fun w h => ?y78) ?_; (case y78 => (try dsimp only at h); go_simp; try (with_reducible rfl)); try simp only [Act.put, sa, s0, s1]
                        refine tk 3 q2fa_13_13_3 (some 60) (v := ?v79) rfl rfl (by kernel_rfl) hHeld (by rfl) (fun _ _ _ x => x) (fun w h => ?y79) ?_; (case y79 => (try dsimp only at h); go_simp; try (with_reducible rfl)); try simp only [Act.put, sa, s0, s1]
                        refine tk 4 q2fa_13_13_4 (some 61) (v := ?v80) rfl rfl (by kernel_rfl) hHeld (by rfl) (fun _ _ _ x => x) (fun w h => ?y80) ?_; (case y80 => (try dsimp only at h); go_simp; try (with_reducible rfl)); try simp only [Act.put, sa, s0, s1]
                        refine wpAnyH_ready (rs := [5]) (by kernel_rfl) (by simp) ?_
                        refine AllReadyH.cons (o := q2fa_13_13_5) rfl (fun K hK => ?_) AllReadyH.nil
                        go_simp
                        refine Calls.mono (specMeet_any _ _ c a.fC _ ⟨rfl, HU.out.1, HU.out.2.1, HU.out.2.2, trivial⟩ ⟨rfl, HG.out.2.2.1, HG.out.2.2.2.1, HG.out.2.2.2.2, trivial⟩) ?_
                        rintro e wy1 ⟨rfl, hx1⟩
                        rw [hmb]
                        go_wp2_with fail
                        refine hK.out _ _ (bthen hHeld hx1) (fun hHeld => ?_)
                        clear hK K
                        try simp only [Act.put, sa, s0, s1]
                        refine tk 6 q2fa_13_13_6 (some 63) (v := ?v81) rfl rfl (by kernel_rfl) hHeld (by rfl) (fun _ _ _ x => x) (fun w h => ?y81) ?_; (case y81 => (try dsimp only at h); go_simp; try (with_reducible rfl)); try simp only [Act.put, sa, s0, s1]
                        refine tk 7 q2fa_13_13_7 (some 64) (v := ?v82) rfl rfl (by kernel_rfl) hHeld (by rfl) (fun _ _ _ x => x) (fun w h => ?y82) ?_; (case y82 => (try dsimp only at h); go_simp; try (with_reducible rfl)); try simp only [Act.put, sa, s0, s1]
                        refine tk 8 q2fa_13_13_8 (some 65) (v := ?v83) rfl rfl (by kernel_rfl) hHeld (by rfl) (fun _ _ _ x => x) (fun w h => ?y83) ?_; (case y83 => (try dsimp only at h); go_simp; try (with_reducible rfl)); try simp only [Act.put, sa, s0, s1]
                        refine tk 9 q2fa_13_13_9 (some 66) (v := ?v84) rfl rfl (by kernel_rfl) hHeld (by rfl) (fun _ _ _ x => x) (fun w h => ?y84) ?_; (case y84 => (try dsimp only at h); go_simp; try (with_reducible rfl)); try simp only [Act.put, sa, s0, s1]
                        refine tk 10 q2fa_13_13_10 (some 67) (v := ?v85) rfl rfl (by kernel_rfl) hHeld (by rfl) (fun _ _ _ x => x) (fun w h => ?y85) ?_; (case y85 => (try dsimp only at h); go_simp; try (with_reducible rfl)); try simp only [Act.put, sa, s0, s1]
                        refine tk 11 q2fa_13_13_11 (some 68) (v := ?v86) rfl rfl (by kernel_rfl) hHeld (by rfl) (fun _ _ _ x => x) (fun w h => ?y86) ?_; (case y86 => (try dsimp only at h); go_simp; try (with_reducible rfl)); try simp only [Act.put, sa, s0, s1]
                        refine tk 12 q2fa_13_13_12 (some 69) (v := ?v87) rfl rfl (by kernel_rfl) hHeld (by rfl) (fun _ _ _ x => x) (fun w h => ?y87) ?_; (case y87 => (try dsimp only at h); go_simp; try (with_reducible rfl)); try simp only [Act.put, sa, s0, s1]
                        refine tk 13 q2fa_13_13_13 (some 70) (v := ?v88) rfl rfl (by kernel_rfl) hHeld (by rfl) (fun _ _ _ x => x) (fun w h => ?y88) ?_; (case y88 => (try dsimp only at h); go_simp; try (with_reducible rfl)); try simp only [Act.put, sa, s0, s1]
                        refine tk 14 q2fa_13_13_14 (some 71) (v := ?v89) rfl rfl (by kernel_rfl) hHeld (by rfl) (fun _ _ _ x => x) (fun w h => ?y89) ?_; (case y89 => (try dsimp only at h); go_simp; try (with_reducible rfl)); try simp only [Act.put, sa, s0, s1]
                        refine tk 15 q2fa_13_13_15 (some 72) (v := ?v90) rfl rfl (by kernel_rfl) hHeld (by rfl) (fun _ _ _ x => x) (fun w h => ?y90) ?_; (case y90 => (try dsimp only at h); go_simp; try (with_reducible rfl)); try simp only [Act.put, sa, s0, s1]
                        refine tk 16 q2fa_13_13_16 (some 73) (v := ?v91) rfl rfl (by kernel_rfl) hHeld (by rfl) (fun _ _ _ x => x) (fun w h => ?y91) ?_; (case y91 => (try dsimp only at h); go_simp; try (with_reducible rfl)); try simp only [Act.put, sa, s0, s1]
                        refine tk 17 q2fa_13_13_17 (some 74) (v := ?v92) rfl rfl (by kernel_rfl) hHeld (by rfl) (fun _ _ _ x => x) (fun w h => ?y92) ?_; (case y92 => (try dsimp only at h); go_simp; try (with_reducible rfl)); try simp only [Act.put, sa, s0, s1]
                        refine wpAnyH_ready (rs := [18]) (by kernel_rfl) (by simp) ?_
                        refine AllReadyH.cons (o := q2fa_13_13_18) rfl (fun K hK => ?_) AllReadyH.nil
                        go_simp
                        refine Calls.mono (l8Has_any a6 _ c6 x.fDeps [.int .i64 d.fR, .int .i64 d.fN] d _ rfl hnd ((HLD.out.below rDot_good (bthen hbz2 hHeld)).mono rDot_good (bthen hbz2 hHeld).size) ⟨rfl, e0, e1, trivial⟩) ?_
                        rintro e wy2 ⟨rfl, hx2⟩
                        rw [hhd]
                        go_wp2_with fail
                        refine hK.out _ _ (bthen hHeld hx2) (fun hHeld => ?_)
                        clear hK K
                        try simp only [Act.put, sa, s0, s1]
                        refine tk 19 q2fa_13_13_19 (some 76) (v := ?v93) rfl rfl (by kernel_rfl) hHeld (by rfl) (fun _ _ _ x => x) (fun w h => ?y93) ?_; (case y93 => (try dsimp only at h); go_simp; try (with_reducible rfl)); try simp only [Act.put, sa, s0, s1]
                        refine tk 20 q2fa_13_13_20 (some 77) (v := ?v94) rfl rfl (by kernel_rfl) hHeld (by rfl) (fun _ _ _ x => x) (fun w h => ?y94) ?_; (case y94 => (try dsimp only at h); go_simp; try (with_reducible rfl)); try simp only [Act.put, sa, s0, s1]
                        refine wpAnyH_done (by kernel_rfl) ?_ _
                        go_wp2_with fail
                        go_roundw
                        case rel => exact ⟨p + 1, by omega, by go_num, Hid.mk (HPN.out HTE.out), bthen hbaC hHeld⟩
                        case measure => simp [intOf]; omega
              · have HTX : Hid (timX l a x = true) := by show _ = _; unfold timX; rw [Bool.eq_false_iff.2 hs]; rfl
                rcases sameD_ne hs with hq | ⟨hq, hq3⟩
                · have hq' : decide (x.fD.fR = a.fD.fR) = false := decide_eq_false hq
                  have hr1 : ¬ a.fD.fR = x.fD.fR := fun h => hq h.symm
                  have hr1' : decide (a.fD.fR = x.fD.fR) = false := decide_eq_false hr1
                  clear hs
                  go_wp2_with fail
                  refine wp_region_held_drew (S := fun W => Below wr.heap.size wr W) (by kernel_rfl) (Below.drew (Below.refl _ _)) (fun hHeld => ?_)
                  refine tk 0 q2fa_13_10_0 (some 30) (v := ?v95) rfl rfl (by kernel_rfl) hHeld (by rfl) (fun _ _ _ x => x) (fun w h => ?y95) ?_; (case y95 => (try dsimp only at h); go_simp; try (with_reducible rfl)); try simp only [Act.put, sa, s0, s1]
                  refine tk 1 q2fa_13_10_1 (some 31) (v := ?v96) rfl rfl (by kernel_rfl) hHeld (by rfl) (fun _ _ _ x => x) (fun w h => ?y96) ?_; (case y96 => (try dsimp only at h); go_simp; try (with_reducible rfl)); try simp only [Act.put, sa, s0, s1]
                  refine tk 2 q2fa_13_10_2 (some 32) (v := ?v97) rfl rfl (by kernel_rfl) hHeld (by rfl) (fun _ _ _ x => x) (fun w h => ?y97) ?_; (case y97 => (try dsimp only at h); go_simp; try (with_reducible rfl)); try simp only [Act.put, sa, s0, s1]
                  refine tk 3 q2fa_13_10_3 (some 33) (v := ?v98) rfl rfl (by kernel_rfl) hHeld (by rfl) (fun _ _ _ x => x) (fun w h => ?y98) ?_; (case y98 => (try dsimp only at h); go_simp; try (with_reducible rfl)); try simp only [Act.put, sa, s0, s1]
                  refine tk 4 q2fa_13_10_4 (some 34) (v := ?v99) rfl rfl (by kernel_rfl) hHeld (by rfl) (fun _ _ _ x => x) (fun w h => ?y99) ?_; (case y99 => (try dsimp only at h); go_simp; try (with_reducible rfl)); try simp only [Act.put, sa, s0, s1]
                  refine tk 5 q2fa_13_10_5 (some 35) (v := ?v100) rfl rfl (by kernel_rfl) hHeld (by rfl) (fun _ _ _ x => x) (fun w h => ?y100) ?_; (case y100 => (try dsimp only at h); go_simp; try (with_reducible rfl)); try simp only [Act.put, sa, s0, s1]
                  refine tk 6 q2fa_13_10_6 (some 36) (v := ?v101) rfl rfl (by kernel_rfl) hHeld (by rfl) (fun _ _ _ x => x) (fun w h => ?y101) ?_; (case y101 => (try dsimp only at h); go_simp; try (with_reducible rfl)); try simp only [Act.put, sa, s0, s1]
                  refine tk 7 q2fa_13_10_7 (some 37) (v := ?v102) rfl rfl (by kernel_rfl) hHeld (by rfl) (fun _ _ _ x => x) (fun w h => ?y102) ?_; (case y102 => (try dsimp only at h); go_simp; try (with_reducible rfl)); try simp only [Act.put, sa, s0, s1]
                  refine tk 8 q2fa_13_10_8 (some 38) (v := ?v103) rfl rfl (by kernel_rfl) hHeld (by rfl) (fun _ _ _ x => x) (fun w h => ?y103) ?_; (case y103 => (try dsimp only at h); go_simp; try (with_reducible rfl)); try simp only [Act.put, sa, s0, s1]
                  refine tk 9 q2fa_13_10_9 (some 39) (v := ?v104) rfl rfl (by kernel_rfl) hHeld (by rfl) (fun _ _ _ x => x) (fun w h => ?y104) ?_; (case y104 => (try dsimp only at h); go_simp; try (with_reducible rfl)); try simp only [Act.put, sa, s0, s1]
                  refine tk 10 q2fa_13_10_10 (some 40) (v := ?v105) rfl rfl (by kernel_rfl) hHeld (by rfl) (fun _ _ _ x => x) (fun w h => ?y105) ?_; (case y105 => (try dsimp only at h); go_simp; try (with_reducible rfl)); try simp only [Act.put, sa, s0, s1]
                  refine tk 11 q2fa_13_10_11 (some 41) (v := ?v106) rfl rfl (by kernel_rfl) hHeld (by rfl) (fun _ _ _ x => x) (fun w h => ?y106) ?_; (case y106 => (try dsimp only at h); go_simp; try (with_reducible rfl)); try simp only [Act.put, sa, s0, s1]
                  refine tk 12 q2fa_13_10_12 (some 42) (v := ?v107) rfl rfl (by kernel_rfl) hHeld (by rfl) (fun _ _ _ x => x) (fun w h => ?y107) ?_; (case y107 => (try dsimp only at h); go_simp; try (with_reducible rfl)); try simp only [Act.put, sa, s0, s1]
                  refine tk 13 q2fa_13_10_13 (some 43) (v := ?v108) rfl rfl (by kernel_rfl) hHeld (by rfl) (fun _ _ _ x => x) (fun w h => ?y108) ?_; (case y108 => (try dsimp only at h); go_simp; try (with_reducible rfl)); try simp only [Act.put, sa, s0, s1]
                  refine tk 14 q2fa_13_10_14 (some 44) (v := ?v109) rfl rfl (by kernel_rfl) hHeld (by rfl) (fun _ _ _ x => x) (fun w h => ?y109) ?_; (case y109 => (try dsimp only at h); go_simp; try (with_reducible rfl)); try simp only [Act.put, sa, s0, s1]
                  refine wpAnyH_done (by kernel_rfl) ?_ _
                  go_wp2_with fail
                  go_roundw
                  case rel => exact ⟨k + 1, by omega, by go_num, Hid.mk (HKN.out HTX.out), bthen hbp hHeld⟩
                  case measure => simp [intOf]; omega
                · have hq' : decide (x.fD.fN = a.fD.fN) = false := decide_eq_false hq3
                  have hr1 : ¬ a.fD.fN = x.fD.fN := fun h => hq3 h.symm
                  have hr1' : decide (a.fD.fN = x.fD.fN) = false := decide_eq_false hr1
                  clear hs
                  rw [hq] at x0
                  clear hq
                  go_wp2_with fail
                  refine wp_region_held_drew (S := fun W => Below wr.heap.size wr W) (by kernel_rfl) (Below.drew (Below.refl _ _)) (fun hHeld => ?_)
                  refine tk 0 q2fa_13_10_0 (some 30) (v := ?v110) rfl rfl (by kernel_rfl) hHeld (by rfl) (fun _ _ _ x => x) (fun w h => ?y110) ?_; (case y110 => (try dsimp only at h); go_simp; try (with_reducible rfl)); try simp only [Act.put, sa, s0, s1]
                  refine tk 1 q2fa_13_10_1 (some 31) (v := ?v111) rfl rfl (by kernel_rfl) hHeld (by rfl) (fun _ _ _ x => x) (fun w h => ?y111) ?_; (case y111 => (try dsimp only at h); go_simp; try (with_reducible rfl)); try simp only [Act.put, sa, s0, s1]
                  refine tk 2 q2fa_13_10_2 (some 32) (v := ?v112) rfl rfl (by kernel_rfl) hHeld (by rfl) (fun _ _ _ x => x) (fun w h => ?y112) ?_; (case y112 => (try dsimp only at h); go_simp; try (with_reducible rfl)); try simp only [Act.put, sa, s0, s1]
                  refine tk 3 q2fa_13_10_3 (some 33) (v := ?v113) rfl rfl (by kernel_rfl) hHeld (by rfl) (fun _ _ _ x => x) (fun w h => ?y113) ?_; (case y113 => (try dsimp only at h); go_simp; try (with_reducible rfl)); try simp only [Act.put, sa, s0, s1]
                  refine tk 4 q2fa_13_10_4 (some 34) (v := ?v114) rfl rfl (by kernel_rfl) hHeld (by rfl) (fun _ _ _ x => x) (fun w h => ?y114) ?_; (case y114 => (try dsimp only at h); go_simp; try (with_reducible rfl)); try simp only [Act.put, sa, s0, s1]
                  refine tk 5 q2fa_13_10_5 (some 35) (v := ?v115) rfl rfl (by kernel_rfl) hHeld (by rfl) (fun _ _ _ x => x) (fun w h => ?y115) ?_; (case y115 => (try dsimp only at h); go_simp; try (with_reducible rfl)); try simp only [Act.put, sa, s0, s1]
                  refine tk 6 q2fa_13_10_6 (some 36) (v := ?v116) rfl rfl (by kernel_rfl) hHeld (by rfl) (fun _ _ _ x => x) (fun w h => ?y116) ?_; (case y116 => (try dsimp only at h); go_simp; try (with_reducible rfl)); try simp only [Act.put, sa, s0, s1]
                  refine tk 7 q2fa_13_10_7 (some 37) (v := ?v117) rfl rfl (by kernel_rfl) hHeld (by rfl) (fun _ _ _ x => x) (fun w h => ?y117) ?_; (case y117 => (try dsimp only at h); go_simp; try (with_reducible rfl)); try simp only [Act.put, sa, s0, s1]
                  refine tk 8 q2fa_13_10_8 (some 38) (v := ?v118) rfl rfl (by kernel_rfl) hHeld (by rfl) (fun _ _ _ x => x) (fun w h => ?y118) ?_; (case y118 => (try dsimp only at h); go_simp; try (with_reducible rfl)); try simp only [Act.put, sa, s0, s1]
                  refine tk 9 q2fa_13_10_9 (some 39) (v := ?v119) rfl rfl (by kernel_rfl) hHeld (by rfl) (fun _ _ _ x => x) (fun w h => ?y119) ?_; (case y119 => (try dsimp only at h); go_simp; try (with_reducible rfl)); try simp only [Act.put, sa, s0, s1]
                  refine tk 10 q2fa_13_10_10 (some 40) (v := ?v120) rfl rfl (by kernel_rfl) hHeld (by rfl) (fun _ _ _ x => x) (fun w h => ?y120) ?_; (case y120 => (try dsimp only at h); go_simp; try (with_reducible rfl)); try simp only [Act.put, sa, s0, s1]
                  refine tk 11 q2fa_13_10_11 (some 41) (v := ?v121) rfl rfl (by kernel_rfl) hHeld (by rfl) (fun _ _ _ x => x) (fun w h => ?y121) ?_; (case y121 => (try dsimp only at h); go_simp; try (with_reducible rfl)); try simp only [Act.put, sa, s0, s1]
                  refine tk 12 q2fa_13_10_12 (some 42) (v := ?v122) rfl rfl (by kernel_rfl) hHeld (by rfl) (fun _ _ _ x => x) (fun w h => ?y122) ?_; (case y122 => (try dsimp only at h); go_simp; try (with_reducible rfl)); try simp only [Act.put, sa, s0, s1]
                  refine tk 13 q2fa_13_10_13 (some 43) (v := ?v123) rfl rfl (by kernel_rfl) hHeld (by rfl) (fun _ _ _ x => x) (fun w h => ?y123) ?_; (case y123 => (try dsimp only at h); go_simp; try (with_reducible rfl)); try simp only [Act.put, sa, s0, s1]
                  refine tk 14 q2fa_13_10_14 (some 44) (v := ?v124) rfl rfl (by kernel_rfl) hHeld (by rfl) (fun _ _ _ x => x) (fun w h => ?y124) ?_; (case y124 => (try dsimp only at h); go_simp; try (with_reducible rfl)); try simp only [Act.put, sa, s0, s1]
                  refine wpAnyH_done (by kernel_rfl) ?_ _
                  go_wp2_with fail
                  go_roundw
                  case rel => exact ⟨k + 1, by omega, by go_num, Hid.mk (HKN.out HTX.out), bthen hbp hHeld⟩
                  case measure => simp [intOf]; omega
            · have hp2 : ¬ (p : Int) < (nb : Int) := by omega
              have hp2' : decide ((p : Int) < (nb : Int)) = false := decide_eq_false hp2
              have HTX : Hid (timX l a x = true) := by
                show _ = _
                unfold timX
                rw [all_at (f := timD l a x) (fun j hj => HP.out j hj (by have := HNb.out; omega))]
                simp
              go_wp2_with fail
              refine wp_region_held_drew (S := fun W => Below wr.heap.size wr W) (by kernel_rfl) (Below.drew (Below.refl _ _)) (fun hHeld => ?_)
              refine tk 0 q2fa_13_10_0 (some 30) (v := ?v125) rfl rfl (by kernel_rfl) hHeld (by rfl) (fun _ _ _ x => x) (fun w h => ?y125) ?_; (case y125 => (try dsimp only at h); go_simp; try (with_reducible rfl)); try simp only [Act.put, sa, s0, s1]
              refine tk 1 q2fa_13_10_1 (some 31) (v := ?v126) rfl rfl (by kernel_rfl) hHeld (by rfl) (fun _ _ _ x => x) (fun w h => ?y126) ?_; (case y126 => (try dsimp only at h); go_simp; try (with_reducible rfl)); try simp only [Act.put, sa, s0, s1]
              refine tk 2 q2fa_13_10_2 (some 32) (v := ?v127) rfl rfl (by kernel_rfl) hHeld (by rfl) (fun _ _ _ x => x) (fun w h => ?y127) ?_; (case y127 => (try dsimp only at h); go_simp; try (with_reducible rfl)); try simp only [Act.put, sa, s0, s1]
              refine tk 3 q2fa_13_10_3 (some 33) (v := ?v128) rfl rfl (by kernel_rfl) hHeld (by rfl) (fun _ _ _ x => x) (fun w h => ?y128) ?_; (case y128 => (try dsimp only at h); go_simp; try (with_reducible rfl)); try simp only [Act.put, sa, s0, s1]
              refine tk 4 q2fa_13_10_4 (some 34) (v := ?v129) rfl rfl (by kernel_rfl) hHeld (by rfl) (fun _ _ _ x => x) (fun w h => ?y129) ?_; (case y129 => (try dsimp only at h); go_simp; try (with_reducible rfl)); try simp only [Act.put, sa, s0, s1]
              refine tk 5 q2fa_13_10_5 (some 35) (v := ?v130) rfl rfl (by kernel_rfl) hHeld (by rfl) (fun _ _ _ x => x) (fun w h => ?y130) ?_; (case y130 => (try dsimp only at h); go_simp; try (with_reducible rfl)); try simp only [Act.put, sa, s0, s1]
              refine tn 6 q2fa_13_10_6 (some 36) rfl rfl (by kernel_rfl) hHeld (by rfl) (fun _ _ _ x => x) ?_; try simp only [Act.put, sa, s0, s1]
              refine tn 7 q2fa_13_10_7 (some 37) rfl rfl (by kernel_rfl) hHeld (by rfl) (fun _ _ _ x => x) ?_; try simp only [Act.put, sa, s0, s1]
              refine tn 8 q2fa_13_10_8 (some 38) rfl rfl (by kernel_rfl) hHeld (by rfl) (fun _ _ _ x => x) ?_; try simp only [Act.put, sa, s0, s1]
              refine tn 9 q2fa_13_10_9 (some 39) rfl rfl (by kernel_rfl) hHeld (by rfl) (fun _ _ _ x => x) ?_; try simp only [Act.put, sa, s0, s1]
              refine tn 10 q2fa_13_10_10 (some 40) rfl rfl (by kernel_rfl) hHeld (by rfl) (fun _ _ _ x => x) ?_; try simp only [Act.put, sa, s0, s1]
              refine tn 11 q2fa_13_10_11 (some 41) rfl rfl (by kernel_rfl) hHeld (by rfl) (fun _ _ _ x => x) ?_; try simp only [Act.put, sa, s0, s1]
              refine tn 12 q2fa_13_10_12 (some 42) rfl rfl (by kernel_rfl) hHeld (by rfl) (fun _ _ _ x => x) ?_; try simp only [Act.put, sa, s0, s1]
              refine tn 13 q2fa_13_10_13 (some 43) rfl rfl (by kernel_rfl) hHeld (by rfl) (fun _ _ _ x => x) ?_; try simp only [Act.put, sa, s0, s1]
              refine tk 14 q2fa_13_10_14 (some 44) (v := ?v139) rfl rfl (by kernel_rfl) hHeld (by rfl) (fun _ _ _ x => x) (fun w h => ?y139) ?_; (case y139 => (try dsimp only at h); go_simp; try (with_reducible rfl)); try simp only [Act.put, sa, s0, s1]
              refine wpAnyH_done (by kernel_rfl) ?_ _
              go_wp2_with fail
              go_roundw
              case rel => exact ⟨k + 1, by omega, by go_num, Hid.mk (HKN.out HTX.out), bthen hbp hHeld⟩
              case measure => simp [intOf]; omega
        · have HV : Hid (L.all (timX l a) = true) := all_at (fun j hj => HK.out j hj (by have := HNL.out; omega))
          have hbF : Below w1.heap.size w1 wr := bthen HBW.out hbv
          go_wp2_with fail
          go_roundw
          case rel => exact ⟨i + 1, by omega, by go_num, Hid.mk (HIN.out HV.out), hbF⟩
          case measure => simp [intOf]; omega
    · have HV : Hid (TP = true) := HTY.out (fun j hj => HI.out j hj (by have := HNn.out; omega))
      have hbF := HB1.out.trans (hbk.mono HB1.out.size)
      go_wp2_with fail
      go_ret
      exact ⟨by rw [← HTP.out, HV.out]; rfl, hbF⟩

end Go.Proofs.Ytjipinjdfeihjaa
