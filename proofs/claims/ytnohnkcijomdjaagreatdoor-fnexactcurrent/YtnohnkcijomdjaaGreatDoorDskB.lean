/-
  The program's search for an inode: by halves, in a list that ascends.
-/
import Derived.Test.YtnohnkcijomdjaaGreatDoorDskI
namespace Go.Proofs.YtnohnkcijomdjaaGreatDoor
open Go.RowKit
set_option linter.unusedVariables false
set_option linter.unusedSimpArgs false
set_option maxRecDepth 10000

def cmpI (x y : Int) : Int := if x < y then -1 else if y < x then 1 else 0
theorem cmpI_lt {x y : Int} (h : x < y) : cmpI x y = -1 := if_pos h
theorem cmpI_gt {x y : Int} (h : y < x) : cmpI x y = 1 := by unfold cmpI; rw [if_neg (by omega), if_pos h]
theorem cmpI_eq {x y : Int} (h : x = y) : cmpI x y = 0 := by unfold cmpI; rw [if_neg (by omega), if_neg (by omega)]

set_option maxHeartbeats 400000 in
theorem cmpInt_any (x y : Int) (w : World) :
    Calls Tryz.prog 103 #[.int .i64 x, .int .i64 y] w fun e w' => e = .returned (.int .i64 (cmpI x y)) ∧ w' = w := by
  by_cases h1 : x < y
  · have HV := Hid.mk (cmpI_lt h1)
    go_enter Tryz.func103, Tryz.ntmps103
    go_wp2
    go_ret
    exact ⟨by rw [HV.out]; rfl, rfl⟩
  · by_cases h2 : y < x
    · have HV := Hid.mk (cmpI_gt h2)
      go_enter Tryz.func103, Tryz.ntmps103
      go_wp2
      go_ret
      exact ⟨by rw [HV.out]; rfl, rfl⟩
    · have HV := Hid.mk (cmpI_eq (x := x) (y := y) (by omega))
      go_enter Tryz.func103, Tryz.ntmps103
      go_wp2
      go_ret
      exact ⟨by rw [HV.out]; rfl, rfl⟩

set_option maxHeartbeats 400000 in
theorem inodeCmp_any (i s : Int) (v : Value) (id : Int) (w : World) :
    Calls Tryz.prog 102 #[.agg #[.int .i64 i, v, .int .i64 s], .int .i64 id] w fun e w' => e = .returned (.int .i64 (cmpI i id)) ∧ Below w.heap.size w w' := by
  go_enter Tryz.func102, Tryz.ntmps102
  go_wp2_with (go_at_call 103; refine (cmpInt_any _ _ _).mono ?_; rintro e w' ⟨rfl, rfl⟩)
  go_ret
  exact ⟨rfl, (Below.refl _ _).alloc (Nat.le_refl _) _⟩

theorem okI_sorted {nx : Int} {l : List MInode} : ∀ {prev : Int}, okI nx prev l = true → l.Pairwise fun x y => x.fId < y.fId := by
  induction l with
  | nil => intro _ _; exact List.Pairwise.nil
  | cons x r ih =>
    intro prev h
    rw [okI, Bool.and_eq_true] at h
    exact List.Pairwise.cons (fun y hy => okI_lower h.2 y hy) (ih h.2)

theorem sorted_at {l : List MInode} (h : l.Pairwise fun x y => x.fId < y.fId) {i j : Nat} (hj : j < l.length) (hij : i < j) : (l[i]'(by omega)).fId < l[j].fId :=
  List.pairwise_iff_getElem.1 h i j (by omega) hj hij

set_option maxHeartbeats 1000000 in
theorem inodeSearch_any (a : Option Addr) (n cap : Nat) (l : List MInode) (id : Int) (w : World) (hx : l.length = n) (hl : LeafL 3 rInode w.heap.size w a cap l) (hw : n ≤ 16777216) (hs : l.Pairwise fun x y => x.fId < y.fId) :
    Calls Tryz.prog 101 #[.slice a n cap, .int .i64 id, .func (.func 102) #[] #[]] w fun e w' => ∃ p : Nat, e = .returned (.tuple #[.int .i64 p, .bool (hasId l id)]) ∧ (hasId l id = true → ∃ h : p < l.length, l[p].fId = id) ∧ Below w.heap.size w w' := by
  have HI := Hid.mk hl.2.2
  have HS := Hid.mk hs
  have HX := Hid.mk hx
  clear hl hs hx
  go_enter Tryz.func101, Tryz.ntmps101
  go_wp2_with fail
  go_loopw [9, 10] (fun iv jv wr => ∃ i j : Nat, i ≤ j ∧ j ≤ n ∧ iv = .int .i64 i ∧ jv = .int .i64 j ∧ (∀ x, (hx : x < l.length) → x < i → l[x].fId < id) ∧ (∀ x, (hx : x < l.length) → j ≤ x → id ≤ l[x].fId) ∧ Below w.heap.size w wr) (fun iv jv _ => (intOf jv).toNat - (intOf iv).toNat)
  case atStart => exact ⟨0, n, Nat.zero_le _, Nat.le_refl _, rfl, rfl, fun x _ h => by omega, fun x h1 h2 => by have := HX.out; omega, Below.refl _ _⟩
  case round =>
    obtain ⟨i, j, hij, hjn, rfl, rfl, hlo, hhi, hbk⟩ := hrel
    have HLo := Hid.mk hlo
    have HHi := Hid.mk hhi
    clear hlo hhi
    by_cases hlt : i < j
    · obtain ⟨mid, hmid⟩ : ∃ mid : Nat, mid = (i + j) / 2 := ⟨_, rfl⟩
      have hm1 : i ≤ mid := by omega
      have hm2 : mid < j := by omega
      have hml : mid < l.length := by rw [HX.out]; omega
      obtain ⟨b1, o1, rfl, hB, cs, hcl, hcell, hrI⟩ := (HI.out.below rInode_good hbk) mid hml
      obtain ⟨nd, hnd⟩ : ∃ nd, l[mid] = nd := ⟨_, rfl⟩
      have HNd := Hid.mk hnd
      rw [hnd] at hrI
      obtain ⟨ad, cd, rfl, _⟩ := hrI
      have k0 := hcell 0 _ rfl
      have k1 := hcell 1 _ rfl
      have k2 := hcell 2 _ rfl
      rw [Nat.add_zero] at k0
      clear hcell hcl hnd
      have hu1 : ((i : Int) + (j : Int)) / 2 = (mid : Int) := by omega
      clear hmid
      have HSm := Hid.mk (fun x (hx : x < l.length) => sorted_at HS.out (i := x) (j := mid) hml)
      have HSb := Hid.mk (fun x (hx : x < l.length) => sorted_at HS.out (i := mid) (j := x) hx)
      go_wp2_with fail
      refine (inodeCmp_any _ _ _ _ _).mono ?_
      rintro e w1 ⟨rfl, hb1⟩
      have hb2 := bthen hbk hb1
      by_cases hc : nd.fId < id
      · rw [cmpI_lt hc]
        have HLo' : Hid (∀ x, (hx : x < l.length) → x < mid + 1 → l[x].fId < id) := fun x hx hxm => by
          by_cases hxm' : x = mid
          · subst hxm'; rw [HNd.out]; exact hc
          · have h1 := HSm.out x hx (by omega)
            rw [HNd.out] at h1
            omega
        clear HLo HSm HSb
        go_wp2_with fail
        go_roundw
        case rel => exact ⟨mid + 1, j, by omega, by omega, by go_num, rfl, HLo'.out, HHi.out, hb2⟩
        case measure => simp [intOf]; omega
      · have hcm : (cmpI nd.fId id < 0) = False := eq_false (by unfold cmpI; rw [if_neg hc]; split <;> omega)
        have HHi' : Hid (∀ x, (hx : x < l.length) → mid ≤ x → id ≤ l[x].fId) := fun x hx hxm => by
          by_cases hxm' : x = mid
          · subst hxm'; rw [HNd.out]; omega
          · have h1 := HSb.out x hx (by omega)
            rw [HNd.out] at h1
            omega
        clear HHi HSm HSb
        generalize cmpI nd.fId id = cv at *
        go_wp2_with fail
        go_roundw
        case rel => exact ⟨i, mid, by omega, by omega, rfl, by go_num, HLo.out, HHi'.out, hb2⟩
        case measure => simp [intOf]; omega
    · have hji : j = i := by omega
      subst hji
      by_cases hin : j < n
      · have hil : j < l.length := by rw [HX.out]; exact hin
        obtain ⟨b1, o1, rfl, hB, cs, hcl, hcell, hrI⟩ := (HI.out.below rInode_good hbk) j hil
        obtain ⟨nd, hnd⟩ : ∃ nd, l[j] = nd := ⟨_, rfl⟩
        have HNd := Hid.mk hnd
        rw [hnd] at hrI
        obtain ⟨ad, cd, rfl, _⟩ := hrI
        have k0 := hcell 0 _ rfl
        have k1 := hcell 1 _ rfl
        have k2 := hcell 2 _ rfl
        rw [Nat.add_zero] at k0
        clear hcell hcl hnd
        have HSb := Hid.mk (fun x (hx : x < l.length) => sorted_at HS.out (i := j) (j := x) hx)
        by_cases hc : nd.fId = id
        · have HV : Hid (hasId l id = true) := hasId_yes hil (by rw [HNd.out]; exact hc)
          have HP : Hid (∃ h : j < l.length, l[j].fId = id) := ⟨hil, by rw [HNd.out]; exact hc⟩
          have hce : cmpI id id = 0 := cmpI_eq rfl
          go_wp2_with fail
          refine (inodeCmp_any _ _ _ _ _).mono ?_
          rintro e w1 ⟨rfl, hb1⟩
          rw [hce]
          have hb2 := bthen hbk hb1
          go_wp2_with fail
          refine bodyPost_ret (v := .tuple #[.int .i64 j, .bool true]) (by simp [results, Tryz.results101, go_sem, *]) rfl ⟨j, by rw [HV.out], fun _ => HP.out, hb2⟩
        · have HV : Hid (hasId l id = false) := hasId_no (fun x hx => by
            by_cases h1 : x < j
            · have := HLo.out x hx h1; omega
            · by_cases h2 : x = j
              · subst h2; rw [HNd.out]; exact hc
              · have h3 := HSb.out x hx (by omega)
                rw [HNd.out] at h3
                have h4 := HHi.out j hil (Nat.le_refl _)
                rw [HNd.out] at h4
                omega)
          have hce : (cmpI nd.fId id == 0) = false := by
            unfold cmpI
            split
            · rfl
            · split
              · rfl
              · omega
          go_wp2_with fail
          refine (inodeCmp_any _ _ _ _ _).mono ?_
          rintro e w1 ⟨rfl, hb1⟩
          have hb2 := bthen hbk hb1
          generalize cmpI nd.fId id = cv at *
          go_wp2_with fail
          refine bodyPost_ret (v := .tuple #[.int .i64 j, .bool false]) (by simp [results, Tryz.results101, go_sem, *]) rfl ⟨j, by rw [HV.out], (fun h => by rw [HV.out] at h; cases h), hb2⟩
      · have HV : Hid (hasId l id = false) := hasId_no (fun x hx => by have := HLo.out x hx (by have := HX.out; omega); omega)
        go_wp2_with fail
        refine bodyPost_ret (v := .tuple #[.int .i64 j, .bool false]) (by simp [results, Tryz.results101, go_sem, *]) rfl ⟨j, by rw [HV.out], (fun h => by rw [HV.out] at h; cases h), hbk⟩

set_option maxHeartbeats 1000000 in
theorem inodePlace_any (a : Option Addr) (cap : Nat) (l : List MInode) (id : Int) (w : World) (hl : LeafL 3 rInode w.heap.size w a cap l) (hw : l.length ≤ 16777216) (hs : l.Pairwise fun x y => x.fId < y.fId) :
    Calls Tryz.prog 84 #[.slice a l.length cap, .int .i64 id] w fun e w' => ∃ p : Nat, e = .returned (.tuple #[.int .i64 p, .bool (hasId l id)]) ∧ (hasId l id = true → ∃ h : p < l.length, l[p].fId = id) ∧ Below w.heap.size w w' := by
  have HI := Hid.mk hl.2.2
  have HL := Hid.mk hl
  have HS := Hid.mk hs
  clear hl hs
  go_enter Tryz.func84, Tryz.ntmps84
  go_wp2_with fail
  refine (inodeSearch_any a _ cap l id w rfl ⟨HL.out.1, HL.out.2.1, HI.out⟩ hw HS.out).mono ?_
  rintro e w1 ⟨p, rfl, hp, hb1⟩
  have HP := Hid.mk hp
  clear hp
  go_wp2_with fail
  refine bodyPost_ret (v := .tuple #[.int .i64 p, .bool (hasId l id)]) (by simp [results, Tryz.results84, go_sem, *]) rfl ⟨p, rfl, HP.out, hb1⟩

end Go.Proofs.YtnohnkcijomdjaaGreatDoor
