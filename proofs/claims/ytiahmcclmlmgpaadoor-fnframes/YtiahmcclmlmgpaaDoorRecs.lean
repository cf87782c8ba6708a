/-
  The records of a log: plainly, and the specification's.
-/
import Derived.Test.YtiahmcclmlmgpaaDoorByteSS
import Derived.Test.YtiahmcclmlmgpaaDoorUnfS
import Derived.Test.YtiahmcclmlmgpaaDoorRowG
namespace Go.Proofs.YtiahmcclmlmgpaaDoor
open Go.RowKit
set_option linter.unusedVariables false
set_option linter.unusedSimpArgs false
set_option maxRecDepth 10000

theorem getNum_on {b : List Int} {p : Int} (h : (getNum b p).2.2 = true) : p < (getNum b p).2.1 := by
  simp only [getNum] at h ⊢
  by_cases h1 : p < 0 ∨ (b.length : Int) ≤ p
  · rw [if_pos h1] at h; simp [noNum] at h
  · rw [if_neg h1] at h ⊢
    by_cases h2 : b.getD p.toNat 0 = 128
    · rw [if_pos h2] at h; simp [noNum] at h
    · rw [if_neg h2] at h ⊢
      have := gnS_bounds 5 _ 0 p (by omega) h
      omega
/-- A frame that is one ends farther on, within the bytes. -/
theorem unframe_bd {zs : List Int} (hb : BytesOk zs) {p : Int} (h : (unframe zs p).2.2 = true) :
    0 ≤ p ∧ p < (unframe zs p).2.1 ∧ (unframe zs p).2.1 ≤ zs.length ∧ BytesOk (unframe zs p).1 ∧ (unframe zs p).1.length ≤ zs.length := by
  unfold unframe at h ⊢
  by_cases h1 : p < 0 ∨ (zs.length : Int) - 4 < p
  · rw [if_pos h1] at h; cases h
  · rw [if_neg h1] at h ⊢
    by_cases h2 : (getText zs (p + 4)).2.2 = true ∧ crc (getText zs (p + 4)).1 = rd4 zs p.toNat
    · rw [if_pos h2]
      have h3 := h2.1
      have h4 : (getNum zs (p + 4)).2.2 = true := by
        unfold getText at h3
        by_cases h5 : (getNum zs (p + 4)).2.2 = true ∧ (getNum zs (p + 4)).1 ≤ zs.length - (getNum zs (p + 4)).2.1
        · exact h5.1
        · rw [if_neg h5] at h3; cases h3
      have h5 := getNum_bounds h4
      have h6 := getNum_on h4
      unfold getText at h3 ⊢
      by_cases h7 : (getNum zs (p + 4)).2.2 = true ∧ (getNum zs (p + 4)).1 ≤ zs.length - (getNum zs (p + 4)).2.1
      · rw [if_pos h7]
        have h8 := h7.2
        refine ⟨by omega, ?_, ?_, getText_ok hb _ _, ?_⟩
        · show p < (getNum zs (p + 4)).2.1 + (getNum zs (p + 4)).1
          omega
        · show (getNum zs (p + 4)).2.1 + (getNum zs (p + 4)).1 ≤ (zs.length : Int)
          omega
        · show ((zs.drop _).take _).length ≤ zs.length
          simp
          omega
      · rw [if_neg h7] at h3; cases h3
    · rw [if_neg h2] at h; cases h
theorem unframe_bad {zs : List Int} {p : Int} (h : (unframe zs p).2.2 = false) : unframe zs p = ([], p, false) := by
  unfold unframe at h ⊢
  by_cases h1 : p < 0 ∨ (zs.length : Int) - 4 < p
  · rw [if_pos h1]
  · rw [if_neg h1] at h ⊢
    by_cases h2 : (getText zs (p + 4)).2.2 = true ∧ crc (getText zs (p + 4)).1 = rd4 zs p.toNat
    · rw [if_pos h2] at h; cases h
    · rw [if_neg h2]

def recsF : Nat → List Int → Int → List (List Int) × Int
  | 0, _, p => ([], p)
  | f + 1, zs, p => if (unframe zs p).2.2 then ((unframe zs p).1 :: (recsF f zs (unframe zs p).2.1).1, (recsF f zs (unframe zs p).2.1).2) else ([], p)
/-- The records, and where the first begins that is none. -/
def recsP (zs : List Int) : List (List Int) × Int := recsF (zs.length + 1) zs 0
/-- What has come, and what is to come. -/
def RecAt (zs : List Int) (out : List (List Int)) (p : Int) : Prop := ∃ f, zs.length + 1 ≤ f + p.toNat ∧ recsP zs = (out ++ (recsF f zs p).1, (recsF f zs p).2)
theorem RecAt.start (zs : List Int) : RecAt zs [] 0 := ⟨zs.length + 1, by simp, by simp [recsP]⟩
theorem RecAt.on {zs : List Int} (hb : BytesOk zs) {out : List (List Int)} {p : Int} (h : RecAt zs out p) (hu : (unframe zs p).2.2 = true) : RecAt zs (out ++ [(unframe zs p).1]) (unframe zs p).2.1 := by
  obtain ⟨f, h1, h2⟩ := h
  have h3 := unframe_bd hb hu
  cases f with
  | zero => omega
  | succ f =>
    refine ⟨f, by omega, ?_⟩
    rw [h2, recsF, if_pos hu]
    simp
theorem RecAt.done {zs : List Int} {out : List (List Int)} {p : Int} (h : RecAt zs out p) (hp : p ≤ zs.length) (hu : (unframe zs p).2.2 = false) : recsP zs = (out, p) := by
  obtain ⟨f, h1, h2⟩ := h
  cases f with
  | zero => omega
  | succ f =>
    rw [h2, recsF, if_neg (by rw [hu]; simp)]
    simp

theorem Tryd.infoBS : (Tryd.prog.info? 22).map (fun i => (i.zero, i.size, i.bytes)) = some (some (.slice none 0 0), 1, 24) := by kernel_rfl
theorem ownBs_lit (w : World) : ownS 1 22 oBy (w.alloc (.cells #[] 22)) (.slice (some ⟨w.heap.size, 0, none⟩) 0 0) [] [w.heap.size] :=
  .inr ⟨w.heap.size, 0, #[], [], rfl, (show (w.heap.push _)[w.heap.size]? = _ from Array.getElem?_push_size), Nat.le_refl _, by simp [maxLen], by simp, rfl, fun j h => by simp at h, by simp⟩
theorem newB_own {w : World} {base : Nat} {v : Value} {zs : List Int} (hb : BytesOk zs) (h : w.ownsRow base 5 1 v zs.length (zs.map (Value.int .u8))) : oBy w [v] zs v.ownBlock.toList :=
  ⟨v, rfl, own_base h (Nat.zero_le _), hb, rfl⟩

theorem ownS_in {α : Type} {size : Nat} {e : TypeId} {O : ORep α} {w : World} {v : Value} {l : List α} {F : List Nat} (h : ownS size e O w v l F) : ∀ k, v.ownBlock = some k → k ∈ F := by
  intro k hk
  rcases h with ⟨rfl, _, _⟩ | ⟨g, cap, cur, Fs, rfl, _, _, _, _, _, _, rfl⟩
  · simp [Value.ownBlock] at hk
  · simp [Value.ownBlock] at hk
    simp [hk]

set_option maxHeartbeats 2000000 in
theorem specRecords_any (a : Option Addr) (n cap : Nat) (zs : List Int) (w : World) (hx : zs.length = n) (hlen : n ≤ 1048576) (hcap : n ≤ cap) (hb : BytesOk zs) (hr : Rd .u8 w.heap.size w a zs) :
    Calls Tryd.prog 25 #[.slice a n cap] w fun e w' => ∃ v F, e = .returned (.tuple #[v, .int .i64 (recsP zs).2]) ∧ ownS 1 22 oBy w' v (recsP zs).1 F ∧ F.Nodup ∧ (∀ b, b ∈ F → w.heap.size ≤ b) ∧ Below w.heap.size w w' := by
  obtain ⟨i0, hi, hz0, hz1, hz2⟩ := info_parts Tryd.infoBS
  have HX := Hid.mk hx
  have HB := Hid.mk hb
  have HR := Hid.mk hr
  clear hx hb hr
  go_enter Tryd.func25, Tryd.ntmps25
  go_wp2_with fail
  go_loopw [4, 5] (fun o pv wr => ∃ (p : Nat) (out : List (List Int)) (F : List Nat), p ≤ n ∧ out.length ≤ p ∧ pv = .int .i64 p ∧ RecAt zs out p ∧ ownS 1 22 oBy wr o out F ∧ F.Nodup ∧ (∀ b, b ∈ F → w.heap.size ≤ b) ∧ Below w.heap.size w wr) (fun _ pv _ => n + 1 - (intOf pv).toNat)
  case atStart => exact ⟨0, [], [w.heap.size], Nat.zero_le _, Nat.le_refl _, rfl, RecAt.start zs, ownBs_lit w, by simp, by simp, (Below.refl _ _).alloc (Nat.le_refl _) _⟩
  case round =>
    obtain ⟨p, out, F, hp, hol, rfl, hra, how, hN, hge, hbk⟩ := hrel
    have HRA := Hid.mk hra
    clear hra
    have hR1 := (HR.out.below hbk).mono hbk.size
    go_wp2_with fail
    refine (specUnframe_any a n cap zs p wr HX.out (by omega) hcap HB.out hR1).mono ?_
    rintro e w1 ⟨v1, rfl, ho1, hx1⟩
    have hB1 := hbk.trans (hx1.mono hbk.size)
    have how1 := ownS.frame oBy_good how (fun b hb => hx1.block b (ownS.lt oBy_good how b hb))
    cases hu : (unframe zs p).2.2 with
    | false =>
      have HD : Hid (recsP zs = (out, (p : Int))) := RecAt.done HRA.out (by rw [HX.out]; omega) hu
      have hbad := unframe_bad hu
      rw [hbad] at ho1 ⊢
      go_wp2_with fail
      go_ret2
      exact ⟨_, F, by rw [HD.out]; rfl, by rw [HD.out]; exact how1, hN, hge, hB1⟩
    | true =>
      have hbd := unframe_bd HB.out hu
      have HN := Hid.mk (RecAt.on HB.out HRA.out hu)
      obtain ⟨bd, hbdd⟩ : ∃ x, x = (unframe zs p).1 := ⟨_, rfl⟩
      obtain ⟨nx, hnx⟩ : ∃ x : Nat, (x : Int) = (unframe zs p).2.1 := ⟨(unframe zs p).2.1.toNat, by omega⟩
      rw [← hbdd] at ho1 hbd HN
      rw [← hnx] at hbd HN ⊢
      have hln : (nx : Int) ≤ n := by have := hbd.2.2.1; rw [HX.out] at this; exact this
      have hon : (p : Int) < nx := hbd.2.1
      have hbl : bd.length ≤ n := by have := hbd.2.2.2.2; rw [HX.out] at this; exact this
      have hO1 := newB_own hbd.2.2.2.1 ho1
      have hF1 : ∀ b, b ∈ v1.ownBlock.toList → wr.heap.size ≤ b := fun b hb => (ho1.lt b (by simpa using hb)).1
      obtain ⟨r1, q1, rfl, _, _⟩ := own_rd rfl ho1
      obtain ⟨xs, hxs, hpush⟩ := ownS.push oBy_good (ownS.frame oBy_good how1 (fun b hb => (show Below w1.heap.size w1 (w1.alloc (.cells #[.slice r1 bd.length q1] 22)) from (Below.refl _ _).alloc (Nat.le_refl _) _).block b (ownS.lt oBy_good how1 b hb))) hN
      obtain ⟨w2, hw2⟩ : ∃ x, x = w1.alloc (.cells #[.slice r1 bd.length q1] 22) := ⟨_, rfl⟩
      rw [← hw2] at hxs hpush
      have hx2 : Below w1.heap.size w1 w2 := by rw [hw2]; exact (Below.refl _ _).alloc (Nat.le_refl _) _
      have hbx : Bx w2 w1.heap.size [.slice r1 bd.length q1] := by rw [hw2]; exact Bx.new _ _ _
      have hB2 := hB1.trans (hx2.mono hB1.size)
      have HLT : Hid (∀ b, b ∈ F → b < wr.heap.size) := fun b hb => ownS.lt oBy_good how b hb
      have HOB := Hid.mk (ownS_in how)
      clear hu hbd how how1 ho1 hbdd hnx
      go_wp2_with (at_builtin; rw [← hw2]; refine wpList_append_own_at _ rfl _ _ 39 rfl 0 22 i0 (.slice none 0 0) 1 24 Tryd.underlying39 hi hz0 hz1 hz2 rfl (by decide) _ _ _ rfl hxs ⟨w1.heap.size, 0, none⟩ 1 1 [.slice r1 bd.length q1] rfl rfl (bx_news hbx) (by intro u hu; simp at hu; subst hu; rfl) (by unfold maxLen; omega) (by omega) (by omega) ?_; intro v3 w3 hown3 hgrow3 hnil3 hloc3)
      have hO2 := oBy_good.frame hO1 (fun b hb => hx2.block b (oBy_good.lt hO1 b hb))
      obtain ⟨F', hF', hN', hin⟩ := hpush w3 v3 _ bd _ hown3 hgrow3 hloc3 hO2 (by cases (Value.ownBlock _) <;> simp) (fun b hb hbF => by have h1 := hF1 b hb; have h2 := HLT.out b hbF; omega)
      have hB3 := hB2.grown hgrow3 hB2.size (fun k h => hge k (HOB.out k h))
      have hge' : ∀ b, b ∈ F' → w.heap.size ≤ b := fun b hb => by
        rcases hin b hb with h | h | h
        · exact hge b h
        · exact Nat.le_trans hbk.size (hF1 b h)
        · rw [h]; exact hB2.size
      clear hpush hown3 hgrow3 hnil3 hloc3 hxs hO1 hO2 hbx
      go_wp2_with fail
      go_roundw
      case rel => exact ⟨nx, out ++ [bd], F', by omega, by simp; omega, rfl, HN.out, hF', hN', hge', hB3⟩
      case measure => simp [intOf]; omega

end Go.Proofs.YtiahmcclmlmgpaaDoor
