/-
  The map of a cluster's first replica: the program's and the specification's.
-/
import Derived.Test.YtembioiaeimegaaUPaL
import Derived.Test.YtembioiaeimegaaUCatP
namespace Go.Proofs.Ytembioiaeimegaa
open Go.RowKit Go.Maps
set_option linter.unusedVariables false
set_option linter.unusedSimpArgs false
set_option maxRecDepth 10000

def finalP (m : MCluster) : List MPair := match m.fReps with | [] => [] | r :: _ => r.fMap

theorem finalP_w (m : MCluster) (h : wCluster m ≤ 1048576) : wPs (finalP m) ≤ 1048576 := by
  unfold finalP wPs
  unfold wCluster at h
  cases hm : m.fReps with
  | nil => simp [sumW]
  | cons r rs =>
    rw [hm] at h
    simp only [sumW] at h ⊢
    unfold wReplica at h
    simp only [List.length_cons] at h
    omega
theorem boundFinal_0 (m : MCluster) (h : wCluster m ≤ 1048576) : wPs (finalP m) ≤ 1099511627776 := Nat.le_trans (finalP_w m h) (by omega)

set_option maxHeartbeats 4000000 in
theorem implFinal_c (cs : List Value) (m : MCluster) (w : World) (hr : rCluster w.heap.size w cs m) (hw : wCluster m ≤ 1048576) :
    Calls Try.prog 7 #[.agg cs.toArray] w fun e w' => ∃ (v : Value) (F : List Nat), e = .returned v ∧ ownS 3 55 oPair w' v (finalP m) F ∧ F.Nodup ∧ (∀ b, b ∈ F → w.heap.size ≤ b) ∧ Below w.heap.size w w' := by
  have hfw := finalP_w m hw
  obtain ⟨a0, c0, a1, c1, a2, c2, rfl, hL, _, _, _⟩ := hr
  cases hm : m.fReps with
  | nil =>
    have hf : finalP m = [] := by unfold finalP; rw [hm]
    rw [hf]
    clear hf hfw hL hw
    go_enter Try.func7, Try.ntmps7
    go_wp2_with fail
    go_ret
    exact ⟨_, [], rfl, .inl ⟨rfl, rfl, rfl⟩, List.nodup_nil, (fun b hb => by cases hb), (by repeat (first | with_reducible exact Below.refl _ _ | refine Below.alloc ?_ (by simp) _))⟩
  | cons r rs =>
    have hf : finalP m = r.fMap := by unfold finalP; rw [hm]
    rw [hf] at hfw ⊢
    rw [hm] at hL
    obtain ⟨b1, o1, rfl, hB, cs, hcl, hcell, hrR⟩ := hL.2.2 0 (by simp)
    rw [List.getElem_cons_zero] at hrR
    obtain ⟨a3, c3, a4, c4, a5, c5, a6, c6, a7, c7, rfl, _, _, _, _, _, _, hM, _, _⟩ := hrR
    have k6 := hcell 6 _ rfl
    simp only [Nat.zero_mul, Nat.add_zero] at k6
    have HM := Hid.mk hM
    have hn : (r :: rs).length ≤ 9223372036854775807 := Nat.le_trans hL.1 hL.2.1
    have hfl : r.fMap.length ≤ 1048576 := by unfold wPs at hfw; omega
    simp only [List.length_cons] at hn
    have hne : ¬ (((rs.length : Int) + 1) = 0) := by omega
    clear hcell hcl hL hM hw hf hm
    go_enter Try.func7, Try.ntmps7
    go_wp2_with fail
    obtain ⟨wq, hwq⟩ : ∃ wq, wq = (w.alloc (.cells #[.slice (some ⟨b1, o1, none⟩) (rs.length + 1) c0, .slice a1 m.fNet.length c1, .slice a2 m.fAsked.length c2] 34)).alloc (.cells #[.slice a6 r.fMap.length c6] 28) := ⟨_, rfl⟩
    have hbq : Below w.heap.size w wq := by rw [hwq]; exact ((Below.refl _ _).alloc (Nat.le_refl _) _).alloc (by simp) _
    have hbx : Bx wq (w.heap.size + 1) [.slice a6 r.fMap.length c6] := by rw [hwq]; have h := Bx.new (w.alloc (.cells #[.slice (some ⟨b1, o1, none⟩) (rs.length + 1) c0, .slice a1 m.fNet.length c1, .slice a2 m.fAsked.length c2] 34)) [.slice a6 r.fMap.length c6] 28; simpa using h
    rw [← hwq]
    clear hwq
    refine (concatPair_any (w.heap.size + 1) 1 [(a6, c6, r.fMap)] wq rfl (by omega) hbx.1 (fun i h => ?_) (fun i h => ?_) ?_).mono ?_
    · have h0 : i = 0 := by simp at h; omega
      subst h0
      exact hbx.2 0 _ rfl
    · have h0 : i = 0 := by simp at h; omega
      subst h0
      exact (HM.out.below rPair_good hbq).mono rPair_good hbq.size
    · have h0 : sumW lenPair [(a6, c6, r.fMap)] = r.fMap.length := by simp [sumW, lenPair]
      rw [h0]; omega
    rintro e w1 ⟨v, rfl, hrow, hx1⟩
    have hcat : catPair [(a6, c6, r.fMap)] = r.fMap := by simp [catPair]
    rw [hcat] at hrow
    obtain ⟨h1, h2, h3⟩ := pairs_own hrow
    have HO := Hid.mk h1
    have HN := Hid.mk h2
    have HG : Hid (∀ b, b ∈ v.ownBlock.toList → w.heap.size ≤ b) := fun b hb => Nat.le_trans hbq.size (h3 b hb)
    have hb1 := bthen hbq hx1
    clear hrow h1 h2 h3 hcat
    go_wp2_with fail
    go_ret
    exact ⟨v, _, rfl, HO.out, HN.out, HG.out, hb1⟩

set_option maxHeartbeats 4000000 in
theorem specFinal_c (cs : List Value) (m : MCluster) (w : World) (hr : rCluster w.heap.size w cs m) (hw : wCluster m ≤ 1048576) :
    Calls Try.prog 5 #[.agg cs.toArray] w fun e w' => ∃ v : Value, e = .returned v ∧ rdPs w'.heap.size w' v (finalP m) ∧ Below w.heap.size w w' := by
  obtain ⟨iT, hiT, hz0, hz1, hz2⟩ := info_parts Try.infoOfPair
  have hfw := finalP_w m hw
  obtain ⟨a0, c0, a1, c1, a2, c2, rfl, hL, _, _, _⟩ := hr
  cases hm : m.fReps with
  | nil =>
    have hf : finalP m = [] := by unfold finalP; rw [hm]
    rw [hf]
    clear hf hfw hL hw
    go_enter Try.func5, Try.ntmps5
    go_wp2_with fail
    go_ret
    exact ⟨_, rfl, ⟨_, _, rfl, by simp, by omega, fun j hj => by simp at hj⟩, (by repeat (first | with_reducible exact Below.refl _ _ | refine Below.alloc ?_ (by simp) _))⟩
  | cons r rs =>
    have hf : finalP m = r.fMap := by unfold finalP; rw [hm]
    rw [hf] at hfw ⊢
    rw [hm] at hL
    obtain ⟨b1, o1, rfl, hB, cs, hcl, hcell, hrR⟩ := hL.2.2 0 (by simp)
    rw [List.getElem_cons_zero] at hrR
    obtain ⟨a3, c3, a4, c4, a5, c5, a6, c6, a7, c7, rfl, _, _, _, _, _, _, hM, _, _⟩ := hrR
    have k6 := hcell 6 _ rfl
    simp only [Nat.zero_mul, Nat.add_zero] at k6
    have HM := Hid.mk hM
    have hn : (r :: rs).length ≤ 9223372036854775807 := Nat.le_trans hL.1 hL.2.1
    have hfl : r.fMap.length ≤ 1048576 := by unfold wPs at hfw; omega
    simp only [List.length_cons] at hn
    have hne : ¬ (((rs.length : Int) + 1) = 0) := by omega
    clear hcell hcl hL hM hw hf hm
    obtain ⟨wa, hwa⟩ : ∃ wa, wa = w.alloc (.cells #[.slice (some ⟨b1, o1, none⟩) (rs.length + 1) c0, .slice a1 m.fNet.length c1, .slice a2 m.fAsked.length c2] 34) := ⟨_, rfl⟩
    obtain ⟨wq, hwq⟩ : ∃ wq, wq = wa.alloc (.cells #[] 55) := ⟨_, rfl⟩
    have hba : Below w.heap.size w wa := by rw [hwa]; exact (Below.refl _ _).alloc (Nat.le_refl _) _
    have hbq : Below w.heap.size w wq := by rw [hwq]; exact hba.alloc hba.size _
    have HO : Hid (wq.ownsRow w.heap.size 55 3 (.slice (some ⟨wa.heap.size, 0, none⟩) 0 0) 0 []) := by unfold Hid; rw [hwq]; exact own_lit1 wa w.heap.size _ _ hba.size
    obtain ⟨s1, u1, u2, u3, u4⟩ := Src.any onePair (P := Try.prog) (n := r.fMap.length) (c := c6) Try.underlying28 rfl (HM.out.2.2.below rPair_good hbq)
    have HU1 := Hid.mk u1
    have HU2 := Hid.mk u2
    have HU3 := Hid.mk u3
    have HU4 := Hid.mk u4
    have hwaz : wa.heap.size = w.heap.size + 1 := by rw [hwa]; simp
    rw [hwaz] at HO
    have HQ : Hid (wq = (w.alloc (.cells #[.slice (some ⟨b1, o1, none⟩) (rs.length + 1) c0, .slice a1 m.fNet.length c1, .slice a2 m.fAsked.length c2] 34)).alloc (.cells #[] 55)) := by unfold Hid; rw [hwq, hwa]
    clear u1 u2 u3 u4 hwa hwq hwaz hba
    go_enter Try.func5, Try.ntmps5
    go_wp2_with (at_builtin; rw [← HQ.out]; refine wpList_append_src_y rfl _ _ 28 28 rfl w.heap.size 55 iT (.agg #[.string ⟨#[]⟩, .string ⟨#[]⟩, .bool false]) 3 40 Try.underlying28 hiT hz0 hz1 hz2 rfl (.slice (some ⟨w.heap.size + 1, 0, none⟩) 0 0) 0 [] rfl HO.out (.slice a6 r.fMap.length c6) rfl r.fMap.length s1.flatten HU4.out (by unfold maxLen; omega) (by omega) hbq.size ?_; intro v2 w2 ho2 hgr2 hat2)
    have hb2 : Below w.heap.size wq w2 := (Below.refl _ _).grown hgr2 hbq.size (fun k h => by simp [Value.ownBlock] at h; omega)
    have HF : Hid (RowR 3 55 rPair w.heap.size w2 w.heap.size v2 ([] ++ r.fMap)) := RowR.cat (l1 := []) (c1 := []) rPair_good rfl (fun _ h => by cases h) (fun _ h => by simp at h) HU1.out HU2.out HU3.out hb2 (by simpa using ho2)
    rw [List.nil_append] at HF
    have HP : Hid (rdPs w2.heap.size w2 v2 r.fMap) := rdPs_own (pairs_own HF.out).1
    have hB2 := hbq.trans hb2
    clear ho2 hgr2 hat2 HF
    go_wp2_with fail
    go_ret
    exact ⟨v2, rfl, HP.out, hB2⟩

end Go.Proofs.Ytembioiaeimegaa
