/-
  A new cluster: what both sides answer.
-/
import Derived.Test.YtiefmjjhedmkpaaRegK
import Derived.Test.YtiefmjjhedmkpaaCluM
namespace Go.Proofs.Ytiefmjjhedmkpaa
open Go.RowKit Go.Maps
set_option linter.unusedVariables false
set_option linter.unusedSimpArgs false
set_option maxRecDepth 10000
abbrev q295_6_5_0 : Oper := ⟨some 10, .fieldAddr 26 (.tmp 3) 0, 0, "l10_cluster.go:43", #[], none⟩
abbrev q295_6_5_2 : Oper := ⟨some 12, .move (.tmp 4), 3, "l10_cluster.go:43", #[], none⟩
abbrev q295_6_5_3 : Oper := ⟨some 13, .move (.tmp 0), 3, "l10_cluster.go:43", #[], none⟩
abbrev q295_6_5_4 : Oper := ⟨some 14, .call { callee := .value (.func 11), args := #[.tmp 12, .tmp 13], argTypes := #[3, 3] }, 37, "l10_cluster.go:43", #[⟨2, .data⟩, ⟨3, .data⟩], none⟩
abbrev q295_6_5_1 : Oper := ⟨some 11, .load 22 (.tmp 10), 22, "l10_cluster.go:43", #[⟨0, .data⟩], none⟩
abbrev q295_6_5_5 : Oper := ⟨some 15, .buildSlice 22 1 #[(0, .tmp 14)], 22, "l10_cluster.go:43", #[⟨4, .data⟩], none⟩
abbrev q295_6_5_6 : Oper := ⟨some 16, .call { callee := .builtin .append, args := #[.tmp 11, .tmp 15], argTypes := #[22, 22] }, 22, "l10_cluster.go:43", #[⟨1, .data⟩, ⟨5, .data⟩, ⟨4, .chain⟩], none⟩
abbrev q295_6_5_7 : Oper := ⟨some 17, .fieldAddr 26 (.tmp 3) 0, 0, "l10_cluster.go:43", #[⟨0, .phase⟩, ⟨1, .phase⟩, ⟨2, .phase⟩, ⟨3, .phase⟩, ⟨4, .phase⟩, ⟨5, .phase⟩, ⟨6, .phase⟩], none⟩
abbrev q295_6_5_8 : Oper := ⟨none, .store 22 (.tmp 17) (.tmp 16), 0, "l10_cluster.go:43", #[⟨7, .data⟩, ⟨6, .data⟩, ⟨6, .chain⟩, ⟨0, .phase⟩, ⟨1, .phase⟩, ⟨2, .phase⟩, ⟨3, .phase⟩, ⟨4, .phase⟩, ⟨5, .phase⟩, ⟨6, .phase⟩], none⟩
abbrev q295_5_5_0 : Oper := ⟨some 15, .fieldAddr 26 (.tmp 3) 0, 0, "l10_cluster.go:8", #[], none⟩
abbrev q295_5_5_2 : Oper := ⟨some 17, .move (.tmp 4), 3, "l10_cluster.go:8", #[], none⟩
abbrev q295_5_5_3 : Oper := ⟨some 18, .move (.tmp 0), 3, "l10_cluster.go:8", #[], none⟩
abbrev q295_5_5_4 : Oper := ⟨some 19, .call { callee := .value (.func 10), args := #[.tmp 17, .tmp 18], argTypes := #[3, 3] }, 37, "l10_cluster.go:8", #[⟨2, .data⟩, ⟨3, .data⟩], none⟩
abbrev q295_5_5_1 : Oper := ⟨some 16, .load 22 (.tmp 15), 22, "l10_cluster.go:8", #[⟨0, .data⟩], none⟩
abbrev q295_5_5_5 : Oper := ⟨some 20, .buildSlice 22 1 #[(0, .tmp 19)], 22, "l10_cluster.go:8", #[⟨4, .data⟩], none⟩
abbrev q295_5_5_6 : Oper := ⟨some 21, .call { callee := .builtin .append, args := #[.tmp 16, .tmp 20], argTypes := #[22, 22] }, 22, "l10_cluster.go:8", #[⟨1, .data⟩, ⟨5, .data⟩, ⟨4, .chain⟩], none⟩
abbrev q295_5_5_7 : Oper := ⟨some 22, .fieldAddr 26 (.tmp 3) 0, 0, "l10_cluster.go:8", #[⟨0, .phase⟩, ⟨1, .phase⟩, ⟨2, .phase⟩, ⟨3, .phase⟩, ⟨4, .phase⟩, ⟨5, .phase⟩, ⟨6, .phase⟩], none⟩
abbrev q295_5_5_8 : Oper := ⟨none, .store 22 (.tmp 22) (.tmp 21), 0, "l10_cluster.go:8", #[⟨7, .data⟩, ⟨6, .data⟩, ⟨6, .chain⟩, ⟨0, .phase⟩, ⟨1, .phase⟩, ⟨2, .phase⟩, ⟨3, .phase⟩, ⟨4, .phase⟩, ⟨5, .phase⟩, ⟨6, .phase⟩], none⟩

theorem Try.infoOfReplica : (Try.prog.info? 37).map (fun i => (i.zero, i.size, i.bytes)) = some (some (.agg #[.int .i64 0, .int .i64 0, .int .i64 0, .slice none 0 0, .slice none 0 0, .slice none 0 0, .slice none 0 0, .slice none 0 0]), 8, 144) := by kernel_rfl

def clN (n : Int) : Nat := if 1 ≤ n ∧ n ≤ 7 then n.toNat else 0
def clL (n : Int) : List MRn := (List.range (clN n)).map (fun (i : Nat) => (⟨(i : Int) + 1, n, 1⟩ : MRn))
theorem clN_le (n : Int) : clN n ≤ 7 := by unfold clN; split <;> omega
theorem clL_len (n : Int) : (clL n).length = clN n := by simp [clL]
theorem clL_at (n : Int) (k : Nat) (h : k < (clL n).length) : (clL n)[k] = ⟨(k : Int) + 1, n, 1⟩ := by simp [clL]
theorem seat_yes {n : Int} {k : Nat} (h : k < clN n) : seatP ((k : Int) + 1) n = true := by
  unfold clN at h
  unfold seatP inR
  split at h
  · rw [decide_eq_true ⟨by omega, by omega⟩, decide_eq_true ⟨by omega, by omega⟩]; rfl
  · omega
theorem seat_no {n : Int} {k : Nat} (h : ¬ k < clN n) : seatP ((k : Int) + 1) n = false := by
  unfold clN at h
  unfold seatP inR
  split at h
  · rw [decide_eq_false (p := 1 ≤ (k : Int) + 1 ∧ (k : Int) + 1 ≤ n) (fun h2 => by omega), Bool.and_false]
  · rename_i h2; rw [decide_eq_false h2, Bool.false_and]
theorem rn_yes {n : Int} {k : Nat} (h : k < clN n) : repL (rnA ((k : Int) + 1) n) (rnB ((k : Int) + 1) n) (rnC ((k : Int) + 1) n) = repL ((k : Int) + 1) n 1 := by
  unfold rnA rnB rnC
  rw [seat_yes h]
  rfl
theorem Src.rep {P : Program} {w : World} {g tx e' : Nat} {a b c : Int} (hk : P.underlying tx = some (.slice e')) (hb : Bx w g (repL a b c)) : Src P 8 tx (.slice (some ⟨g, 0, none⟩) 1 1) 1 (repL a b c) w :=
  Src.ofSlice w hk ⟨g, 0, none⟩ 1 1 _ rfl (bx_news hb) (by intro u hu; simp [repL] at hu; rcases hu with rfl | rfl | rfl | rfl <;> rfl)

theorem ownS.blk2 {α : Type} {size : Nat} {e : TypeId} {O : ORep α} {w : World} {v : Value} {l : List α} {F : List Nat} (h : ownS size e O w v l F) : ∀ k, v.ownBlock = some k → k ∈ F := by
  rcases h with ⟨rfl, _, _⟩ | ⟨g, cap, cur, Fs, rfl, _, _, _, _, _, _, rfl⟩
  · intro k hk; simp [Value.ownBlock] at hk
  · intro k hk; simp [Value.ownBlock] at hk; subst hk; simp

set_option maxHeartbeats 4000000 in
theorem implClusterNew_any (n : Int) (w : World) (hwf : (Lit.int .i64 n).wf = true) :
    Calls Try.prog 6 #[.int .i64 n] w fun e w' => ∃ (v : Value) (F : List Nat), e = .returned (.agg #[v, .slice none 0 0, .slice none 0 0]) ∧ ownS 8 37 oRn w' v (clL n) F ∧ F.Nodup ∧ (∀ b, b ∈ F → w.heap.size ≤ b) ∧ Below w.heap.size w w' := by
  obtain ⟨iT, hiT, hz0, hz1, hz2⟩ := info_parts Try.infoOfReplica
  have hN7 := clN_le n
  obtain ⟨N, hN⟩ : ∃ N, N = clN n := ⟨_, rfl⟩
  have HLEN : Hid ((clL n).length = N) := by show _ = _; rw [hN]; exact clL_len n
  have HAT : Hid (∀ k, (h : k < (clL n).length) → (clL n)[k] = ⟨(k : Int) + 1, n, 1⟩) := clL_at n
  have HSY0 : Hid (∀ k : Nat, k < N → seatP ((k : Int) + 1) n = true) := by show ∀ k : Nat, _; rw [hN]; exact fun k h => seat_yes h
  have HSN0 : Hid (∀ k : Nat, ¬ k < N → seatP ((k : Int) + 1) n = false) := by show ∀ k : Nat, _; rw [hN]; exact fun k h => seat_no h
  have HRN : Hid (∀ k : Nat, k < N → repL (rnA ((k : Int) + 1) n) (rnB ((k : Int) + 1) n) (rnC ((k : Int) + 1) n) = repL ((k : Int) + 1) n 1) := by show ∀ k : Nat, _; rw [hN]; exact fun k h => rn_yes h
  have HNK : Hid (∀ k : Nat, k < N → (k : Int) + 1 ≤ n ∧ n ≤ 7) := by show ∀ k : Nat, _; rw [hN]; intro k h; unfold clN at h; split at h <;> omega
  have HNN : Hid (∀ k : Nat, k ≤ N → ¬ k < N → ¬ ((k : Int) + 1 ≤ n ∧ n ≤ 7)) := by show ∀ k : Nat, _; rw [hN]; intro k h1 h h2; unfold clN at h h1; split at h <;> omega
  rw [← hN] at hN7
  clear hN
  obtain ⟨l, hl⟩ : ∃ l, l = clL n := ⟨_, rfl⟩
  rw [← hl] at HLEN HAT ⊢
  clear hl
  go_enter Try.func6, Try.ntmps6
  go_wp2_with fail
  obtain ⟨wq, hwq⟩ : ∃ wq, wq = (w.alloc (.cells #[.slice none 0 0, .slice none 0 0, .slice none 0 0] 26)).alloc (.cells #[.slice none 0 0, .slice none 0 0, .slice none 0 0] 26) := ⟨_, rfl⟩
  have hbq : Below w.heap.size w wq := by rw [hwq]; exact ((Below.refl _ _).alloc (Nat.le_refl _) _).alloc (by simp) _
  have hqs : w.heap.size + 2 ≤ wq.heap.size := by rw [hwq]; simp
  have hbr : Bw wq w.heap.size 26 [.slice none 0 0, .slice none 0 0, .slice none 0 0] := by rw [hwq]; exact (Bw.new' _ _ _ rfl).alloc _
  have hbv : Bw wq (w.heap.size + 1) 26 [.slice none 0 0, .slice none 0 0, .slice none 0 0] := by rw [hwq]; exact Bw.new' _ _ _ (by simp)
  rw [← hwq]
  clear hwq
  go_loopw [4] (fun i wr => ∃ (k : Nat) (v : Value) (F : List Nat), k ≤ N ∧ i = .int .i64 ((k : Int) + 1) ∧ Hid (ownS 8 37 oRn wr v (l.take k) F ∧ F.Nodup ∧ ∀ b, b ∈ F → w.heap.size + 2 ≤ b) ∧ Bw wr w.heap.size 26 [.slice none 0 0, .slice none 0 0, .slice none 0 0] ∧ Bw wr (w.heap.size + 1) 26 [v, .slice none 0 0, .slice none 0 0] ∧ w.heap.size + 2 ≤ wr.heap.size ∧ Below w.heap.size w wr) (fun i _ => 8 - (intOf i).toNat)
  case atStart => exact ⟨0, _, [], Nat.zero_le _, rfl, ⟨.inl ⟨rfl, by simp, rfl⟩, by simp, fun b hb => by cases hb⟩, hbr, hbv, hqs, hbq⟩
  case round =>
    obtain ⟨k, v, F, hk, rfl, HO, hbr, hbv, hsz, hbk⟩ := hrel
    obtain ⟨ha, hc, hva, _⟩ := ownS.read oRn_good HO.out.1
    by_cases hlt : k < N
    · have hkl : k < l.length := by rw [HLEN.out]; exact hlt
      have hlk : (l.take k).length = k := by rw [List.length_take]; omega
      rw [hlk] at hva
      subst hva
      have HSY := Hid.mk (HSY0.out k hlt)
      have HR := Hid.mk (HRN.out k hlt)
      have HIN := Hid.mk (fun W => implReplicaNew_any ((k : Int) + 1) n W)
      rw [HR.out] at HIN
      unfold repL at HIN
      have HTK : Hid (l.take (k + 1) = l.take k ++ [⟨(k : Int) + 1, n, 1⟩]) := by show _ = _; rw [← HAT.out k hkl]; exact List.take_succ_eq_append_getElem hkl
      have hn1 := (HNK.out k hlt).1
      have hn2 := (HNK.out k hlt).2
      have c0 := hbv.cell 0 _ rfl
      have hB1 : w.heap.size + 1 < wr.heap.size := by omega
      go_wp2_with fail
      refine (seatOk_any _ _ _).mono ?_
      rintro e w1 ⟨rfl, hw1⟩
      replace hw1 := hw1.symm
      subst hw1
      rw [HSY.out]
      go_wp2_with fail
      refine wp_region_held_drew (S := fun W => True) (by kernel_rfl) (trivial) (fun hHeld => ?_)
      obtain ⟨wS, hwS⟩ : ∃ wS, wS = wr.drew := ⟨_, rfl⟩
      have HSB : Hid (Below wr.heap.size wr wS) := by rw [hwS]; exact Below.drew (Below.refl _ _)
      rw [← hwS]
      clear hwS
      refine tk 0 q295_6_5_0 (some 10) (v := ?v1) rfl rfl (by kernel_rfl) hHeld (by rfl) (fun _ _ _ h => h) (fun w h => ?y1) ?_; (case y1 => (try dsimp only at h); go_simp; try (with_reducible rfl)); try simp only [Act.put, sa, s0, s1]
      refine tk 2 q295_6_5_2 (some 12) (v := ?v2) rfl rfl (by kernel_rfl) hHeld (by rfl) (fun _ _ _ h => h) (fun w h => ?y2) ?_; (case y2 => (try dsimp only at h); go_simp; try (with_reducible rfl)); try simp only [Act.put, sa, s0, s1]
      refine tk 3 q295_6_5_3 (some 13) (v := ?v3) rfl rfl (by kernel_rfl) hHeld (by rfl) (fun _ _ _ h => h) (fun w h => ?y3) ?_; (case y3 => (try dsimp only at h); go_simp; try (with_reducible rfl)); try simp only [Act.put, sa, s0, s1]
      refine wpAnyH_ready (rs := [1, 4]) (by kernel_rfl) (by simp) ?_
      refine (AllReadyH.cons (o := q295_6_5_1) rfl (fun K hK => ?_) (AllReadyH.cons (o := q295_6_5_4) rfl (fun K hK => ?_) AllReadyH.nil))
      · go_simp
        have cl1 : wS.cell? ⟨w.heap.size + 1, 0, none⟩ = some (.slice ha k hc) := ((bthen HSB.out (show Below wS.heap.size wS wS from Below.refl _ _)).cell (p := ⟨w.heap.size + 1, 0, none⟩) hB1).trans c0
        go_simp
        obtain ⟨wE1, hq1⟩ : ∃ x, x = wS := ⟨_, rfl⟩
        have hop1 : Below wS.heap.size wS wE1 := by rw [hq1]; exact Below.refl _ _
        rw [← hq1]
        clear hq1 cl1
        refine hK.out _ _ (trivial) (fun hHeld => ?_)
        clear hK K
        try simp only [Act.put, sa, s0, s1]
        refine wpAnyH_ready (rs := [4]) (by kernel_rfl) (by simp) ?_
        refine (AllReadyH.cons (o := q295_6_5_4) rfl (fun K hK => ?_) AllReadyH.nil)
        · go_simp
          refine (HIN.out _).mono ?_
          rintro e wE4 ⟨rfl, hop4⟩
          go_wp2_with fail
          refine hK.out _ _ (trivial) (fun hHeld => ?_)
          clear hK K
          try simp only [Act.put, sa, s0, s1]
          refine wpAnyH_ready (rs := [5]) (by kernel_rfl) (by simp) ?_
          refine (AllReadyH.cons (o := q295_6_5_5) rfl (fun K hK => ?_) AllReadyH.nil)
          · go_simp
            obtain ⟨wE5, hq5⟩ : ∃ x, x = wE4.alloc (.cells (List.toArray [.int .i64 ((k : Int) + 1), .int .i64 n, .int .i64 1, .slice none 0 0, .slice none 0 0, .slice none 0 0, .slice none 0 0, .slice none 0 0]) 37) := ⟨_, rfl⟩
            have hop5 : Below wE4.heap.size wE4 wE5 := by rw [hq5]; exact (Below.refl _ _).alloc (Nat.le_refl _) _
            have hB5 : Bx wE5 wE4.heap.size (repL ((k : Int) + 1) n 1) := by rw [hq5]; exact Bx.new _ _ _
            rw [← hq5]
            clear hq5
            obtain ⟨g5, HG5⟩ : ∃ g, Hid (g = wE4.heap.size) := ⟨_, rfl⟩
            rw [← HG5.out] at hB5 ⊢
            refine hK.out _ _ (trivial) (fun hHeld => ?_)
            clear hK K
            try simp only [Act.put, sa, s0, s1]
            refine wpAnyH_ready (rs := [6]) (by kernel_rfl) (by simp) ?_
            refine (AllReadyH.cons (o := q295_6_5_6) rfl (fun K hK => ?_) AllReadyH.nil)
            · skip
              have hb5 := bthen HSB.out (show Below wS.heap.size wS wE5 from bthen (bthen (bthen (Below.refl _ _) hop1) hop4) hop5)
              have hB6 := hB5.under (show Below wE5.heap.size wE5 wE5 from Below.refl _ _)
              have hos := ownS.frame (w' := wE5) oRn_good HO.out.1 (fun b hb => hb5.block b (ownS.lt oRn_good HO.out.1 b hb))
              obtain ⟨rs, hrs, hnext⟩ := ownS.push oRn_good hos HO.out.2.1
              have HNX := Hid.mk hnext
              have HBK := Hid.mk (fun (q : Nat) (hq : Value.ownBlock (.slice ha k hc) = some q) => HO.out.2.2 q (ownS.blk2 HO.out.1 q hq))
              clear hnext
              refine step_append_src _ rfl _ _ 22 22 rfl 0 37 iT (.agg (List.toArray [.int .i64 0, .int .i64 0, .int .i64 0, .slice none 0 0, .slice none 0 0, .slice none 0 0, .slice none 0 0, .slice none 0 0])) 8 144 Try.underlying22 hiT hz0 hz1 hz2 rfl (.slice ha k hc) k rs rfl (by have h := hrs; rw [hlk] at h; exact h) (.slice (some ⟨g5, 0, none⟩) 1 1) rfl 1 (repL ((k : Int) + 1) n 1) (Src.rep Try.underlying22 hB6) (by unfold maxLen; omega) (by omega) (Nat.zero_le _) ?_
              intro v6 w6 ho6 hgr6 hat6
              obtain ⟨r6, e6, rfl⟩ := own_slice ho6
              obtain ⟨F', ho', hN', hF'⟩ := HNX.out w6 _ _ ⟨(k : Int) + 1, n, 1⟩ [] (by rw [hlk]; exact ho6) hgr6 hat6 ⟨rfl, (show (Lit.int .i64 ((k : Int) + 1)).wf = true from WalkArith.wf_i64 (by omega)), hwf, rfl, rfl⟩ (by simp) (fun b hb => by cases hb)
              have HF6 : Hid (∀ b, b ∈ F' → w.heap.size + 2 ≤ b) := (fun b hb => by have h5 := hb5.size; rcases hF' b hb with h | h | h; (exact HO.out.2.2 b h); (cases h); omega)
              have hb56 : Below (w.heap.size + 2) wE5 w6 := (Below.refl _ _).grown hgr6 (by have := hb5.size; omega) (fun q h => HBK.out q h)
              have hb6 : Below (w.heap.size + 2) wr w6 := (hb5.mono hsz).trans hb56
              have HO6 := Hid.mk ho'
              clear ho6 hgr6 hat6 ho' hF' hb56 hb5
              refine hK.out _ _ (trivial) (fun hHeld => ?_)
              clear hK K
              try simp only [Act.put, sa, s0, s1]
              refine tk 7 q295_6_5_7 (some 17) (v := ?v4) rfl rfl (by kernel_rfl) hHeld (by rfl) (fun _ _ _ h => h) (fun w h => ?y4) ?_; (case y4 => (try dsimp only at h); go_simp; try (with_reducible rfl)); try simp only [Act.put, sa, s0, s1]
              refine wpAnyH_ready (rs := [8]) (by kernel_rfl) (by simp) ?_
              refine (AllReadyH.cons (o := q295_6_5_8) rfl (fun K hK => ?_) AllReadyH.nil)
              · skip
                have hb7 := hbv.below hb6 (by omega)
                have x0 := hb7.cell 0 _ rfl
                have f0 := hb7.free 0
                have hl7 := hb7.lt
                go_simp
                obtain ⟨w7, hq7⟩ : ∃ x, x = w6.setCell ⟨w.heap.size + 1, 0, none⟩ (.slice r6 (k + 1) e6) := ⟨_, rfl⟩
                have hT67 : Turn [w.heap.size + 1] w6 w7 := by rw [hq7]; exact (Turn.refl _ _).setCell (by simp) _
                have hb77 : Bw w7 (w.heap.size + 1) 26 [.slice r6 (k + 1) e6, .slice none 0 0, .slice none 0 0] := by rw [hq7]; exact hb7.put 0 _
                rw [← hq7]
                clear hq7 x0 f0
                refine hK.out _ _ (trivial) (fun hHeld => ?_)
                clear hK K
                try simp only [Act.put, sa, s0, s1]
                refine wpAnyH_done (by kernel_rfl) ?_ _
                have hbr7 := (hbr.below hb6 (by omega)).turn hT67 (by simp)
                have hb67 : Below w.heap.size w w7 := (hbk.trans (hb6.mono (by omega))).trans (hT67.below (fun k hk => by simp at hk; omega) (by have := hb6.size; omega))
                have HO7 := Hid.mk (ownS.frame (w' := w7) oRn_good HO6.out (fun b hb => hT67.block b (ownS.lt oRn_good HO6.out b hb) (fun h => by have h1 := HF6.out b hb; simp at h; omega)))
                have hs7 : w.heap.size + 2 ≤ w7.heap.size := by have h1 := hT67.size; have h2 := hb6.size; omega
                go_wp2_with fail
                go_roundw
                case rel => exact ⟨k + 1, _, F', by omega, by go_num, ⟨by rw [HTK.out]; exact HO7.out, hN', HF6.out⟩, hbr7, hb77, hs7, hb67⟩
                case measure => simp [intOf]; omega
      · go_simp
        refine (HIN.out _).mono ?_
        rintro e wE4 ⟨rfl, hop4⟩
        go_wp2_with fail
        refine hK.out _ _ (trivial) (fun hHeld => ?_)
        clear hK K
        try simp only [Act.put, sa, s0, s1]
        refine wpAnyH_ready (rs := [1, 5]) (by kernel_rfl) (by simp) ?_
        refine (AllReadyH.cons (o := q295_6_5_1) rfl (fun K hK => ?_) (AllReadyH.cons (o := q295_6_5_5) rfl (fun K hK => ?_) AllReadyH.nil))
        · go_simp
          have cl1 : wE4.cell? ⟨w.heap.size + 1, 0, none⟩ = some (.slice ha k hc) := ((bthen HSB.out (show Below wS.heap.size wS wE4 from bthen (Below.refl _ _) hop4)).cell (p := ⟨w.heap.size + 1, 0, none⟩) hB1).trans c0
          go_simp
          obtain ⟨wE1, hq1⟩ : ∃ x, x = wE4 := ⟨_, rfl⟩
          have hop1 : Below wE4.heap.size wE4 wE1 := by rw [hq1]; exact Below.refl _ _
          rw [← hq1]
          clear hq1 cl1
          refine hK.out _ _ (trivial) (fun hHeld => ?_)
          clear hK K
          try simp only [Act.put, sa, s0, s1]
          refine wpAnyH_ready (rs := [5]) (by kernel_rfl) (by simp) ?_
          refine (AllReadyH.cons (o := q295_6_5_5) rfl (fun K hK => ?_) AllReadyH.nil)
          · go_simp
            obtain ⟨wE5, hq5⟩ : ∃ x, x = wE1.alloc (.cells (List.toArray [.int .i64 ((k : Int) + 1), .int .i64 n, .int .i64 1, .slice none 0 0, .slice none 0 0, .slice none 0 0, .slice none 0 0, .slice none 0 0]) 37) := ⟨_, rfl⟩
            have hop5 : Below wE1.heap.size wE1 wE5 := by rw [hq5]; exact (Below.refl _ _).alloc (Nat.le_refl _) _
            have hB5 : Bx wE5 wE1.heap.size (repL ((k : Int) + 1) n 1) := by rw [hq5]; exact Bx.new _ _ _
            rw [← hq5]
            clear hq5
            obtain ⟨g5, HG5⟩ : ∃ g, Hid (g = wE1.heap.size) := ⟨_, rfl⟩
            rw [← HG5.out] at hB5 ⊢
            refine hK.out _ _ (trivial) (fun hHeld => ?_)
            clear hK K
            try simp only [Act.put, sa, s0, s1]
            refine wpAnyH_ready (rs := [6]) (by kernel_rfl) (by simp) ?_
            refine (AllReadyH.cons (o := q295_6_5_6) rfl (fun K hK => ?_) AllReadyH.nil)
            · skip
              have hb5 := bthen HSB.out (show Below wS.heap.size wS wE5 from bthen (bthen (bthen (Below.refl _ _) hop4) hop1) hop5)
              have hB6 := hB5.under (show Below wE5.heap.size wE5 wE5 from Below.refl _ _)
              have hos := ownS.frame (w' := wE5) oRn_good HO.out.1 (fun b hb => hb5.block b (ownS.lt oRn_good HO.out.1 b hb))
              obtain ⟨rs, hrs, hnext⟩ := ownS.push oRn_good hos HO.out.2.1
              have HNX := Hid.mk hnext
              have HBK := Hid.mk (fun (q : Nat) (hq : Value.ownBlock (.slice ha k hc) = some q) => HO.out.2.2 q (ownS.blk2 HO.out.1 q hq))
              clear hnext
              refine step_append_src _ rfl _ _ 22 22 rfl 0 37 iT (.agg (List.toArray [.int .i64 0, .int .i64 0, .int .i64 0, .slice none 0 0, .slice none 0 0, .slice none 0 0, .slice none 0 0, .slice none 0 0])) 8 144 Try.underlying22 hiT hz0 hz1 hz2 rfl (.slice ha k hc) k rs rfl (by have h := hrs; rw [hlk] at h; exact h) (.slice (some ⟨g5, 0, none⟩) 1 1) rfl 1 (repL ((k : Int) + 1) n 1) (Src.rep Try.underlying22 hB6) (by unfold maxLen; omega) (by omega) (Nat.zero_le _) ?_
              intro v6 w6 ho6 hgr6 hat6
              obtain ⟨r6, e6, rfl⟩ := own_slice ho6
              obtain ⟨F', ho', hN', hF'⟩ := HNX.out w6 _ _ ⟨(k : Int) + 1, n, 1⟩ [] (by rw [hlk]; exact ho6) hgr6 hat6 ⟨rfl, (show (Lit.int .i64 ((k : Int) + 1)).wf = true from WalkArith.wf_i64 (by omega)), hwf, rfl, rfl⟩ (by simp) (fun b hb => by cases hb)
              have HF6 : Hid (∀ b, b ∈ F' → w.heap.size + 2 ≤ b) := (fun b hb => by have h5 := hb5.size; rcases hF' b hb with h | h | h; (exact HO.out.2.2 b h); (cases h); omega)
              have hb56 : Below (w.heap.size + 2) wE5 w6 := (Below.refl _ _).grown hgr6 (by have := hb5.size; omega) (fun q h => HBK.out q h)
              have hb6 : Below (w.heap.size + 2) wr w6 := (hb5.mono hsz).trans hb56
              have HO6 := Hid.mk ho'
              clear ho6 hgr6 hat6 ho' hF' hb56 hb5
              refine hK.out _ _ (trivial) (fun hHeld => ?_)
              clear hK K
              try simp only [Act.put, sa, s0, s1]
              refine tk 7 q295_6_5_7 (some 17) (v := ?v5) rfl rfl (by kernel_rfl) hHeld (by rfl) (fun _ _ _ h => h) (fun w h => ?y5) ?_; (case y5 => (try dsimp only at h); go_simp; try (with_reducible rfl)); try simp only [Act.put, sa, s0, s1]
              refine wpAnyH_ready (rs := [8]) (by kernel_rfl) (by simp) ?_
              refine (AllReadyH.cons (o := q295_6_5_8) rfl (fun K hK => ?_) AllReadyH.nil)
              · skip
                have hb7 := hbv.below hb6 (by omega)
                have x0 := hb7.cell 0 _ rfl
                have f0 := hb7.free 0
                have hl7 := hb7.lt
                go_simp
                obtain ⟨w7, hq7⟩ : ∃ x, x = w6.setCell ⟨w.heap.size + 1, 0, none⟩ (.slice r6 (k + 1) e6) := ⟨_, rfl⟩
                have hT67 : Turn [w.heap.size + 1] w6 w7 := by rw [hq7]; exact (Turn.refl _ _).setCell (by simp) _
                have hb77 : Bw w7 (w.heap.size + 1) 26 [.slice r6 (k + 1) e6, .slice none 0 0, .slice none 0 0] := by rw [hq7]; exact hb7.put 0 _
                rw [← hq7]
                clear hq7 x0 f0
                refine hK.out _ _ (trivial) (fun hHeld => ?_)
                clear hK K
                try simp only [Act.put, sa, s0, s1]
                refine wpAnyH_done (by kernel_rfl) ?_ _
                have hbr7 := (hbr.below hb6 (by omega)).turn hT67 (by simp)
                have hb67 : Below w.heap.size w w7 := (hbk.trans (hb6.mono (by omega))).trans (hT67.below (fun k hk => by simp at hk; omega) (by have := hb6.size; omega))
                have HO7 := Hid.mk (ownS.frame (w' := w7) oRn_good HO6.out (fun b hb => hT67.block b (ownS.lt oRn_good HO6.out b hb) (fun h => by have h1 := HF6.out b hb; simp at h; omega)))
                have hs7 : w.heap.size + 2 ≤ w7.heap.size := by have h1 := hT67.size; have h2 := hb6.size; omega
                go_wp2_with fail
                go_roundw
                case rel => exact ⟨k + 1, _, F', by omega, by go_num, ⟨by rw [HTK.out]; exact HO7.out, hN', HF6.out⟩, hbr7, hb77, hs7, hb67⟩
                case measure => simp [intOf]; omega
        · go_simp
          obtain ⟨wE5, hq5⟩ : ∃ x, x = wE4.alloc (.cells (List.toArray [.int .i64 ((k : Int) + 1), .int .i64 n, .int .i64 1, .slice none 0 0, .slice none 0 0, .slice none 0 0, .slice none 0 0, .slice none 0 0]) 37) := ⟨_, rfl⟩
          have hop5 : Below wE4.heap.size wE4 wE5 := by rw [hq5]; exact (Below.refl _ _).alloc (Nat.le_refl _) _
          have hB5 : Bx wE5 wE4.heap.size (repL ((k : Int) + 1) n 1) := by rw [hq5]; exact Bx.new _ _ _
          rw [← hq5]
          clear hq5
          obtain ⟨g5, HG5⟩ : ∃ g, Hid (g = wE4.heap.size) := ⟨_, rfl⟩
          rw [← HG5.out] at hB5 ⊢
          refine hK.out _ _ (trivial) (fun hHeld => ?_)
          clear hK K
          try simp only [Act.put, sa, s0, s1]
          refine wpAnyH_ready (rs := [1]) (by kernel_rfl) (by simp) ?_
          refine (AllReadyH.cons (o := q295_6_5_1) rfl (fun K hK => ?_) AllReadyH.nil)
          · go_simp
            have cl1 : wE5.cell? ⟨w.heap.size + 1, 0, none⟩ = some (.slice ha k hc) := ((bthen HSB.out (show Below wS.heap.size wS wE5 from bthen (bthen (Below.refl _ _) hop4) hop5)).cell (p := ⟨w.heap.size + 1, 0, none⟩) hB1).trans c0
            go_simp
            obtain ⟨wE1, hq1⟩ : ∃ x, x = wE5 := ⟨_, rfl⟩
            have hop1 : Below wE5.heap.size wE5 wE1 := by rw [hq1]; exact Below.refl _ _
            rw [← hq1]
            clear hq1 cl1
            refine hK.out _ _ (trivial) (fun hHeld => ?_)
            clear hK K
            try simp only [Act.put, sa, s0, s1]
            refine wpAnyH_ready (rs := [6]) (by kernel_rfl) (by simp) ?_
            refine (AllReadyH.cons (o := q295_6_5_6) rfl (fun K hK => ?_) AllReadyH.nil)
            · skip
              have hb5 := bthen HSB.out (show Below wS.heap.size wS wE1 from bthen (bthen (bthen (Below.refl _ _) hop4) hop5) hop1)
              have hB6 := hB5.under (show Below wE5.heap.size wE5 wE1 from bthen (Below.refl _ _) hop1)
              have hos := ownS.frame (w' := wE1) oRn_good HO.out.1 (fun b hb => hb5.block b (ownS.lt oRn_good HO.out.1 b hb))
              obtain ⟨rs, hrs, hnext⟩ := ownS.push oRn_good hos HO.out.2.1
              have HNX := Hid.mk hnext
              have HBK := Hid.mk (fun (q : Nat) (hq : Value.ownBlock (.slice ha k hc) = some q) => HO.out.2.2 q (ownS.blk2 HO.out.1 q hq))
              clear hnext
              refine step_append_src _ rfl _ _ 22 22 rfl 0 37 iT (.agg (List.toArray [.int .i64 0, .int .i64 0, .int .i64 0, .slice none 0 0, .slice none 0 0, .slice none 0 0, .slice none 0 0, .slice none 0 0])) 8 144 Try.underlying22 hiT hz0 hz1 hz2 rfl (.slice ha k hc) k rs rfl (by have h := hrs; rw [hlk] at h; exact h) (.slice (some ⟨g5, 0, none⟩) 1 1) rfl 1 (repL ((k : Int) + 1) n 1) (Src.rep Try.underlying22 hB6) (by unfold maxLen; omega) (by omega) (Nat.zero_le _) ?_
              intro v6 w6 ho6 hgr6 hat6
              obtain ⟨r6, e6, rfl⟩ := own_slice ho6
              obtain ⟨F', ho', hN', hF'⟩ := HNX.out w6 _ _ ⟨(k : Int) + 1, n, 1⟩ [] (by rw [hlk]; exact ho6) hgr6 hat6 ⟨rfl, (show (Lit.int .i64 ((k : Int) + 1)).wf = true from WalkArith.wf_i64 (by omega)), hwf, rfl, rfl⟩ (by simp) (fun b hb => by cases hb)
              have HF6 : Hid (∀ b, b ∈ F' → w.heap.size + 2 ≤ b) := (fun b hb => by have h5 := hb5.size; rcases hF' b hb with h | h | h; (exact HO.out.2.2 b h); (cases h); omega)
              have hb56 : Below (w.heap.size + 2) wE1 w6 := (Below.refl _ _).grown hgr6 (by have := hb5.size; omega) (fun q h => HBK.out q h)
              have hb6 : Below (w.heap.size + 2) wr w6 := (hb5.mono hsz).trans hb56
              have HO6 := Hid.mk ho'
              clear ho6 hgr6 hat6 ho' hF' hb56 hb5
              refine hK.out _ _ (trivial) (fun hHeld => ?_)
              clear hK K
              try simp only [Act.put, sa, s0, s1]
              refine tk 7 q295_6_5_7 (some 17) (v := ?v6) rfl rfl (by kernel_rfl) hHeld (by rfl) (fun _ _ _ h => h) (fun w h => ?y6) ?_; (case y6 => (try dsimp only at h); go_simp; try (with_reducible rfl)); try simp only [Act.put, sa, s0, s1]
              refine wpAnyH_ready (rs := [8]) (by kernel_rfl) (by simp) ?_
              refine (AllReadyH.cons (o := q295_6_5_8) rfl (fun K hK => ?_) AllReadyH.nil)
              · skip
                have hb7 := hbv.below hb6 (by omega)
                have x0 := hb7.cell 0 _ rfl
                have f0 := hb7.free 0
                have hl7 := hb7.lt
                go_simp
                obtain ⟨w7, hq7⟩ : ∃ x, x = w6.setCell ⟨w.heap.size + 1, 0, none⟩ (.slice r6 (k + 1) e6) := ⟨_, rfl⟩
                have hT67 : Turn [w.heap.size + 1] w6 w7 := by rw [hq7]; exact (Turn.refl _ _).setCell (by simp) _
                have hb77 : Bw w7 (w.heap.size + 1) 26 [.slice r6 (k + 1) e6, .slice none 0 0, .slice none 0 0] := by rw [hq7]; exact hb7.put 0 _
                rw [← hq7]
                clear hq7 x0 f0
                refine hK.out _ _ (trivial) (fun hHeld => ?_)
                clear hK K
                try simp only [Act.put, sa, s0, s1]
                refine wpAnyH_done (by kernel_rfl) ?_ _
                have hbr7 := (hbr.below hb6 (by omega)).turn hT67 (by simp)
                have hb67 : Below w.heap.size w w7 := (hbk.trans (hb6.mono (by omega))).trans (hT67.below (fun k hk => by simp at hk; omega) (by have := hb6.size; omega))
                have HO7 := Hid.mk (ownS.frame (w' := w7) oRn_good HO6.out (fun b hb => hT67.block b (ownS.lt oRn_good HO6.out b hb) (fun h => by have h1 := HF6.out b hb; simp at h; omega)))
                have hs7 : w.heap.size + 2 ≤ w7.heap.size := by have h1 := hT67.size; have h2 := hb6.size; omega
                go_wp2_with fail
                go_roundw
                case rel => exact ⟨k + 1, _, F', by omega, by go_num, ⟨by rw [HTK.out]; exact HO7.out, hN', HF6.out⟩, hbr7, hb77, hs7, hb67⟩
                case measure => simp [intOf]; omega
    · have HSN := Hid.mk (HSN0.out k hlt)
      have hng := HNN.out k hk hlt
      have HT : Hid (l.take k = l) := List.take_of_length_le (by rw [HLEN.out]; omega)
      rw [HT.out] at HO
      obtain ⟨ll, hll⟩ : ∃ q, q = (l.take k).length := ⟨_, rfl⟩
      rw [← hll] at hva
      subst hva
      clear hll
      have c0 := hbv.cell 0 _ rfl
      have c1 := hbv.cell 1 _ rfl
      have c2 := hbv.cell 2 _ rfl
      have d0 := hbr.cell 0 _ rfl
      have d1 := hbr.cell 1 _ rfl
      have d2 := hbr.cell 2 _ rfl
      have e0 := hbr.free 0
      have e1 := hbr.free 1
      have e2 := hbr.free 2
      have hlr := hbr.lt
      have hlv := hbv.lt
      clear hbq hqs
      have hT : Turn [w.heap.size] wr (((wr.setCell ⟨w.heap.size, 0, none⟩ (.slice ha ll hc)).setCell ⟨w.heap.size, 1, none⟩ (.slice none 0 0)).setCell ⟨w.heap.size, 2, none⟩ (.slice none 0 0)) := (((Turn.refl _ _).setCell (by simp) _).setCell (by simp) _).setCell (by simp) _
      go_wp2_with fail
      refine (seatOk_any _ _ _).mono ?_
      rintro e w1 ⟨rfl, hw1⟩
      replace hw1 := hw1.symm
      subst hw1
      rw [HSN.out]
      go_wp2_with fail
      refine bodyPost_ret (v := .agg #[.slice ha ll hc, .slice none 0 0, .slice none 0 0]) (by simp [results, Try.results6, go_sem, *]) rfl ⟨_, F, rfl, ownS.frame oRn_good HO.out.1 (fun b hb => hT.block b (ownS.lt oRn_good HO.out.1 b hb) (fun h => by have h1 := HO.out.2.2 b hb; simp at h; omega)), HO.out.2.1, fun b hb => (by have h1 := HO.out.2.2 b hb; omega), hbk.trans (hT.below (fun k hk => by simp at hk; omega) hbk.size)⟩

set_option maxHeartbeats 4000000 in
theorem specClusterNew_any (n : Int) (w : World) (hwf : (Lit.int .i64 n).wf = true) :
    Calls Try.prog 5 #[.int .i64 n] w fun e w' => ∃ (v : Value) (F : List Nat), e = .returned (.agg #[v, .slice none 0 0, .slice none 0 0]) ∧ ownS 8 37 oRn w' v (clL n) F ∧ F.Nodup ∧ (∀ b, b ∈ F → w.heap.size ≤ b) ∧ Below w.heap.size w w' := by
  obtain ⟨iT, hiT, hz0, hz1, hz2⟩ := info_parts Try.infoOfReplica
  have hN7 := clN_le n
  obtain ⟨N, hN⟩ : ∃ N, N = clN n := ⟨_, rfl⟩
  have HLEN : Hid ((clL n).length = N) := by show _ = _; rw [hN]; exact clL_len n
  have HAT : Hid (∀ k, (h : k < (clL n).length) → (clL n)[k] = ⟨(k : Int) + 1, n, 1⟩) := clL_at n
  have HSY0 : Hid (∀ k : Nat, k < N → seatP ((k : Int) + 1) n = true) := by show ∀ k : Nat, _; rw [hN]; exact fun k h => seat_yes h
  have HSN0 : Hid (∀ k : Nat, ¬ k < N → seatP ((k : Int) + 1) n = false) := by show ∀ k : Nat, _; rw [hN]; exact fun k h => seat_no h
  have HRN : Hid (∀ k : Nat, k < N → repL (rnA ((k : Int) + 1) n) (rnB ((k : Int) + 1) n) (rnC ((k : Int) + 1) n) = repL ((k : Int) + 1) n 1) := by show ∀ k : Nat, _; rw [hN]; exact fun k h => rn_yes h
  have HNK : Hid (∀ k : Nat, k < N → (k : Int) + 1 ≤ n ∧ n ≤ 7) := by show ∀ k : Nat, _; rw [hN]; intro k h; unfold clN at h; split at h <;> omega
  have HNN : Hid (∀ k : Nat, k ≤ N → ¬ k < N → ¬ ((k : Int) + 1 ≤ n ∧ n ≤ 7)) := by show ∀ k : Nat, _; rw [hN]; intro k h1 h h2; unfold clN at h h1; split at h <;> omega
  rw [← hN] at hN7
  clear hN
  obtain ⟨l, hl⟩ : ∃ l, l = clL n := ⟨_, rfl⟩
  rw [← hl] at HLEN HAT ⊢
  clear hl
  go_enter Try.func5, Try.ntmps5
  go_wp2_with fail
  obtain ⟨wq, hwq⟩ : ∃ wq, wq = (w.alloc (.cells #[.slice none 0 0, .slice none 0 0, .slice none 0 0] 26)).alloc (.cells #[.slice none 0 0, .slice none 0 0, .slice none 0 0] 26) := ⟨_, rfl⟩
  have hbq : Below w.heap.size w wq := by rw [hwq]; exact ((Below.refl _ _).alloc (Nat.le_refl _) _).alloc (by simp) _
  have hqs : w.heap.size + 2 ≤ wq.heap.size := by rw [hwq]; simp
  have hbr : Bw wq w.heap.size 26 [.slice none 0 0, .slice none 0 0, .slice none 0 0] := by rw [hwq]; exact (Bw.new' _ _ _ rfl).alloc _
  have hbv : Bw wq (w.heap.size + 1) 26 [.slice none 0 0, .slice none 0 0, .slice none 0 0] := by rw [hwq]; exact Bw.new' _ _ _ (by simp)
  rw [← hwq]
  clear hwq
  go_loopw [4] (fun i wr => ∃ (k : Nat) (v : Value) (F : List Nat), k ≤ N ∧ i = .int .i64 ((k : Int) + 1) ∧ Hid (ownS 8 37 oRn wr v (l.take k) F ∧ F.Nodup ∧ ∀ b, b ∈ F → w.heap.size + 2 ≤ b) ∧ Bw wr w.heap.size 26 [.slice none 0 0, .slice none 0 0, .slice none 0 0] ∧ Bw wr (w.heap.size + 1) 26 [v, .slice none 0 0, .slice none 0 0] ∧ w.heap.size + 2 ≤ wr.heap.size ∧ Below w.heap.size w wr) (fun i _ => 8 - (intOf i).toNat)
  case atStart => exact ⟨0, _, [], Nat.zero_le _, rfl, ⟨.inl ⟨rfl, by simp, rfl⟩, by simp, fun b hb => by cases hb⟩, hbr, hbv, hqs, hbq⟩
  case round =>
    obtain ⟨k, v, F, hk, rfl, HO, hbr, hbv, hsz, hbk⟩ := hrel
    obtain ⟨ha, hc, hva, _⟩ := ownS.read oRn_good HO.out.1
    by_cases hlt : k < N
    · have hkl : k < l.length := by rw [HLEN.out]; exact hlt
      have hlk : (l.take k).length = k := by rw [List.length_take]; omega
      rw [hlk] at hva
      subst hva
      have HSY := Hid.mk (HSY0.out k hlt)
      have HR := Hid.mk (HRN.out k hlt)
      have HIN := Hid.mk (fun W => specReplicaNew_any ((k : Int) + 1) n W)
      rw [HR.out] at HIN
      unfold repL at HIN
      have HTK : Hid (l.take (k + 1) = l.take k ++ [⟨(k : Int) + 1, n, 1⟩]) := by show _ = _; rw [← HAT.out k hkl]; exact List.take_succ_eq_append_getElem hkl
      have hn1 := (HNK.out k hlt).1
      have hn2 := (HNK.out k hlt).2
      have c0 := hbv.cell 0 _ rfl
      have hB1 : w.heap.size + 1 < wr.heap.size := by omega
      go_wp2_with fail
      refine wp_region_held_drew (S := fun W => True) (by kernel_rfl) (trivial) (fun hHeld => ?_)
      obtain ⟨wS, hwS⟩ : ∃ wS, wS = wr.drew := ⟨_, rfl⟩
      have HSB : Hid (Below wr.heap.size wr wS) := by rw [hwS]; exact Below.drew (Below.refl _ _)
      rw [← hwS]
      clear hwS
      refine tk 0 q295_5_5_0 (some 15) (v := ?v7) rfl rfl (by kernel_rfl) hHeld (by rfl) (fun _ _ _ h => h) (fun w h => ?y7) ?_; (case y7 => (try dsimp only at h); go_simp; try (with_reducible rfl)); try simp only [Act.put, sa, s0, s1]
      refine tk 2 q295_5_5_2 (some 17) (v := ?v8) rfl rfl (by kernel_rfl) hHeld (by rfl) (fun _ _ _ h => h) (fun w h => ?y8) ?_; (case y8 => (try dsimp only at h); go_simp; try (with_reducible rfl)); try simp only [Act.put, sa, s0, s1]
      refine tk 3 q295_5_5_3 (some 18) (v := ?v9) rfl rfl (by kernel_rfl) hHeld (by rfl) (fun _ _ _ h => h) (fun w h => ?y9) ?_; (case y9 => (try dsimp only at h); go_simp; try (with_reducible rfl)); try simp only [Act.put, sa, s0, s1]
      refine wpAnyH_ready (rs := [1, 4]) (by kernel_rfl) (by simp) ?_
      refine (AllReadyH.cons (o := q295_5_5_1) rfl (fun K hK => ?_) (AllReadyH.cons (o := q295_5_5_4) rfl (fun K hK => ?_) AllReadyH.nil))
      · go_simp
        have cl1 : wS.cell? ⟨w.heap.size + 1, 0, none⟩ = some (.slice ha k hc) := ((bthen HSB.out (show Below wS.heap.size wS wS from Below.refl _ _)).cell (p := ⟨w.heap.size + 1, 0, none⟩) hB1).trans c0
        go_simp
        obtain ⟨wE1, hq1⟩ : ∃ x, x = wS := ⟨_, rfl⟩
        have hop1 : Below wS.heap.size wS wE1 := by rw [hq1]; exact Below.refl _ _
        rw [← hq1]
        clear hq1 cl1
        refine hK.out _ _ (trivial) (fun hHeld => ?_)
        clear hK K
        try simp only [Act.put, sa, s0, s1]
        refine wpAnyH_ready (rs := [4]) (by kernel_rfl) (by simp) ?_
        refine (AllReadyH.cons (o := q295_5_5_4) rfl (fun K hK => ?_) AllReadyH.nil)
        · go_simp
          refine (HIN.out _).mono ?_
          rintro e wE4 ⟨rfl, hop4⟩
          go_wp2_with fail
          refine hK.out _ _ (trivial) (fun hHeld => ?_)
          clear hK K
          try simp only [Act.put, sa, s0, s1]
          refine wpAnyH_ready (rs := [5]) (by kernel_rfl) (by simp) ?_
          refine (AllReadyH.cons (o := q295_5_5_5) rfl (fun K hK => ?_) AllReadyH.nil)
          · go_simp
            obtain ⟨wE5, hq5⟩ : ∃ x, x = wE4.alloc (.cells (List.toArray [.int .i64 ((k : Int) + 1), .int .i64 n, .int .i64 1, .slice none 0 0, .slice none 0 0, .slice none 0 0, .slice none 0 0, .slice none 0 0]) 37) := ⟨_, rfl⟩
            have hop5 : Below wE4.heap.size wE4 wE5 := by rw [hq5]; exact (Below.refl _ _).alloc (Nat.le_refl _) _
            have hB5 : Bx wE5 wE4.heap.size (repL ((k : Int) + 1) n 1) := by rw [hq5]; exact Bx.new _ _ _
            rw [← hq5]
            clear hq5
            obtain ⟨g5, HG5⟩ : ∃ g, Hid (g = wE4.heap.size) := ⟨_, rfl⟩
            rw [← HG5.out] at hB5 ⊢
            refine hK.out _ _ (trivial) (fun hHeld => ?_)
            clear hK K
            try simp only [Act.put, sa, s0, s1]
            refine wpAnyH_ready (rs := [6]) (by kernel_rfl) (by simp) ?_
            refine (AllReadyH.cons (o := q295_5_5_6) rfl (fun K hK => ?_) AllReadyH.nil)
            · skip
              have hb5 := bthen HSB.out (show Below wS.heap.size wS wE5 from bthen (bthen (bthen (Below.refl _ _) hop1) hop4) hop5)
              have hB6 := hB5.under (show Below wE5.heap.size wE5 wE5 from Below.refl _ _)
              have hos := ownS.frame (w' := wE5) oRn_good HO.out.1 (fun b hb => hb5.block b (ownS.lt oRn_good HO.out.1 b hb))
              obtain ⟨rs, hrs, hnext⟩ := ownS.push oRn_good hos HO.out.2.1
              have HNX := Hid.mk hnext
              have HBK := Hid.mk (fun (q : Nat) (hq : Value.ownBlock (.slice ha k hc) = some q) => HO.out.2.2 q (ownS.blk2 HO.out.1 q hq))
              clear hnext
              refine step_append_src _ rfl _ _ 22 22 rfl 0 37 iT (.agg (List.toArray [.int .i64 0, .int .i64 0, .int .i64 0, .slice none 0 0, .slice none 0 0, .slice none 0 0, .slice none 0 0, .slice none 0 0])) 8 144 Try.underlying22 hiT hz0 hz1 hz2 rfl (.slice ha k hc) k rs rfl (by have h := hrs; rw [hlk] at h; exact h) (.slice (some ⟨g5, 0, none⟩) 1 1) rfl 1 (repL ((k : Int) + 1) n 1) (Src.rep Try.underlying22 hB6) (by unfold maxLen; omega) (by omega) (Nat.zero_le _) ?_
              intro v6 w6 ho6 hgr6 hat6
              obtain ⟨r6, e6, rfl⟩ := own_slice ho6
              obtain ⟨F', ho', hN', hF'⟩ := HNX.out w6 _ _ ⟨(k : Int) + 1, n, 1⟩ [] (by rw [hlk]; exact ho6) hgr6 hat6 ⟨rfl, (show (Lit.int .i64 ((k : Int) + 1)).wf = true from WalkArith.wf_i64 (by omega)), hwf, rfl, rfl⟩ (by simp) (fun b hb => by cases hb)
              have HF6 : Hid (∀ b, b ∈ F' → w.heap.size + 2 ≤ b) := (fun b hb => by have h5 := hb5.size; rcases hF' b hb with h | h | h; (exact HO.out.2.2 b h); (cases h); omega)
              have hb56 : Below (w.heap.size + 2) wE5 w6 := (Below.refl _ _).grown hgr6 (by have := hb5.size; omega) (fun q h => HBK.out q h)
              have hb6 : Below (w.heap.size + 2) wr w6 := (hb5.mono hsz).trans hb56
              have HO6 := Hid.mk ho'
              clear ho6 hgr6 hat6 ho' hF' hb56 hb5
              refine hK.out _ _ (trivial) (fun hHeld => ?_)
              clear hK K
              try simp only [Act.put, sa, s0, s1]
              refine tk 7 q295_5_5_7 (some 22) (v := ?v10) rfl rfl (by kernel_rfl) hHeld (by rfl) (fun _ _ _ h => h) (fun w h => ?y10) ?_; (case y10 => (try dsimp only at h); go_simp; try (with_reducible rfl)); try simp only [Act.put, sa, s0, s1]
              refine wpAnyH_ready (rs := [8]) (by kernel_rfl) (by simp) ?_
              refine (AllReadyH.cons (o := q295_5_5_8) rfl (fun K hK => ?_) AllReadyH.nil)
              · skip
                have hb7 := hbv.below hb6 (by omega)
                have x0 := hb7.cell 0 _ rfl
                have f0 := hb7.free 0
                have hl7 := hb7.lt
                go_simp
                obtain ⟨w7, hq7⟩ : ∃ x, x = w6.setCell ⟨w.heap.size + 1, 0, none⟩ (.slice r6 (k + 1) e6) := ⟨_, rfl⟩
                have hT67 : Turn [w.heap.size + 1] w6 w7 := by rw [hq7]; exact (Turn.refl _ _).setCell (by simp) _
                have hb77 : Bw w7 (w.heap.size + 1) 26 [.slice r6 (k + 1) e6, .slice none 0 0, .slice none 0 0] := by rw [hq7]; exact hb7.put 0 _
                rw [← hq7]
                clear hq7 x0 f0
                refine hK.out _ _ (trivial) (fun hHeld => ?_)
                clear hK K
                try simp only [Act.put, sa, s0, s1]
                refine wpAnyH_done (by kernel_rfl) ?_ _
                have hbr7 := (hbr.below hb6 (by omega)).turn hT67 (by simp)
                have hb67 : Below w.heap.size w w7 := (hbk.trans (hb6.mono (by omega))).trans (hT67.below (fun k hk => by simp at hk; omega) (by have := hb6.size; omega))
                have HO7 := Hid.mk (ownS.frame (w' := w7) oRn_good HO6.out (fun b hb => hT67.block b (ownS.lt oRn_good HO6.out b hb) (fun h => by have h1 := HF6.out b hb; simp at h; omega)))
                have hs7 : w.heap.size + 2 ≤ w7.heap.size := by have h1 := hT67.size; have h2 := hb6.size; omega
                go_wp2_with fail
                go_roundw
                case rel => exact ⟨k + 1, _, F', by omega, by go_num, ⟨by rw [HTK.out]; exact HO7.out, hN', HF6.out⟩, hbr7, hb77, hs7, hb67⟩
                case measure => simp [intOf]; omega
      · go_simp
        refine (HIN.out _).mono ?_
        rintro e wE4 ⟨rfl, hop4⟩
        go_wp2_with fail
        refine hK.out _ _ (trivial) (fun hHeld => ?_)
        clear hK K
        try simp only [Act.put, sa, s0, s1]
        refine wpAnyH_ready (rs := [1, 5]) (by kernel_rfl) (by simp) ?_
        refine (AllReadyH.cons (o := q295_5_5_1) rfl (fun K hK => ?_) (AllReadyH.cons (o := q295_5_5_5) rfl (fun K hK => ?_) AllReadyH.nil))
        · go_simp
          have cl1 : wE4.cell? ⟨w.heap.size + 1, 0, none⟩ = some (.slice ha k hc) := ((bthen HSB.out (show Below wS.heap.size wS wE4 from bthen (Below.refl _ _) hop4)).cell (p := ⟨w.heap.size + 1, 0, none⟩) hB1).trans c0
          go_simp
          obtain ⟨wE1, hq1⟩ : ∃ x, x = wE4 := ⟨_, rfl⟩
          have hop1 : Below wE4.heap.size wE4 wE1 := by rw [hq1]; exact Below.refl _ _
          rw [← hq1]
          clear hq1 cl1
          refine hK.out _ _ (trivial) (fun hHeld => ?_)
          clear hK K
          try simp only [Act.put, sa, s0, s1]
          refine wpAnyH_ready (rs := [5]) (by kernel_rfl) (by simp) ?_
          refine (AllReadyH.cons (o := q295_5_5_5) rfl (fun K hK => ?_) AllReadyH.nil)
          · go_simp
            obtain ⟨wE5, hq5⟩ : ∃ x, x = wE1.alloc (.cells (List.toArray [.int .i64 ((k : Int) + 1), .int .i64 n, .int .i64 1, .slice none 0 0, .slice none 0 0, .slice none 0 0, .slice none 0 0, .slice none 0 0]) 37) := ⟨_, rfl⟩
            have hop5 : Below wE1.heap.size wE1 wE5 := by rw [hq5]; exact (Below.refl _ _).alloc (Nat.le_refl _) _
            have hB5 : Bx wE5 wE1.heap.size (repL ((k : Int) + 1) n 1) := by rw [hq5]; exact Bx.new _ _ _
            rw [← hq5]
            clear hq5
            obtain ⟨g5, HG5⟩ : ∃ g, Hid (g = wE1.heap.size) := ⟨_, rfl⟩
            rw [← HG5.out] at hB5 ⊢
            refine hK.out _ _ (trivial) (fun hHeld => ?_)
            clear hK K
            try simp only [Act.put, sa, s0, s1]
            refine wpAnyH_ready (rs := [6]) (by kernel_rfl) (by simp) ?_
            refine (AllReadyH.cons (o := q295_5_5_6) rfl (fun K hK => ?_) AllReadyH.nil)
            · skip
              have hb5 := bthen HSB.out (show Below wS.heap.size wS wE5 from bthen (bthen (bthen (Below.refl _ _) hop4) hop1) hop5)
              have hB6 := hB5.under (show Below wE5.heap.size wE5 wE5 from Below.refl _ _)
              have hos := ownS.frame (w' := wE5) oRn_good HO.out.1 (fun b hb => hb5.block b (ownS.lt oRn_good HO.out.1 b hb))
              obtain ⟨rs, hrs, hnext⟩ := ownS.push oRn_good hos HO.out.2.1
              have HNX := Hid.mk hnext
              have HBK := Hid.mk (fun (q : Nat) (hq : Value.ownBlock (.slice ha k hc) = some q) => HO.out.2.2 q (ownS.blk2 HO.out.1 q hq))
              clear hnext
              refine step_append_src _ rfl _ _ 22 22 rfl 0 37 iT (.agg (List.toArray [.int .i64 0, .int .i64 0, .int .i64 0, .slice none 0 0, .slice none 0 0, .slice none 0 0, .slice none 0 0, .slice none 0 0])) 8 144 Try.underlying22 hiT hz0 hz1 hz2 rfl (.slice ha k hc) k rs rfl (by have h := hrs; rw [hlk] at h; exact h) (.slice (some ⟨g5, 0, none⟩) 1 1) rfl 1 (repL ((k : Int) + 1) n 1) (Src.rep Try.underlying22 hB6) (by unfold maxLen; omega) (by omega) (Nat.zero_le _) ?_
              intro v6 w6 ho6 hgr6 hat6
              obtain ⟨r6, e6, rfl⟩ := own_slice ho6
              obtain ⟨F', ho', hN', hF'⟩ := HNX.out w6 _ _ ⟨(k : Int) + 1, n, 1⟩ [] (by rw [hlk]; exact ho6) hgr6 hat6 ⟨rfl, (show (Lit.int .i64 ((k : Int) + 1)).wf = true from WalkArith.wf_i64 (by omega)), hwf, rfl, rfl⟩ (by simp) (fun b hb => by cases hb)
              have HF6 : Hid (∀ b, b ∈ F' → w.heap.size + 2 ≤ b) := (fun b hb => by have h5 := hb5.size; rcases hF' b hb with h | h | h; (exact HO.out.2.2 b h); (cases h); omega)
              have hb56 : Below (w.heap.size + 2) wE5 w6 := (Below.refl _ _).grown hgr6 (by have := hb5.size; omega) (fun q h => HBK.out q h)
              have hb6 : Below (w.heap.size + 2) wr w6 := (hb5.mono hsz).trans hb56
              have HO6 := Hid.mk ho'
              clear ho6 hgr6 hat6 ho' hF' hb56 hb5
              refine hK.out _ _ (trivial) (fun hHeld => ?_)
              clear hK K
              try simp only [Act.put, sa, s0, s1]
              refine tk 7 q295_5_5_7 (some 22) (v := ?v11) rfl rfl (by kernel_rfl) hHeld (by rfl) (fun _ _ _ h => h) (fun w h => ?y11) ?_; (case y11 => (try dsimp only at h); go_simp; try (with_reducible rfl)); try simp only [Act.put, sa, s0, s1]
              refine wpAnyH_ready (rs := [8]) (by kernel_rfl) (by simp) ?_
              refine (AllReadyH.cons (o := q295_5_5_8) rfl (fun K hK => ?_) AllReadyH.nil)
              · skip
                have hb7 := hbv.below hb6 (by omega)
                have x0 := hb7.cell 0 _ rfl
                have f0 := hb7.free 0
                have hl7 := hb7.lt
                go_simp
                obtain ⟨w7, hq7⟩ : ∃ x, x = w6.setCell ⟨w.heap.size + 1, 0, none⟩ (.slice r6 (k + 1) e6) := ⟨_, rfl⟩
                have hT67 : Turn [w.heap.size + 1] w6 w7 := by rw [hq7]; exact (Turn.refl _ _).setCell (by simp) _
                have hb77 : Bw w7 (w.heap.size + 1) 26 [.slice r6 (k + 1) e6, .slice none 0 0, .slice none 0 0] := by rw [hq7]; exact hb7.put 0 _
                rw [← hq7]
                clear hq7 x0 f0
                refine hK.out _ _ (trivial) (fun hHeld => ?_)
                clear hK K
                try simp only [Act.put, sa, s0, s1]
                refine wpAnyH_done (by kernel_rfl) ?_ _
                have hbr7 := (hbr.below hb6 (by omega)).turn hT67 (by simp)
                have hb67 : Below w.heap.size w w7 := (hbk.trans (hb6.mono (by omega))).trans (hT67.below (fun k hk => by simp at hk; omega) (by have := hb6.size; omega))
                have HO7 := Hid.mk (ownS.frame (w' := w7) oRn_good HO6.out (fun b hb => hT67.block b (ownS.lt oRn_good HO6.out b hb) (fun h => by have h1 := HF6.out b hb; simp at h; omega)))
                have hs7 : w.heap.size + 2 ≤ w7.heap.size := by have h1 := hT67.size; have h2 := hb6.size; omega
                go_wp2_with fail
                go_roundw
                case rel => exact ⟨k + 1, _, F', by omega, by go_num, ⟨by rw [HTK.out]; exact HO7.out, hN', HF6.out⟩, hbr7, hb77, hs7, hb67⟩
                case measure => simp [intOf]; omega
        · go_simp
          obtain ⟨wE5, hq5⟩ : ∃ x, x = wE4.alloc (.cells (List.toArray [.int .i64 ((k : Int) + 1), .int .i64 n, .int .i64 1, .slice none 0 0, .slice none 0 0, .slice none 0 0, .slice none 0 0, .slice none 0 0]) 37) := ⟨_, rfl⟩
          have hop5 : Below wE4.heap.size wE4 wE5 := by rw [hq5]; exact (Below.refl _ _).alloc (Nat.le_refl _) _
          have hB5 : Bx wE5 wE4.heap.size (repL ((k : Int) + 1) n 1) := by rw [hq5]; exact Bx.new _ _ _
          rw [← hq5]
          clear hq5
          obtain ⟨g5, HG5⟩ : ∃ g, Hid (g = wE4.heap.size) := ⟨_, rfl⟩
          rw [← HG5.out] at hB5 ⊢
          refine hK.out _ _ (trivial) (fun hHeld => ?_)
          clear hK K
          try simp only [Act.put, sa, s0, s1]
          refine wpAnyH_ready (rs := [1]) (by kernel_rfl) (by simp) ?_
          refine (AllReadyH.cons (o := q295_5_5_1) rfl (fun K hK => ?_) AllReadyH.nil)
          · go_simp
            have cl1 : wE5.cell? ⟨w.heap.size + 1, 0, none⟩ = some (.slice ha k hc) := ((bthen HSB.out (show Below wS.heap.size wS wE5 from bthen (bthen (Below.refl _ _) hop4) hop5)).cell (p := ⟨w.heap.size + 1, 0, none⟩) hB1).trans c0
            go_simp
            obtain ⟨wE1, hq1⟩ : ∃ x, x = wE5 := ⟨_, rfl⟩
            have hop1 : Below wE5.heap.size wE5 wE1 := by rw [hq1]; exact Below.refl _ _
            rw [← hq1]
            clear hq1 cl1
            refine hK.out _ _ (trivial) (fun hHeld => ?_)
            clear hK K
            try simp only [Act.put, sa, s0, s1]
            refine wpAnyH_ready (rs := [6]) (by kernel_rfl) (by simp) ?_
            refine (AllReadyH.cons (o := q295_5_5_6) rfl (fun K hK => ?_) AllReadyH.nil)
            · skip
              have hb5 := bthen HSB.out (show Below wS.heap.size wS wE1 from bthen (bthen (bthen (Below.refl _ _) hop4) hop5) hop1)
              have hB6 := hB5.under (show Below wE5.heap.size wE5 wE1 from bthen (Below.refl _ _) hop1)
              have hos := ownS.frame (w' := wE1) oRn_good HO.out.1 (fun b hb => hb5.block b (ownS.lt oRn_good HO.out.1 b hb))
              obtain ⟨rs, hrs, hnext⟩ := ownS.push oRn_good hos HO.out.2.1
              have HNX := Hid.mk hnext
              have HBK := Hid.mk (fun (q : Nat) (hq : Value.ownBlock (.slice ha k hc) = some q) => HO.out.2.2 q (ownS.blk2 HO.out.1 q hq))
              clear hnext
              refine step_append_src _ rfl _ _ 22 22 rfl 0 37 iT (.agg (List.toArray [.int .i64 0, .int .i64 0, .int .i64 0, .slice none 0 0, .slice none 0 0, .slice none 0 0, .slice none 0 0, .slice none 0 0])) 8 144 Try.underlying22 hiT hz0 hz1 hz2 rfl (.slice ha k hc) k rs rfl (by have h := hrs; rw [hlk] at h; exact h) (.slice (some ⟨g5, 0, none⟩) 1 1) rfl 1 (repL ((k : Int) + 1) n 1) (Src.rep Try.underlying22 hB6) (by unfold maxLen; omega) (by omega) (Nat.zero_le _) ?_
              intro v6 w6 ho6 hgr6 hat6
              obtain ⟨r6, e6, rfl⟩ := own_slice ho6
              obtain ⟨F', ho', hN', hF'⟩ := HNX.out w6 _ _ ⟨(k : Int) + 1, n, 1⟩ [] (by rw [hlk]; exact ho6) hgr6 hat6 ⟨rfl, (show (Lit.int .i64 ((k : Int) + 1)).wf = true from WalkArith.wf_i64 (by omega)), hwf, rfl, rfl⟩ (by simp) (fun b hb => by cases hb)
              have HF6 : Hid (∀ b, b ∈ F' → w.heap.size + 2 ≤ b) := (fun b hb => by have h5 := hb5.size; rcases hF' b hb with h | h | h; (exact HO.out.2.2 b h); (cases h); omega)
              have hb56 : Below (w.heap.size + 2) wE1 w6 := (Below.refl _ _).grown hgr6 (by have := hb5.size; omega) (fun q h => HBK.out q h)
              have hb6 : Below (w.heap.size + 2) wr w6 := (hb5.mono hsz).trans hb56
              have HO6 := Hid.mk ho'
              clear ho6 hgr6 hat6 ho' hF' hb56 hb5
              refine hK.out _ _ (trivial) (fun hHeld => ?_)
              clear hK K
              try simp only [Act.put, sa, s0, s1]
              refine tk 7 q295_5_5_7 (some 22) (v := ?v12) rfl rfl (by kernel_rfl) hHeld (by rfl) (fun _ _ _ h => h) (fun w h => ?y12) ?_; (case y12 => (try dsimp only at h); go_simp; try (with_reducible rfl)); try simp only [Act.put, sa, s0, s1]
              refine wpAnyH_ready (rs := [8]) (by kernel_rfl) (by simp) ?_
              refine (AllReadyH.cons (o := q295_5_5_8) rfl (fun K hK => ?_) AllReadyH.nil)
              · skip
                have hb7 := hbv.below hb6 (by omega)
                have x0 := hb7.cell 0 _ rfl
                have f0 := hb7.free 0
                have hl7 := hb7.lt
                go_simp
                obtain ⟨w7, hq7⟩ : ∃ x, x = w6.setCell ⟨w.heap.size + 1, 0, none⟩ (.slice r6 (k + 1) e6) := ⟨_, rfl⟩
                have hT67 : Turn [w.heap.size + 1] w6 w7 := by rw [hq7]; exact (Turn.refl _ _).setCell (by simp) _
                have hb77 : Bw w7 (w.heap.size + 1) 26 [.slice r6 (k + 1) e6, .slice none 0 0, .slice none 0 0] := by rw [hq7]; exact hb7.put 0 _
                rw [← hq7]
                clear hq7 x0 f0
                refine hK.out _ _ (trivial) (fun hHeld => ?_)
                clear hK K
                try simp only [Act.put, sa, s0, s1]
                refine wpAnyH_done (by kernel_rfl) ?_ _
                have hbr7 := (hbr.below hb6 (by omega)).turn hT67 (by simp)
                have hb67 : Below w.heap.size w w7 := (hbk.trans (hb6.mono (by omega))).trans (hT67.below (fun k hk => by simp at hk; omega) (by have := hb6.size; omega))
                have HO7 := Hid.mk (ownS.frame (w' := w7) oRn_good HO6.out (fun b hb => hT67.block b (ownS.lt oRn_good HO6.out b hb) (fun h => by have h1 := HF6.out b hb; simp at h; omega)))
                have hs7 : w.heap.size + 2 ≤ w7.heap.size := by have h1 := hT67.size; have h2 := hb6.size; omega
                go_wp2_with fail
                go_roundw
                case rel => exact ⟨k + 1, _, F', by omega, by go_num, ⟨by rw [HTK.out]; exact HO7.out, hN', HF6.out⟩, hbr7, hb77, hs7, hb67⟩
                case measure => simp [intOf]; omega
    · have HSN := Hid.mk (HSN0.out k hlt)
      have hng := HNN.out k hk hlt
      have HT : Hid (l.take k = l) := List.take_of_length_le (by rw [HLEN.out]; omega)
      rw [HT.out] at HO
      obtain ⟨ll, hll⟩ : ∃ q, q = (l.take k).length := ⟨_, rfl⟩
      rw [← hll] at hva
      subst hva
      clear hll
      have c0 := hbv.cell 0 _ rfl
      have c1 := hbv.cell 1 _ rfl
      have c2 := hbv.cell 2 _ rfl
      have d0 := hbr.cell 0 _ rfl
      have d1 := hbr.cell 1 _ rfl
      have d2 := hbr.cell 2 _ rfl
      have e0 := hbr.free 0
      have e1 := hbr.free 1
      have e2 := hbr.free 2
      have hlr := hbr.lt
      have hlv := hbv.lt
      clear hbq hqs
      by_cases hn1 : (k : Int) + 1 ≤ n
      · have hn2 : ¬ n ≤ 7 := fun h => hng ⟨hn1, h⟩
        have hT : Turn [w.heap.size] wr (((wr.setCell ⟨w.heap.size, 0, none⟩ (.slice ha ll hc)).setCell ⟨w.heap.size, 1, none⟩ (.slice none 0 0)).setCell ⟨w.heap.size, 2, none⟩ (.slice none 0 0)) := (((Turn.refl _ _).setCell (by simp) _).setCell (by simp) _).setCell (by simp) _
        go_wp2_with fail
        refine bodyPost_ret (v := .agg #[.slice ha ll hc, .slice none 0 0, .slice none 0 0]) (by simp [results, Try.results5, go_sem, *]) rfl ⟨_, rfl, F, ownS.frame oRn_good HO.out.1 (fun b hb => hT.block b (ownS.lt oRn_good HO.out.1 b hb) (fun h => by have h1 := HO.out.2.2 b hb; simp at h; omega)), HO.out.2.1, fun b hb => (by have h1 := HO.out.2.2 b hb; omega), hbk.trans (hT.below (fun k hk => by simp at hk; omega) hbk.size)⟩
      · skip
        have hT : Turn [w.heap.size] wr (((wr.setCell ⟨w.heap.size, 0, none⟩ (.slice ha ll hc)).setCell ⟨w.heap.size, 1, none⟩ (.slice none 0 0)).setCell ⟨w.heap.size, 2, none⟩ (.slice none 0 0)) := (((Turn.refl _ _).setCell (by simp) _).setCell (by simp) _).setCell (by simp) _
        go_wp2_with fail
        refine bodyPost_ret (v := .agg #[.slice ha ll hc, .slice none 0 0, .slice none 0 0]) (by simp [results, Try.results5, go_sem, *]) rfl ⟨_, rfl, F, ownS.frame oRn_good HO.out.1 (fun b hb => hT.block b (ownS.lt oRn_good HO.out.1 b hb) (fun h => by have h1 := HO.out.2.2 b hb; simp at h; omega)), HO.out.2.1, fun b hb => (by have h1 := HO.out.2.2 b hb; omega), hbk.trans (hT.below (fun k hk => by simp at hk; omega) hbk.size)⟩

end Go.Proofs.Ytiefmjjhedmkpaa
