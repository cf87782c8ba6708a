/-
  Part 12 of the texts that the proof leans on.
-/
import Derived.Test.YtnohnkcijomdjaaGreatDoorCur8
import Derived.Test.YtnohnkcijomdjaaGreatDoorCur10
import Derived.Test.YtnohnkcijomdjaaGreatDoorCur7
import Derived.Test.YtnohnkcijomdjaaGreatDoorCur2
set_option linter.unusedVariables false
set_option linter.unusedSimpArgs false
set_option maxRecDepth 10000

namespace Go.Proofs.YtnohnkcijomdjaaGreatDoor
open Go.RowKit
abbrev qf16_5_11_0 : Oper := ⟨some 52, .fieldAddr 24 (.tmp 4) 2, 0, "l06_manifest.go:114", #[], none⟩
abbrev qf16_5_11_2 : Oper := ⟨some 54, .move (.tmp 7), 44, "l06_manifest.go:114", #[], none⟩
abbrev qf16_5_11_3 : Oper := ⟨some 55, .indexAddr 44 (.tmp 54) (.const (.int .i64 1)), 0, "l06_manifest.go:114", #[⟨2, .data⟩], none⟩
abbrev qf16_5_11_4 : Oper := ⟨some 56, .load 9 (.tmp 55), 9, "l06_manifest.go:114", #[⟨3, .data⟩], none⟩
abbrev qf16_5_11_6 : Oper := ⟨some 58, .move (.tmp 7), 44, "l06_manifest.go:114", #[], none⟩
abbrev qf16_5_11_7 : Oper := ⟨some 59, .indexAddr 44 (.tmp 58) (.const (.int .i64 2)), 0, "l06_manifest.go:114", #[⟨6, .data⟩], none⟩
abbrev qf16_5_11_8 : Oper := ⟨some 60, .load 9 (.tmp 59), 9, "l06_manifest.go:114", #[⟨7, .data⟩], none⟩
abbrev qf16_5_11_10 : Oper := ⟨some 62, .move (.tmp 7), 44, "l06_manifest.go:114", #[], none⟩
abbrev qf16_5_11_11 : Oper := ⟨some 63, .indexAddr 44 (.tmp 62) (.const (.int .i64 3)), 0, "l06_manifest.go:114", #[⟨10, .data⟩], none⟩
abbrev qf16_5_11_12 : Oper := ⟨some 64, .load 9 (.tmp 63), 9, "l06_manifest.go:114", #[⟨11, .data⟩], none⟩
abbrev qf16_5_11_14 : Oper := ⟨some 66, .move (.tmp 7), 44, "l06_manifest.go:114", #[], none⟩
abbrev qf16_5_11_15 : Oper := ⟨some 67, .indexAddr 44 (.tmp 66) (.const (.int .i64 4)), 0, "l06_manifest.go:114", #[⟨14, .data⟩], none⟩
abbrev qf16_5_11_16 : Oper := ⟨some 68, .load 9 (.tmp 67), 9, "l06_manifest.go:114", #[⟨15, .data⟩], none⟩
abbrev qf16_5_11_5 : Oper := ⟨some 57, .call { callee := .value (.func 17), args := #[.tmp 56], argTypes := #[9] }, 3, "l06_manifest.go:114", #[⟨4, .data⟩], none⟩
abbrev qf16_5_11_1 : Oper := ⟨some 53, .load 22 (.tmp 52), 22, "l06_manifest.go:114", #[⟨0, .data⟩], none⟩
abbrev qf16_5_11_9 : Oper := ⟨some 61, .call { callee := .value (.func 17), args := #[.tmp 60], argTypes := #[9] }, 3, "l06_manifest.go:114", #[⟨8, .data⟩, ⟨5, .chain⟩], none⟩
abbrev qf16_5_11_13 : Oper := ⟨some 65, .call { callee := .value (.func 18), args := #[.tmp 64], argTypes := #[9] }, 9, "l06_manifest.go:114", #[⟨12, .data⟩, ⟨9, .chain⟩], none⟩
abbrev qf16_5_11_17 : Oper := ⟨some 69, .call { callee := .value (.func 18), args := #[.tmp 68], argTypes := #[9] }, 9, "l06_manifest.go:114", #[⟨16, .data⟩, ⟨13, .chain⟩], none⟩
abbrev qf16_5_11_18 : Oper := ⟨some 70, .build 49 #[(0, .tmp 57), (1, .tmp 61), (2, .tmp 65), (3, .tmp 69)], 49, "l06_manifest.go:114", #[⟨5, .data⟩, ⟨9, .data⟩, ⟨13, .data⟩, ⟨17, .data⟩], none⟩
abbrev qf16_5_11_19 : Oper := ⟨some 71, .buildSlice 22 1 #[(0, .tmp 70)], 22, "l06_manifest.go:114", #[⟨18, .data⟩], none⟩
abbrev qf16_5_11_20 : Oper := ⟨some 72, .call { callee := .builtin .append, args := #[.tmp 53, .tmp 71], argTypes := #[22, 22] }, 22, "l06_manifest.go:114", #[⟨1, .data⟩, ⟨19, .data⟩, ⟨17, .chain⟩], none⟩
abbrev qf16_5_11_21 : Oper := ⟨some 73, .fieldAddr 24 (.tmp 4) 2, 0, "l06_manifest.go:114", #[⟨0, .phase⟩, ⟨1, .phase⟩, ⟨2, .phase⟩, ⟨3, .phase⟩, ⟨4, .phase⟩, ⟨5, .phase⟩, ⟨6, .phase⟩, ⟨7, .phase⟩, ⟨8, .phase⟩, ⟨9, .phase⟩, ⟨10, .phase⟩, ⟨11, .phase⟩, ⟨12, .phase⟩, ⟨13, .phase⟩, ⟨14, .phase⟩, ⟨15, .phase⟩, ⟨16, .phase⟩, ⟨17, .phase⟩, ⟨18, .phase⟩, ⟨19, .phase⟩, ⟨20, .phase⟩], none⟩
abbrev qf16_5_11_22 : Oper := ⟨none, .store 22 (.tmp 73) (.tmp 72), 0, "l06_manifest.go:114", #[⟨21, .data⟩, ⟨20, .data⟩, ⟨20, .chain⟩, ⟨0, .phase⟩, ⟨1, .phase⟩, ⟨2, .phase⟩, ⟨3, .phase⟩, ⟨4, .phase⟩, ⟨5, .phase⟩, ⟨6, .phase⟩, ⟨7, .phase⟩, ⟨8, .phase⟩, ⟨9, .phase⟩, ⟨10, .phase⟩, ⟨11, .phase⟩, ⟨12, .phase⟩, ⟨13, .phase⟩, ⟨14, .phase⟩, ⟨15, .phase⟩, ⟨16, .phase⟩, ⟨17, .phase⟩, ⟨18, .phase⟩, ⟨19, .phase⟩, ⟨20, .phase⟩], none⟩

theorem Tryz.infoMeta4 : (Tryz.prog.info? 49).map (fun i => (i.zero, i.size, i.bytes)) = some (some (.agg #[.int .i64 0, .int .i64 0, .string ⟨#[]⟩, .string ⟨#[]⟩]), 4, 48) := by kernel_rfl
theorem row_bx {w : World} {base e : Nat} {v : Value} {n : Nat} {xs : List Value} (h : w.ownsRow base e 1 v n xs) (hn : 0 < n) : ∃ g cap, v = .slice (some ⟨g, 0, none⟩) n cap ∧ Bx w g xs ∧ base ≤ g ∧ n ≤ cap := by
  have hc := fun g cap (hv : v = .slice (some ⟨g, 0, none⟩) n cap) => h.cells (g := g) (by rw [hv]; rfl)
  rcases h.2 with ⟨_, h0⟩ | ⟨g, cap, cur, rfl, hb, hg, hle, _⟩
  · omega
  · exact ⟨g, cap, rfl, ⟨(Array.getElem?_eq_some_iff.1 hg).1, fun i u hu => by have h2 := hc g cap rfl i u hu; have e2 : ((⟨g, 0, none⟩ : Addr).add i) = ⟨g, i, none⟩ := (by simp [Addr.add]; exact fun h => h.symm); rwa [e2] at h2⟩, hb, hle⟩
theorem split_pos (b : UInt8) (l : List UInt8) : 0 < (splitP b l).length := by
  cases l with
  | nil => simp [splitP]
  | cons x r => rw [splitP]; split; simp; split <;> simp
theorem numP_wf (l : List UInt8) : (Lit.int .i64 (numP l)).wf = true := by
  have := numP_bound l
  exact WalkArith.wf_i64 (by omega)

/-- The manifest in its box, the answer's box, the lines. -/
structure PSt (w : World) (br bm gl : Nat) (L : List (List UInt8)) (W : World) (m : MManifest) (a : Option Addr) (c : Nat) : Prop where
  b : Bw W bm 24 [.int .i64 m.fNext, .int .i64 m.fLog, .slice a m.fTables.length c]
  r : Bw W br 24 [.int .i64 0, .int .i64 0, .slice none 0 0]
  l : Bx W gl (L.map strV)
  o : ∃ F, ownS 4 49 oMeta W (.slice a m.fTables.length c) m.fTables F ∧ F.Nodup ∧ ∀ q, q ∈ F → w.heap.size ≤ q ∧ q ≠ bm ∧ q ≠ br ∧ q ≠ gl
  x : (Lit.int .i64 m.fNext).wf = true ∧ (Lit.int .i64 m.fLog).wf = true
  t : Below w.heap.size w W
structure PPl (w : World) (br bm gl : Nat) : Prop where
  r : w.heap.size ≤ br
  m : w.heap.size ≤ bm
  n1 : br ≠ bm
  n2 : gl ≠ bm
  n3 : gl ≠ br
section
variable {w : World} {br bm gl : Nat} {L : List (List UInt8)} {W W' : World} {m : MManifest} {a : Option Addr} {c : Nat}
theorem PSt.under (h : PSt w br bm gl L W m a c) (hx : Below W.heap.size W W') : PSt w br bm gl L W' m a c := by
  refine ⟨h.b.under hx, h.r.under hx, h.l.under hx, ?_, h.x, bthen h.t hx⟩
  obtain ⟨F, ho, hN, hF⟩ := h.o
  exact ⟨F, ownS.frame oMeta_good ho (fun q hq => hx.block q (ownS.lt oMeta_good ho q hq)), hN, hF⟩
theorem PSt.read (h : PSt w br bm gl L W m a c) : rManifest W.heap.size W [.int .i64 m.fNext, .int .i64 m.fLog, .slice a m.fTables.length c] m := by
  obtain ⟨F, ho, _⟩ := h.o
  exact ⟨a, c, rfl, h.x.1, h.x.2, ownS.leaf oMeta_good ho, trivial⟩
theorem PSt.turnb (hp : PPl w br bm gl) {i : Nat} {u : Value} (h : PSt w br bm gl L W m a c) : (Bw (W.setCell ⟨bm, i, none⟩ u) br 24 [.int .i64 0, .int .i64 0, .slice none 0 0]) ∧ Bx (W.setCell ⟨bm, i, none⟩ u) gl (L.map strV) ∧ Below w.heap.size w (W.setCell ⟨bm, i, none⟩ u) ∧ Turn [bm] W (W.setCell ⟨bm, i, none⟩ u) := by
  have hT : Turn [bm] W (W.setCell ⟨bm, i, none⟩ u) := (Turn.refl _ _).setCell (by simp) _
  have h1 := hp.m
  have h2 := hp.n1
  have h3 := hp.n2
  exact ⟨h.r.turn hT (by simpa using h2), h.l.turn hT (by simpa using h3), h.t.trans (hT.below (fun k hk => by simp at hk; omega) h.t.size), hT⟩
theorem PSt.next (hp : PPl w br bm gl) (h : PSt w br bm gl L W m a c) {n : Int} (hn : (Lit.int .i64 n).wf = true) : PSt w br bm gl L (W.setCell ⟨bm, 0, none⟩ (.int .i64 n)) { m with fNext := n } a c := by
  obtain ⟨h1, h2, h3, hT⟩ := h.turnb hp (i := 0) (u := .int .i64 n)
  obtain ⟨F, ho, hN, hF⟩ := h.o
  exact ⟨h.b.put 0 _, h1, h2, ⟨F, ownS.frame oMeta_good ho (fun q hq => hT.block q (ownS.lt oMeta_good ho q hq) (by simpa using (hF q hq).2.1)), hN, hF⟩, ⟨hn, h.x.2⟩, h3⟩
theorem PSt.log (hp : PPl w br bm gl) (h : PSt w br bm gl L W m a c) {n : Int} (hn : (Lit.int .i64 n).wf = true) : PSt w br bm gl L (W.setCell ⟨bm, 1, none⟩ (.int .i64 n)) { m with fLog := n } a c := by
  obtain ⟨h1, h2, h3, hT⟩ := h.turnb hp (i := 1) (u := .int .i64 n)
  obtain ⟨F, ho, hN, hF⟩ := h.o
  exact ⟨h.b.put 1 _, h1, h2, ⟨F, ownS.frame oMeta_good ho (fun q hq => hT.block q (ownS.lt oMeta_good ho q hq) (by simpa using (hF q hq).2.1)), hN, hF⟩, ⟨h.x.1, hn⟩, h3⟩
theorem PSt.cells (h : PSt w br bm gl L W m a c) {k : Nat} (hk : k < L.length) : W.cell? ⟨gl, k, none⟩ = some (strV L[k]) := h.l.2 k _ (by rw [List.getElem?_map, List.getElem?_eq_getElem hk]; rfl)
end
theorem turn3 (w : World) (b : Nat) (u0 u1 u2 : Value) : Turn [b] w (((w.setCell ⟨b, 0, none⟩ u0).setCell ⟨b, 1, none⟩ u1).setCell ⟨b, 2, none⟩ u2) :=
  (((Turn.refl _ _).setCell (by simp) _).setCell (by simp) _).setCell (by simp) _
theorem PSt.leave {w : World} {br bm gl : Nat} {L : List (List UInt8)} {W W' : World} {m : MManifest} {a : Option Addr} {c : Nat} (hp : PPl w br bm gl) (h : PSt w br bm gl L W m a c) (hT : Turn [br] W W') : rManifest W'.heap.size W' [.int .i64 m.fNext, .int .i64 m.fLog, .slice a m.fTables.length c] m ∧ Below w.heap.size w W' := by
  have h1 := hp.r
  obtain ⟨F, ho, hN, hF⟩ := h.o
  have ho' := ownS.frame (w' := W') oMeta_good ho (fun q hq => hT.block q (ownS.lt oMeta_good ho q hq) (by simpa using (hF q hq).2.2.1))
  exact ⟨⟨a, c, rfl, h.x.1, h.x.2, ownS.leaf oMeta_good ho', trivial⟩, h.t.trans (hT.below (fun k hk => by simp at hk; omega) h.t.size)⟩
theorem blk_type {α : Type} {size : Nat} {e : TypeId} {O : ORep α} {w : World} {v : Value} {l : List α} {F : List Nat} (h : ownS size e O w v l F) : ∀ k, v.ownBlock = some k → ∃ cur, w.heap[k]? = some (.cells cur e (0, 0)) := by
  rcases h with ⟨rfl, _, _⟩ | ⟨g, cap, cur, Fs, rfl, hg, _, _, _, _, _, rfl⟩
  · intro k hk; simp [Value.ownBlock] at hk
  · intro k hk; simp [Value.ownBlock] at hk; subst hk; exact ⟨cur, hg⟩
theorem own_blk {α : Type} {size : Nat} {e : TypeId} {O : ORep α} {w : World} {v : Value} {l : List α} {F : List Nat} (h : ownS size e O w v l F) : ∀ k, v.ownBlock = some k → k ∈ F := by
  rcases h with ⟨rfl, _, _⟩ | ⟨g, cap, cur, Fs, rfl, _, _, _, _, _, _, rfl⟩
  · intro k hk; simp [Value.ownBlock] at hk
  · intro k hk; simp [Value.ownBlock] at hk; subst hk; simp
theorem wc_under {W W' : World} {g : Nat} {s1 s2 s3 s4 : Value} (h : W.cell? ⟨g, 1, none⟩ = some s1 ∧ W.cell? ⟨g, 2, none⟩ = some s2 ∧ W.cell? ⟨g, 3, none⟩ = some s3 ∧ W.cell? ⟨g, 4, none⟩ = some s4) (hx : Below W.heap.size W W') : W'.cell? ⟨g, 1, none⟩ = some s1 ∧ W'.cell? ⟨g, 2, none⟩ = some s2 ∧ W'.cell? ⟨g, 3, none⟩ = some s3 ∧ W'.cell? ⟨g, 4, none⟩ = some s4 := by
  obtain ⟨h1, h2, h3, h4⟩ := h
  have hl : g < W.heap.size := World.block_lt_of_cell? _ _ h1
  exact ⟨(hx.cell (p := ⟨g, 1, none⟩) hl).trans h1, (hx.cell (p := ⟨g, 2, none⟩) hl).trans h2, (hx.cell (p := ⟨g, 3, none⟩) hl).trans h3, (hx.cell (p := ⟨g, 4, none⟩) hl).trans h4⟩
theorem wc_grown {W W' : World} {g : Nat} {r : Option Nat} {s1 s2 s3 s4 : Value} (h : W.cell? ⟨g, 1, none⟩ = some s1 ∧ W.cell? ⟨g, 2, none⟩ = some s2 ∧ W.cell? ⟨g, 3, none⟩ = some s3 ∧ W.cell? ⟨g, 4, none⟩ = some s4) (hx : W.grownBy W' r) (hr : r ≠ some g) : W'.cell? ⟨g, 1, none⟩ = some s1 ∧ W'.cell? ⟨g, 2, none⟩ = some s2 ∧ W'.cell? ⟨g, 3, none⟩ = some s3 ∧ W'.cell? ⟨g, 4, none⟩ = some s4 := by
  obtain ⟨h1, h2, h3, h4⟩ := h
  have hl : g < W.heap.size := World.block_lt_of_cell? _ _ h1
  have hb := hx.block g hl (fun e => hr e.symm)
  exact ⟨(World.cell?_of_block (w := W) hb).trans h1, (World.cell?_of_block (w := W) hb).trans h2, (World.cell?_of_block (w := W) hb).trans h3, (World.cell?_of_block (w := W) hb).trans h4⟩
theorem wc_set {W : World} {g b i : Nat} {u s1 s2 s3 s4 : Value} (h : W.cell? ⟨g, 1, none⟩ = some s1 ∧ W.cell? ⟨g, 2, none⟩ = some s2 ∧ W.cell? ⟨g, 3, none⟩ = some s3 ∧ W.cell? ⟨g, 4, none⟩ = some s4) (hne : g ≠ b) : (W.setCell ⟨b, i, none⟩ u).cell? ⟨g, 1, none⟩ = some s1 ∧ (W.setCell ⟨b, i, none⟩ u).cell? ⟨g, 2, none⟩ = some s2 ∧ (W.setCell ⟨b, i, none⟩ u).cell? ⟨g, 3, none⟩ = some s3 ∧ (W.setCell ⟨b, i, none⟩ u).cell? ⟨g, 4, none⟩ = some s4 := by
  have hh : ∀ j, (⟨b, i, none⟩ : Addr) ≠ ⟨g, j, none⟩ := fun j e => hne (by injection e with e1; exact e1.symm)
  obtain ⟨h1, h2, h3, h4⟩ := h
  refine ⟨?_, ?_, ?_, ?_⟩ <;> rw [World.cell?_setCell_other _ _ _ _ (hh _)] <;> assumption
/-- One more table. -/
theorem PSt.push {w : World} {br bm gl : Nat} {L : List (List UInt8)} {W : World} {m : MManifest} {a : Option Addr} {c : Nat} (hp : PPl w br bm gl) (h : PSt w br bm gl L W m a c) : ∃ xs, W.ownsRow 0 49 4 (.slice a m.fTables.length c) m.fTables.length xs ∧
    ∀ (v' : Value) (W' : World) (x1 x2 : Int) (k3 k4 : ByteArray), (Lit.int .i64 x1).wf = true → (Lit.int .i64 x2).wf = true → k3.size ≤ 9223372036854775807 → k4.size ≤ 9223372036854775807 → W'.ownsRow 0 49 4 v' (m.fTables.length + 1) (xs ++ [.int .i64 x1, .int .i64 x2, .string k3, .string k4]) → W.grownBy W' (Value.ownBlock (.slice a m.fTables.length c)) → (v'.ownBlock = Value.ownBlock (.slice a m.fTables.length c) ∨ v'.ownBlock = some W.heap.size) →
      ∀ r q, v' = .slice r (m.fTables.length + 1) q → Bw W' bm 24 [.int .i64 m.fNext, .int .i64 m.fLog, .slice a m.fTables.length c] ∧ PSt w br bm gl L (W'.setCell ⟨bm, 2, none⟩ (.slice r (m.fTables.length + 1) q)) { m with fTables := m.fTables ++ [⟨x1, x2, k3, k4⟩] } r q := by
  obtain ⟨F, ho, hN, hF⟩ := h.o
  have hn1 := hp.m
  obtain ⟨xs, hxs, hpush⟩ := ownS.push oMeta_good ho hN
  refine ⟨xs, hxs, ?_⟩
  intro v' W' x1 x2 k3 k4 hx1 hx2 hk3 hk4 hown hgr hat r q hv
  subst hv
  obtain ⟨F', ho', hN', hF'⟩ := hpush W' _ _ ⟨x1, x2, k3, k4⟩ [] hown hgr hat ⟨rfl, hx1, hx2, hk3, hk4, rfl⟩ (by simp) (fun b hb => by cases hb)
  have hT1 : Turn (Value.ownBlock (.slice a m.fTables.length c)).toList W W' := turnOwn hgr
  have hblk : ∀ b, b ∈ (Value.ownBlock (.slice a m.fTables.length c)).toList → w.heap.size ≤ b ∧ b ≠ bm ∧ b ≠ br ∧ b ≠ gl := fun b hb => hF b (own_blk ho b (by simpa using hb))
  have hb1 := h.b.turn hT1 (fun hm => (hblk bm hm).2.1 rfl)
  have hr1 := h.r.turn hT1 (fun hm => (hblk br hm).2.2.1 rfl)
  have hl1 := h.l.turn hT1 (fun hm => (hblk gl hm).2.2.2 rfl)
  have ht1 : Below w.heap.size w W' := h.t.trans (hT1.below (fun k hk => (hblk k hk).1) h.t.size)
  have hT : Turn [bm] W' (W'.setCell ⟨bm, 2, none⟩ (.slice r (m.fTables.length + 1) q)) := (Turn.refl _ _).setCell (by simp) _
  have hlb := h.b.lt
  have hlr := h.r.lt
  have hll := h.l.1
  have hF2 : ∀ b, b ∈ F' → w.heap.size ≤ b ∧ b ≠ bm ∧ b ≠ br ∧ b ≠ gl := fun b hb => by
    rcases hF' b hb with h1 | h1 | h1
    · exact hF b h1
    · cases h1
    · have := h.t.size
      refine ⟨by omega, by omega, by omega, by omega⟩
  have e1 : m.fTables.length + 1 = (m.fTables ++ [(⟨x1, x2, k3, k4⟩ : MMeta)]).length := by simp
  refine ⟨hb1, ⟨?_, hr1.turn hT (by simpa using hp.n1), hl1.turn hT (by simpa using hp.n2), ⟨F', ?_, hN', hF2⟩, h.x, ht1.trans (hT.below (fun k hk => by simp at hk; omega) ht1.size)⟩⟩
  · have := hb1.put 2 (.slice r (m.fTables.length + 1) q)
    show Bw _ bm _ [.int .i64 m.fNext, .int .i64 m.fLog, .slice r (m.fTables ++ [(⟨x1, x2, k3, k4⟩ : MMeta)]).length q]
    rw [← e1]
    exact this
  · show ownS 4 _ oMeta _ (.slice r (m.fTables ++ [(⟨x1, x2, k3, k4⟩ : MMeta)]).length q) _ _
    rw [← e1]
    exact ownS.frame oMeta_good ho' (fun b hb => hT.block b (ownS.lt oMeta_good ho' b hb) (by simpa using (hF2 b hb).2.1))
theorem Src.meta {P : Program} {w : World} {g tx e' : Nat} {x y : Int} {s t : ByteArray} (hk : P.underlying tx = some (.slice e')) (hb : Bx w g [.int .i64 x, .int .i64 y, .string s, .string t]) : Src P 4 tx (.slice (some ⟨g, 0, none⟩) 1 1) 1 [.int .i64 x, .int .i64 y, .string s, .string t] w :=
  Src.ofSlice w hk ⟨g, 0, none⟩ 1 1 _ rfl (bx_news hb) (by intro u hu; simp at hu; rcases hu with rfl | rfl | rfl | rfl <;> rfl)

set_option maxHeartbeats 8000000 in
theorem specParseMan_c (s : ByteArray) (w : World) (hs : s.size ≤ 1048576) :
    Calls Tryz.prog 5 #[.string s] w fun e w' => ∃ cs : List Value, e = .returned (.tuple #[.agg cs.toArray, .bool (parseP s).2]) ∧ rManifest w'.heap.size w' cs (parseP s).1 ∧ Below w.heap.size w w' := by
  obtain ⟨iT, hiT, hz0, hz1, hz2⟩ := info_parts Tryz.infoMeta4
  have HLW : Hid (∀ k, k ≤ 30 → k ≤ (splitP 10 s.data.toList).length → wManifest (manK (splitP 10 s.data.toList) k) ≤ 1048576) := fun k h1 h2 => manK_small _ k h2 h1 (by rw [size_list]; exact hs)
  have HLP : Hid (∀ k, (h : k < (splitP 10 s.data.toList).length) → (splitP 10 s.data.toList)[k].length ≤ 1048576) := fun k h => by
    have h1 := sumW_le (f := List.length) h
    have h2 := split_sum 10 s.data.toList
    unfold sumL at h2
    rw [size_list] at h2
    omega
  have HEX : Hid (∀ k, k ≤ 30 → k ≤ (splitP 10 s.data.toList).length → ¬ (k < (splitP 10 s.data.toList).length ∧ k < 30) → manK (splitP 10 s.data.toList) k = specP s.data.toList) := fun k h1 h2 h3 => specP_manK _ h1 h2 h3
  have HSP := Hid.mk (fun W => l6Split_any s 10 W hs)
  have hpos := split_pos 10 s.data.toList
  obtain ⟨PM, hPM⟩ : ∃ p, p = parseP s := ⟨_, rfl⟩
  have HPM : Hid (PM = if manOkP (specP s.data.toList) = true ∧ manTextP (specP s.data.toList) = s then (specP s.data.toList, true) else (⟨0, 0, []⟩, false)) := hPM
  rw [← hPM]
  clear hPM
  have hl30 : (splitP 10 s.data.toList).length ≤ 9223372036854775807 := by
    have := split_len 10 s.data.toList
    rw [size_list] at this
    omega
  obtain ⟨L, hL⟩ : ∃ L, L = splitP 10 s.data.toList := ⟨_, rfl⟩
  rw [← hL] at HLW HLP HEX HSP hpos hl30
  clear hL
  generalize specP s.data.toList = SM at HEX HPM
  go_enter Tryz.func5, Tryz.ntmps5
  go_wp2_with fail
  obtain ⟨wq, hwq⟩ : ∃ wq, wq = (w.alloc (.cells #[.int .i64 0, .int .i64 0, .slice none 0 0] 24)).alloc (.cells #[.int .i64 0, .int .i64 0, .slice none 0 0] 24) := ⟨_, rfl⟩
  have hbq : Below w.heap.size w wq := by rw [hwq]; exact ((Below.refl _ _).alloc (Nat.le_refl _) _).alloc (by simp) _
  have hbr : Bw wq w.heap.size 24 [.int .i64 0, .int .i64 0, .slice none 0 0] := by rw [hwq]; exact (Bw.new _ _ _).alloc _
  have hbm : Bw wq (w.heap.size + 1) 24 [.int .i64 0, .int .i64 0, .slice none 0 0] := by rw [hwq]; exact Bw.new' _ _ _ (by simp)
  rw [← hwq]
  clear hwq
  refine (HSP.out wq).mono ?_
  rintro e w1 ⟨v1, rfl, ho1, hx1⟩
  obtain ⟨gl, cl, hv1, hbl, hgl, hcl⟩ := row_bx ho1 hpos
  subst hv1
  have hml := hbm.lt
  have HST : Hid (PSt w w.heap.size (w.heap.size + 1) gl L w1 (manK L 0) none 0) := ⟨hbm.under hx1, hbr.under hx1, hbl, ⟨[], .inl ⟨rfl, rfl, rfl⟩, by simp, fun q hq => by cases hq⟩, ⟨rfl, rfl⟩, bthen hbq hx1⟩
  obtain ⟨br, hbrq⟩ : ∃ x, x = w.heap.size := ⟨_, rfl⟩
  obtain ⟨bm, hbmq⟩ : ∃ x, x = w.heap.size + 1 := ⟨_, rfl⟩
  have HPL : Hid (PPl w br bm gl) := ⟨by omega, by omega, by omega, by omega, by omega⟩
  rw [← hbmq] at HST ⊢
  rw [← hbrq] at HST ⊢
  clear hbrq hbmq hml hgl hbl ho1 hx1 hbm hbr hbq HSP
  go_wp2_with fail
  go_loopw [6] (fun i wr => ∃ (k : Nat) (a : Option Addr) (c : Nat), k ≤ 30 ∧ k ≤ L.length ∧ i = .int .i64 k ∧ Hid (PSt w br bm gl L wr (manK L k) a c)) (fun i _ => 31 - (intOf i).toNat)
  case atStart => exact ⟨0, none, 0, by omega, Nat.zero_le _, rfl, HST⟩
  case round =>
    clear HST
    obtain ⟨k, a, c, hk30, hkL, rfl, HST⟩ := hrel
    by_cases hgo : k < L.length ∧ k < 30
    · obtain ⟨hk1, hk2⟩ := hgo
      have hi1 : (k : Int) < (L.length : Int) := by omega
      have hi2 : (k : Int) < 30 := by omega
      have hline := HST.out.cells hk1
      have HSX := Hid.mk (manK_succ hk1)
      have HSW := Hid.mk (fun W => l6Split_any (strB L[k]) 32 W (by rw [strB_size]; exact HLP.out k hk1))
      rw [strB_data] at HSW
      have hwpos := split_pos 32 L[k]
      have hwln : (splitP 32 L[k]).length ≤ 1048577 := by have h1 := split_len 32 L[k]; have h2 := HLP.out k hk1; omega
      have hwl : sumL (splitP 32 L[k]) ≤ 1048576 := Nat.le_trans (split_sum 32 L[k]) (HLP.out k hk1)
      unfold strV at hline
      generalize strB L[k] = ln at hline HSW
      generalize splitP 32 L[k] = WD at HSX HSW hwpos hwl hwln
      have HST0 := HST
      go_wp2_with fail
      refine (HSW.out wr).mono ?_
      rintro e w2 ⟨v2, rfl, ho2, hx2⟩
      obtain ⟨gw, cw, hv2, hbw, hgw, hcw⟩ := row_bx ho2 hwpos
      subst hv2
      replace HST := Hid.mk (HST.out.under hx2)
      have hxz := hx2.size
      have hgb : gw ≠ bm := by have := HST0.out.b.lt; omega
      have HGT : Hid (∃ cur, w2.heap[gw]? = some (.cells cur 9 (0, 0))) := by
        rcases ho2.2 with ⟨hh, _⟩ | ⟨g4, c4, cur4, hh, _, hg4, _⟩
        · cases hh
        · injection hh with hh _ _; injection hh with hh; injection hh with hh _; subst hh; exact ⟨cur4, hg4⟩
      have HWC : Hid (∀ j, (h : j < WD.length) → w2.cell? ⟨gw, j, none⟩ = some (.string (strB WD[j]))) := fun j h => hbw.2 j _ (by rw [List.getElem?_map, List.getElem?_eq_getElem h]; rfl)
      have HWS : Hid (∀ j, (h : j < WD.length) → (strB WD[j]).size ≤ 1048576) := fun j h => by
        have h1 := sumW_le (f := List.length) h
        rw [strB_size]
        unfold sumL at hwl
        omega
      have HN : Hid (∀ j, (h : j < WD.length) → ∀ W : World, Calls Tryz.prog 17 #[.string (strB WD[j])] W fun e w' => e = .returned (.int .i64 (numP WD[j])) ∧ w' = W) := fun j h W => by
        have := l6Number_any (strB WD[j]) W (HWS.out j h)
        rw [strB_data] at this
        exact this
      have HU : Hid (∀ j, (h : j < WD.length) → ∀ W : World, Calls Tryz.prog 18 #[.string (strB WD[j])] W fun e w' => e = .returned (.string (strB (unhexP WD[j]))) ∧ Below W.heap.size W w') := fun j h W => by
        have := l6UnHex_any (strB WD[j]) W (HWS.out j h)
        rw [strB_data] at this
        exact this
      have hwlen : WD.length ≤ 9223372036854775807 := by omega
      clear hx2 hbw ho2 HSW hline hxz HST0
      by_cases hk0 : k = 0
      · subst hk0
        by_cases h4 : WD.length = 4
        · have c1 := HWC.out 1 (by omega)
          have c3 := HWC.out 3 (by omega)
          have HN1 := Hid.mk (fun W => HN.out 1 (by omega) W)
          have HN3 := Hid.mk (fun W => HN.out 3 (by omega) W)
          have HTL : Hid (takeL 0 WD (manK L 0) = { (manK L 0) with fNext := numP WD[1], fLog := numP WD[3] }) := by
            show _ = _
            unfold takeL
            rw [if_pos rfl, if_pos h4]
            congr 1
            · rw [List.getD_eq_getElem?_getD, List.getElem?_eq_getElem (by omega)]; rfl
            · rw [List.getD_eq_getElem?_getD, List.getElem?_eq_getElem (by omega)]; rfl
          have hn1 := numP_wf WD[1]
          have hn3 := numP_wf WD[3]
          generalize strB WD[1] = s1 at c1 HN1
          generalize strB WD[3] = s3 at c3 HN3
          generalize numP WD[1] = x1 at *
          generalize numP WD[3] = x3 at *
          have hbo := HST.out.b
          have o0 := hbo.cell 0 _ rfl
          have f0 := hbo.free 0
          have lo := hbo.lt
          go_wp2_with fail
          refine (HN1.out _).mono ?_
          rintro e w3 ⟨rfl, hw3⟩
          replace hw3 := hw3.symm
          subst hw3
          have HS1 := Hid.mk (HST.out.next HPL.out hn1)
          obtain ⟨w4, hw4⟩ : ∃ x, x = w2.setCell ⟨bm, 0, none⟩ (.int .i64 x1) := ⟨_, rfl⟩
          have c3' : w4.cell? ⟨gw, 3, none⟩ = some (.string s3) := by rw [hw4, World.cell?_setCell_other _ _ _ _ (fun h => hgb (by injection h with h1; exact h1.symm))]; exact c3
          rw [← hw4] at HS1
          rw [hw4] at c3'
          go_wp2_with fail
          rw [← hw4]
          clear hw4 c3' c1 c3 o0 f0 lo hbo HST
          refine (HN3.out _).mono ?_
          rintro e w5 ⟨rfl, hw5⟩
          replace hw5 := hw5.symm
          subst hw5
          have HS2 := Hid.mk (HS1.out.log HPL.out hn3)
          have hbo := HS1.out.b
          have o1 := hbo.cell 1 _ rfl
          have f1 := hbo.free 1
          have lo := hbo.lt
          clear hbo
          go_wp2_with fail
          go_roundw
          case rel => exact ⟨0 + 1, a, c, by omega, by omega, by go_num, by rw [HSX.out, HTL.out]; exact HS2⟩
          case measure => simp [intOf]
        · have HTL : Hid (takeL 0 WD (manK L 0) = manK L 0) := by
            show _ = _
            unfold takeL
            rw [if_pos rfl, if_neg h4]
          have e4 : ((WD.length : Int) == 4) = false := beq_eq_false_iff_ne.2 (by omega)
          go_wp2_with fail
          go_roundw
          case rel => exact ⟨0 + 1, a, c, by omega, by omega, by go_num, by rw [HSX.out, HTL.out]; exact HST⟩
          case measure => simp [intOf]
      · have hkp : (0 : Int) < (k : Int) := by omega
        have e0 : ((k : Int) == 0) = false := beq_eq_false_iff_ne.2 (by omega)
        by_cases h5 : WD.length = 5
        · have c1 := HWC.out 1 (by omega)
          have c2 := HWC.out 2 (by omega)
          have c3 := HWC.out 3 (by omega)
          have c4 := HWC.out 4 (by omega)
          have HN1 := Hid.mk (fun W => HN.out 1 (by omega) W)
          have HN2 := Hid.mk (fun W => HN.out 2 (by omega) W)
          have HU3 := Hid.mk (fun W => HU.out 3 (by omega) W)
          have HU4 := Hid.mk (fun W => HU.out 4 (by omega) W)
          have HTL : Hid (takeL k WD (manK L k) = { (manK L k) with fTables := (manK L k).fTables ++ [⟨numP WD[1], numP WD[2], strB (unhexP WD[3]), strB (unhexP WD[4])⟩] }) := by
            show _ = _
            have g1 : WD.getD 1 [] = WD[1] := by rw [List.getD_eq_getElem?_getD, List.getElem?_eq_getElem (by omega)]; rfl
            have g2 : WD.getD 2 [] = WD[2] := by rw [List.getD_eq_getElem?_getD, List.getElem?_eq_getElem (by omega)]; rfl
            have g3 : WD.getD 3 [] = WD[3] := by rw [List.getD_eq_getElem?_getD, List.getElem?_eq_getElem (by omega)]; rfl
            have g4 : WD.getD 4 [] = WD[4] := by rw [List.getD_eq_getElem?_getD, List.getElem?_eq_getElem (by omega)]; rfl
            unfold takeL
            rw [if_neg hk0, if_pos h5, g1, g2, g3, g4]
          have hx1 := numP_wf WD[1]
          have hx2 := numP_wf WD[2]
          have hk3 : (strB (unhexP WD[3])).size ≤ 9223372036854775807 := by
            have h1 := HWS.out 3 (by omega)
            have h2 := unhex_half _ WD[3] (Nat.le_refl _)
            rw [strB_size] at h1 ⊢
            omega
          have hk4 : (strB (unhexP WD[4])).size ≤ 9223372036854775807 := by
            have h1 := HWS.out 4 (by omega)
            have h2 := unhex_half _ WD[4] (Nat.le_refl _)
            rw [strB_size] at h1 ⊢
            omega
          have htl : (manK L k).fTables.length ≤ 30 := by have := (manK_weight L k hkL).2; omega
          generalize strB (unhexP WD[3]) = k3 at *
          generalize strB (unhexP WD[4]) = k4 at *
          generalize strB WD[1] = s1 at c1 HN1
          generalize strB WD[2] = s2 at c2 HN2
          generalize strB WD[3] = s3 at c3 HU3
          generalize strB WD[4] = s4 at c4 HU4
          generalize numP WD[1] = x1 at *
          generalize numP WD[2] = x2 at *
          have hw5 : (WD.length : Int) = 5 := by omega
          go_wp2_with fail
          refine wp_region_held_drew (S := fun W => W.cell? ⟨gw, 1, none⟩ = some (.string s1) ∧ W.cell? ⟨gw, 2, none⟩ = some (.string s2) ∧ W.cell? ⟨gw, 3, none⟩ = some (.string s3) ∧ W.cell? ⟨gw, 4, none⟩ = some (.string s4)) (by kernel_rfl) (⟨c1, c2, c3, c4⟩) (fun hHeld => ?_)
          obtain ⟨wS, hwS⟩ : ∃ wS, wS = w2.drew := ⟨_, rfl⟩
          have HDS : Hid (PSt w br bm gl L wS (manK L k) a c ∧ Below w2.heap.size w2 wS) := by unfold Hid; rw [hwS]; exact ⟨HST.out.under (Below.drew (Below.refl _ _)), Below.drew (Below.refl _ _)⟩
          rw [← hwS] at hHeld ⊢
          clear hwS HST c1 c2 c3 c4
          refine tk 0 qf16_5_11_0 (some 52) (v := ?v1) rfl rfl (by kernel_rfl) hHeld (by rfl) (fun _ _ _ h => h) (fun w h => ?y1) ?_; (case y1 => (try dsimp only at h); go_simp; try (with_reducible rfl)); try simp only [Act.put, sa, s0, s1]
          refine tk 2 qf16_5_11_2 (some 54) (v := ?v2) rfl rfl (by kernel_rfl) hHeld (by rfl) (fun _ _ _ h => h) (fun w h => ?y2) ?_; (case y2 => (try dsimp only at h); go_simp; try (with_reducible rfl)); try simp only [Act.put, sa, s0, s1]
          refine tk 3 qf16_5_11_3 (some 55) (v := ?v3) rfl rfl (by kernel_rfl) hHeld (by rfl) (fun _ _ _ h => h) (fun w h => ?y3) ?_; (case y3 => (try dsimp only at h); go_simp; try (with_reducible rfl)); try simp only [Act.put, sa, s0, s1]
          refine tk 4 qf16_5_11_4 (some 56) (v := ?v4) rfl rfl (by kernel_rfl) hHeld (by rfl) (fun _ _ _ h => h) (fun w h => ?y4) ?_; (case y4 => (try dsimp only at h); go_simp; try (with_reducible rfl)); try simp only [Act.put, sa, s0, s1]
          refine tk 6 qf16_5_11_6 (some 58) (v := ?v5) rfl rfl (by kernel_rfl) hHeld (by rfl) (fun _ _ _ h => h) (fun w h => ?y5) ?_; (case y5 => (try dsimp only at h); go_simp; try (with_reducible rfl)); try simp only [Act.put, sa, s0, s1]
          refine tk 7 qf16_5_11_7 (some 59) (v := ?v6) rfl rfl (by kernel_rfl) hHeld (by rfl) (fun _ _ _ h => h) (fun w h => ?y6) ?_; (case y6 => (try dsimp only at h); go_simp; try (with_reducible rfl)); try simp only [Act.put, sa, s0, s1]
          refine tk 8 qf16_5_11_8 (some 60) (v := ?v7) rfl rfl (by kernel_rfl) hHeld (by rfl) (fun _ _ _ h => h) (fun w h => ?y7) ?_; (case y7 => (try dsimp only at h); go_simp; try (with_reducible rfl)); try simp only [Act.put, sa, s0, s1]
          refine tk 10 qf16_5_11_10 (some 62) (v := ?v8) rfl rfl (by kernel_rfl) hHeld (by rfl) (fun _ _ _ h => h) (fun w h => ?y8) ?_; (case y8 => (try dsimp only at h); go_simp; try (with_reducible rfl)); try simp only [Act.put, sa, s0, s1]
          refine tk 11 qf16_5_11_11 (some 63) (v := ?v9) rfl rfl (by kernel_rfl) hHeld (by rfl) (fun _ _ _ h => h) (fun w h => ?y9) ?_; (case y9 => (try dsimp only at h); go_simp; try (with_reducible rfl)); try simp only [Act.put, sa, s0, s1]
          refine tk 12 qf16_5_11_12 (some 64) (v := ?v10) rfl rfl (by kernel_rfl) hHeld (by rfl) (fun _ _ _ h => h) (fun w h => ?y10) ?_; (case y10 => (try dsimp only at h); go_simp; try (with_reducible rfl)); try simp only [Act.put, sa, s0, s1]
          refine tk 14 qf16_5_11_14 (some 66) (v := ?v11) rfl rfl (by kernel_rfl) hHeld (by rfl) (fun _ _ _ h => h) (fun w h => ?y11) ?_; (case y11 => (try dsimp only at h); go_simp; try (with_reducible rfl)); try simp only [Act.put, sa, s0, s1]
          refine tk 15 qf16_5_11_15 (some 67) (v := ?v12) rfl rfl (by kernel_rfl) hHeld (by rfl) (fun _ _ _ h => h) (fun w h => ?y12) ?_; (case y12 => (try dsimp only at h); go_simp; try (with_reducible rfl)); try simp only [Act.put, sa, s0, s1]
          refine tk 16 qf16_5_11_16 (some 68) (v := ?v13) rfl rfl (by kernel_rfl) hHeld (by rfl) (fun _ _ _ h => h) (fun w h => ?y13) ?_; (case y13 => (try dsimp only at h); go_simp; try (with_reducible rfl)); try simp only [Act.put, sa, s0, s1]
          refine wpAnyH_ready (rs := [1, 5]) (by kernel_rfl) (by simp) ?_
          refine (AllReadyH.cons (o := qf16_5_11_1) rfl (fun K hK => ?_) (AllReadyH.cons (o := qf16_5_11_5) rfl (fun K hK => ?_) AllReadyH.nil))
          · go_simp
            have hD : (PSt w br bm gl L wS (manK L k) a c ∧ Below w2.heap.size w2 wS) := by first | exact HD19.out | exact HD17.out | exact HD13.out | exact HD9.out | exact HD5.out | exact HDS.out
            have p2 := hD.1.b.cell 2 _ rfl
            go_simp
            obtain ⟨wE1, hqL⟩ : ∃ x, x = wS := ⟨_, rfl⟩
            have HD1 : Hid (PSt w br bm gl L wE1 (manK L k) a c ∧ Below w2.heap.size w2 wE1) := by unfold Hid; rw [hqL]; exact hD
            have hK1 : wE1.cell? ⟨gw, 1, none⟩ = some (.string s1) ∧ wE1.cell? ⟨gw, 2, none⟩ = some (.string s2) ∧ wE1.cell? ⟨gw, 3, none⟩ = some (.string s3) ∧ wE1.cell? ⟨gw, 4, none⟩ = some (.string s4) := by rw [hqL]; exact hHeld
            have hop1 : True := trivial
            (try rw [← hqL] at HB19)
            rw [← hqL]
            clear hqL p2 hD
            refine hK.out _ _ (hK1) (fun hHeld => ?_)
            clear hK K
            try simp only [Act.put, sa, s0, s1]
            refine wpAnyH_ready (rs := [5]) (by kernel_rfl) (by simp) ?_
            refine (AllReadyH.cons (o := qf16_5_11_5) rfl (fun K hK => ?_) AllReadyH.nil)
            · go_simp
              have hD : (PSt w br bm gl L wE1 (manK L k) a c ∧ Below w2.heap.size w2 wE1) := by first | exact HD1.out | exact HDS.out
              refine (HN1.out wE1).mono ?_
              rintro e wE5 ⟨rfl, hwE⟩
              have HD5 : Hid (PSt w br bm gl L wE5 (manK L k) a c ∧ Below w2.heap.size w2 wE5) := by unfold Hid; rw [hwE]; exact hD
              have hK5 : wE5.cell? ⟨gw, 1, none⟩ = some (.string s1) ∧ wE5.cell? ⟨gw, 2, none⟩ = some (.string s2) ∧ wE5.cell? ⟨gw, 3, none⟩ = some (.string s3) ∧ wE5.cell? ⟨gw, 4, none⟩ = some (.string s4) := by rw [hwE]; exact hHeld
              have hop5 : True := trivial
              clear hwE hD
              go_wp2_with fail
              refine hK.out _ _ (hK5) (fun hHeld => ?_)
              clear hK K
              try simp only [Act.put, sa, s0, s1]
              refine wpAnyH_ready (rs := [9]) (by kernel_rfl) (by simp) ?_
              refine (AllReadyH.cons (o := qf16_5_11_9) rfl (fun K hK => ?_) AllReadyH.nil)
              · go_simp
                have hD : (PSt w br bm gl L wE5 (manK L k) a c ∧ Below w2.heap.size w2 wE5) := by first | exact HD5.out | exact HD1.out
                refine (HN2.out wE5).mono ?_
                rintro e wE9 ⟨rfl, hwE⟩
                have HD9 : Hid (PSt w br bm gl L wE9 (manK L k) a c ∧ Below w2.heap.size w2 wE9) := by unfold Hid; rw [hwE]; exact hD
                have hK9 : wE9.cell? ⟨gw, 1, none⟩ = some (.string s1) ∧ wE9.cell? ⟨gw, 2, none⟩ = some (.string s2) ∧ wE9.cell? ⟨gw, 3, none⟩ = some (.string s3) ∧ wE9.cell? ⟨gw, 4, none⟩ = some (.string s4) := by rw [hwE]; exact hHeld
                have hop9 : True := trivial
                clear hwE hD
                go_wp2_with fail
                refine hK.out _ _ (hK9) (fun hHeld => ?_)
                clear hK K
                try simp only [Act.put, sa, s0, s1]
                refine wpAnyH_ready (rs := [13]) (by kernel_rfl) (by simp) ?_
                refine (AllReadyH.cons (o := qf16_5_11_13) rfl (fun K hK => ?_) AllReadyH.nil)
                · go_simp
                  have hD : (PSt w br bm gl L wE9 (manK L k) a c ∧ Below w2.heap.size w2 wE9) := by first | exact HD9.out | exact HD1.out
                  refine (HU3.out wE9).mono ?_
                  rintro e wE13 ⟨rfl, hxE⟩
                  have HD13 : Hid (PSt w br bm gl L wE13 (manK L k) a c ∧ Below w2.heap.size w2 wE13) := ⟨hD.1.under hxE, bthen hD.2 hxE⟩
                  have hK13 : wE13.cell? ⟨gw, 1, none⟩ = some (.string s1) ∧ wE13.cell? ⟨gw, 2, none⟩ = some (.string s2) ∧ wE13.cell? ⟨gw, 3, none⟩ = some (.string s3) ∧ wE13.cell? ⟨gw, 4, none⟩ = some (.string s4) := wc_under hHeld hxE
                  have hop13 : True := trivial
                  clear hxE hD
                  go_wp2_with fail
                  refine hK.out _ _ (hK13) (fun hHeld => ?_)
                  clear hK K
                  try simp only [Act.put, sa, s0, s1]
                  refine wpAnyH_ready (rs := [17]) (by kernel_rfl) (by simp) ?_
                  refine (AllReadyH.cons (o := qf16_5_11_17) rfl (fun K hK => ?_) AllReadyH.nil)
                  · go_simp
                    have hD : (PSt w br bm gl L wE13 (manK L k) a c ∧ Below w2.heap.size w2 wE13) := by first | exact HD13.out | exact HD1.out
                    refine (HU4.out wE13).mono ?_
                    rintro e wE17 ⟨rfl, hxE⟩
                    have HD17 : Hid (PSt w br bm gl L wE17 (manK L k) a c ∧ Below w2.heap.size w2 wE17) := ⟨hD.1.under hxE, bthen hD.2 hxE⟩
                    have hK17 : wE17.cell? ⟨gw, 1, none⟩ = some (.string s1) ∧ wE17.cell? ⟨gw, 2, none⟩ = some (.string s2) ∧ wE17.cell? ⟨gw, 3, none⟩ = some (.string s3) ∧ wE17.cell? ⟨gw, 4, none⟩ = some (.string s4) := wc_under hHeld hxE
                    have hop17 : True := trivial
                    clear hxE hD
                    go_wp2_with fail
                    refine hK.out _ _ (hK17) (fun hHeld => ?_)
                    clear hK K
                    try simp only [Act.put, sa, s0, s1]
                    refine tk 18 qf16_5_11_18 (some 70) (v := ?v14) rfl rfl (by kernel_rfl) hHeld (by rfl) (fun _ _ _ h => h) (fun w h => ?y14) ?_; (case y14 => (try dsimp only at h); go_simp; try (with_reducible rfl)); try simp only [Act.put, sa, s0, s1]
                    refine wpAnyH_ready (rs := [19]) (by kernel_rfl) (by simp) ?_
                    refine (AllReadyH.cons (o := qf16_5_11_19) rfl (fun K hK => ?_) AllReadyH.nil)
                    · go_simp
                      have hD : (PSt w br bm gl L wE17 (manK L k) a c ∧ Below w2.heap.size w2 wE17) := by first | exact HD17.out | exact HD1.out
                      obtain ⟨wE19, hq19⟩ : ∃ x, x = wE17.alloc (.cells (List.toArray [.int .i64 x1, .int .i64 x2, .string k3, .string k4]) 49) := ⟨_, rfl⟩
                      have hx19 : Below wE17.heap.size wE17 wE19 := by rw [hq19]; exact (Below.refl _ _).alloc (Nat.le_refl _) _
                      have HD19 : Hid (PSt w br bm gl L wE19 (manK L k) a c ∧ Below w2.heap.size w2 wE19) := ⟨hD.1.under hx19, bthen hD.2 hx19⟩
                      have hK19 : wE19.cell? ⟨gw, 1, none⟩ = some (.string s1) ∧ wE19.cell? ⟨gw, 2, none⟩ = some (.string s2) ∧ wE19.cell? ⟨gw, 3, none⟩ = some (.string s3) ∧ wE19.cell? ⟨gw, 4, none⟩ = some (.string s4) := wc_under hHeld hx19
                      have HB19 : Hid (Bx wE19 wE17.heap.size [.int .i64 x1, .int .i64 x2, .string k3, .string k4]) := by unfold Hid; rw [hq19]; exact Bx.new _ _ _
                      obtain ⟨g19, HG19⟩ : ∃ x, Hid (x = wE17.heap.size) := ⟨_, Hid.mk rfl⟩
                      rw [← HG19.out] at HB19 ⊢
                      have hop19 : True := trivial
                      rw [← hq19]
                      clear hq19 hx19 hD
                      refine hK.out _ _ (hK19) (fun hHeld => ?_)
                      clear hK K
                      try simp only [Act.put, sa, s0, s1]
                      refine wpAnyH_ready (rs := [20]) (by kernel_rfl) (by simp) ?_
                      refine (AllReadyH.cons (o := qf16_5_11_20) rfl (fun K hK => ?_) AllReadyH.nil)
                      · skip
                        have hD : (PSt w br bm gl L wE19 (manK L k) a c ∧ Below w2.heap.size w2 wE19) := by first | exact HD19.out | exact HD1.out
                        obtain ⟨xs, hxs, hpush⟩ := hD.1.push HPL.out
                        have HPU := Hid.mk hpush
                        clear hpush
                        refine step_append_src _ rfl _ _ 22 22 rfl 0 49 iT (.agg (List.toArray [.int .i64 0, .int .i64 0, .string ⟨#[]⟩, .string ⟨#[]⟩])) 4 48 Tryz.underlying22 hiT hz0 hz1 hz2 rfl (.slice a (manK L k).fTables.length c) (manK L k).fTables.length xs rfl hxs (.slice (some ⟨g19, 0, none⟩) 1 1) rfl 1 [.int .i64 x1, .int .i64 x2, .string k3, .string k4] (Src.meta Tryz.underlying22 HB19.out) (by unfold maxLen; omega) (by omega) (Nat.zero_le _) ?_
                        intro v20 wE20 ho20 hgr20 hat20
                        obtain ⟨r20, q20, rfl⟩ := own_slice ho20
                        have HN20 := Hid.mk (HPU.out _ wE20 x1 x2 k3 k4 hx1 hx2 hk3 hk4 ho20 hgr20 hat20 r20 q20 rfl)
                        have HPU2 : Value.ownBlock (.slice a (manK L k).fTables.length c) ≠ some gw := (by intro hh; obtain ⟨F9, ho9, _, _⟩ := hD.1.o; obtain ⟨cur9, hg9⟩ := blk_type ho9 gw hh; obtain ⟨cur8, hg8⟩ := HGT.out; rw [hD.2.block gw (Array.getElem?_eq_some_iff.1 hg8).1, hg8] at hg9; injection hg9 with hg9; injection hg9 with _ hg9; exact absurd hg9 (by decide))
                        have hK20 : wE20.cell? ⟨gw, 1, none⟩ = some (.string s1) ∧ wE20.cell? ⟨gw, 2, none⟩ = some (.string s2) ∧ wE20.cell? ⟨gw, 3, none⟩ = some (.string s3) ∧ wE20.cell? ⟨gw, 4, none⟩ = some (.string s4) := wc_grown hHeld hgr20 HPU2
                        have hop20 : True := trivial
                        clear hxs ho20 hat20 hgr20 hD
                        refine hK.out _ _ (hK20) (fun hHeld => ?_)
                        clear hK K
                        try simp only [Act.put, sa, s0, s1]
                        refine tk 21 qf16_5_11_21 (some 73) (v := ?v15) rfl rfl (by kernel_rfl) hHeld (by rfl) (fun _ _ _ h => h) (fun w h => ?y15) ?_; (case y15 => (try dsimp only at h); go_simp; try (with_reducible rfl)); try simp only [Act.put, sa, s0, s1]
                        refine wpAnyH_ready (rs := [22]) (by kernel_rfl) (by simp) ?_
                        refine (AllReadyH.cons (o := qf16_5_11_22) rfl (fun K hK => ?_) AllReadyH.nil)
                        · skip
                          have hbo := HN20.out.1
                          have o2 := hbo.cell 2 _ rfl
                          have f2 := hbo.free 2
                          have lo := hbo.lt
                          go_simp
                          obtain ⟨wE22, hq22⟩ : ∃ x, x = wE20.setCell ⟨bm, 2, none⟩ (.slice r20 ((manK L k).fTables.length + 1) q20) := ⟨_, rfl⟩
                          have HE : Hid (PSt w br bm gl L wE22 { (manK L k) with fTables := (manK L k).fTables ++ [⟨x1, x2, k3, k4⟩] } r20 q20) := by unfold Hid; rw [hq22]; exact HN20.out.2
                          have hK22 : wE22.cell? ⟨gw, 1, none⟩ = some (.string s1) ∧ wE22.cell? ⟨gw, 2, none⟩ = some (.string s2) ∧ wE22.cell? ⟨gw, 3, none⟩ = some (.string s3) ∧ wE22.cell? ⟨gw, 4, none⟩ = some (.string s4) := by rw [hq22]; exact wc_set hHeld hgb
                          have hop22 : True := trivial
                          rw [← hq22]
                          clear hq22 hbo o2 f2 lo
                          refine hK.out _ _ (hK22) (fun hHeld => ?_)
                          clear hK K
                          try simp only [Act.put, sa, s0, s1]
                          refine wpAnyH_done (by kernel_rfl) ?_ _
                          go_wp2_with fail
                          go_roundw
                          case rel => exact ⟨k + 1, r20, q20, by omega, by omega, by go_num, by rw [HSX.out, HTL.out]; exact HE⟩
                          case measure => simp [intOf]; omega
          · go_simp
            have hD : (PSt w br bm gl L wS (manK L k) a c ∧ Below w2.heap.size w2 wS) := by first | exact HD1.out | exact HDS.out
            refine (HN1.out wS).mono ?_
            rintro e wE5 ⟨rfl, hwE⟩
            have HD5 : Hid (PSt w br bm gl L wE5 (manK L k) a c ∧ Below w2.heap.size w2 wE5) := by unfold Hid; rw [hwE]; exact hD
            have hK5 : wE5.cell? ⟨gw, 1, none⟩ = some (.string s1) ∧ wE5.cell? ⟨gw, 2, none⟩ = some (.string s2) ∧ wE5.cell? ⟨gw, 3, none⟩ = some (.string s3) ∧ wE5.cell? ⟨gw, 4, none⟩ = some (.string s4) := by rw [hwE]; exact hHeld
            have hop5 : True := trivial
            clear hwE hD
            go_wp2_with fail
            refine hK.out _ _ (hK5) (fun hHeld => ?_)
            clear hK K
            try simp only [Act.put, sa, s0, s1]
            refine wpAnyH_ready (rs := [1, 9]) (by kernel_rfl) (by simp) ?_
            refine (AllReadyH.cons (o := qf16_5_11_1) rfl (fun K hK => ?_) (AllReadyH.cons (o := qf16_5_11_9) rfl (fun K hK => ?_) AllReadyH.nil))
            · go_simp
              have hD : (PSt w br bm gl L wE5 (manK L k) a c ∧ Below w2.heap.size w2 wE5) := by first | exact HD19.out | exact HD17.out | exact HD13.out | exact HD9.out | exact HD5.out | exact HDS.out
              have p2 := hD.1.b.cell 2 _ rfl
              go_simp
              obtain ⟨wE1, hqL⟩ : ∃ x, x = wE5 := ⟨_, rfl⟩
              have HD1 : Hid (PSt w br bm gl L wE1 (manK L k) a c ∧ Below w2.heap.size w2 wE1) := by unfold Hid; rw [hqL]; exact hD
              have hK1 : wE1.cell? ⟨gw, 1, none⟩ = some (.string s1) ∧ wE1.cell? ⟨gw, 2, none⟩ = some (.string s2) ∧ wE1.cell? ⟨gw, 3, none⟩ = some (.string s3) ∧ wE1.cell? ⟨gw, 4, none⟩ = some (.string s4) := by rw [hqL]; exact hHeld
              have hop1 : True := trivial
              (try rw [← hqL] at HB19)
              rw [← hqL]
              clear hqL p2 hD
              refine hK.out _ _ (hK1) (fun hHeld => ?_)
              clear hK K
              try simp only [Act.put, sa, s0, s1]
              refine wpAnyH_ready (rs := [9]) (by kernel_rfl) (by simp) ?_
              refine (AllReadyH.cons (o := qf16_5_11_9) rfl (fun K hK => ?_) AllReadyH.nil)
              · go_simp
                have hD : (PSt w br bm gl L wE1 (manK L k) a c ∧ Below w2.heap.size w2 wE1) := by first | exact HD5.out | exact HD1.out
                refine (HN2.out wE1).mono ?_
                rintro e wE9 ⟨rfl, hwE⟩
                have HD9 : Hid (PSt w br bm gl L wE9 (manK L k) a c ∧ Below w2.heap.size w2 wE9) := by unfold Hid; rw [hwE]; exact hD
                have hK9 : wE9.cell? ⟨gw, 1, none⟩ = some (.string s1) ∧ wE9.cell? ⟨gw, 2, none⟩ = some (.string s2) ∧ wE9.cell? ⟨gw, 3, none⟩ = some (.string s3) ∧ wE9.cell? ⟨gw, 4, none⟩ = some (.string s4) := by rw [hwE]; exact hHeld
                have hop9 : True := trivial
                clear hwE hD
                go_wp2_with fail
                refine hK.out _ _ (hK9) (fun hHeld => ?_)
                clear hK K
                try simp only [Act.put, sa, s0, s1]
                refine wpAnyH_ready (rs := [13]) (by kernel_rfl) (by simp) ?_
                refine (AllReadyH.cons (o := qf16_5_11_13) rfl (fun K hK => ?_) AllReadyH.nil)
                · go_simp
                  have hD : (PSt w br bm gl L wE9 (manK L k) a c ∧ Below w2.heap.size w2 wE9) := by first | exact HD9.out | exact HD1.out
                  refine (HU3.out wE9).mono ?_
                  rintro e wE13 ⟨rfl, hxE⟩
                  have HD13 : Hid (PSt w br bm gl L wE13 (manK L k) a c ∧ Below w2.heap.size w2 wE13) := ⟨hD.1.under hxE, bthen hD.2 hxE⟩
                  have hK13 : wE13.cell? ⟨gw, 1, none⟩ = some (.string s1) ∧ wE13.cell? ⟨gw, 2, none⟩ = some (.string s2) ∧ wE13.cell? ⟨gw, 3, none⟩ = some (.string s3) ∧ wE13.cell? ⟨gw, 4, none⟩ = some (.string s4) := wc_under hHeld hxE
                  have hop13 : True := trivial
                  clear hxE hD
                  go_wp2_with fail
                  refine hK.out _ _ (hK13) (fun hHeld => ?_)
                  clear hK K
                  try simp only [Act.put, sa, s0, s1]
                  refine wpAnyH_ready (rs := [17]) (by kernel_rfl) (by simp) ?_
                  refine (AllReadyH.cons (o := qf16_5_11_17) rfl (fun K hK => ?_) AllReadyH.nil)
                  · go_simp
                    have hD : (PSt w br bm gl L wE13 (manK L k) a c ∧ Below w2.heap.size w2 wE13) := by first | exact HD13.out | exact HD1.out
                    refine (HU4.out wE13).mono ?_
                    rintro e wE17 ⟨rfl, hxE⟩
                    have HD17 : Hid (PSt w br bm gl L wE17 (manK L k) a c ∧ Below w2.heap.size w2 wE17) := ⟨hD.1.under hxE, bthen hD.2 hxE⟩
                    have hK17 : wE17.cell? ⟨gw, 1, none⟩ = some (.string s1) ∧ wE17.cell? ⟨gw, 2, none⟩ = some (.string s2) ∧ wE17.cell? ⟨gw, 3, none⟩ = some (.string s3) ∧ wE17.cell? ⟨gw, 4, none⟩ = some (.string s4) := wc_under hHeld hxE
                    have hop17 : True := trivial
                    clear hxE hD
                    go_wp2_with fail
                    refine hK.out _ _ (hK17) (fun hHeld => ?_)
                    clear hK K
                    try simp only [Act.put, sa, s0, s1]
                    refine tk 18 qf16_5_11_18 (some 70) (v := ?v16) rfl rfl (by kernel_rfl) hHeld (by rfl) (fun _ _ _ h => h) (fun w h => ?y16) ?_; (case y16 => (try dsimp only at h); go_simp; try (with_reducible rfl)); try simp only [Act.put, sa, s0, s1]
                    refine wpAnyH_ready (rs := [19]) (by kernel_rfl) (by simp) ?_
                    refine (AllReadyH.cons (o := qf16_5_11_19) rfl (fun K hK => ?_) AllReadyH.nil)
                    · go_simp
                      have hD : (PSt w br bm gl L wE17 (manK L k) a c ∧ Below w2.heap.size w2 wE17) := by first | exact HD17.out | exact HD1.out
                      obtain ⟨wE19, hq19⟩ : ∃ x, x = wE17.alloc (.cells (List.toArray [.int .i64 x1, .int .i64 x2, .string k3, .string k4]) 49) := ⟨_, rfl⟩
                      have hx19 : Below wE17.heap.size wE17 wE19 := by rw [hq19]; exact (Below.refl _ _).alloc (Nat.le_refl _) _
                      have HD19 : Hid (PSt w br bm gl L wE19 (manK L k) a c ∧ Below w2.heap.size w2 wE19) := ⟨hD.1.under hx19, bthen hD.2 hx19⟩
                      have hK19 : wE19.cell? ⟨gw, 1, none⟩ = some (.string s1) ∧ wE19.cell? ⟨gw, 2, none⟩ = some (.string s2) ∧ wE19.cell? ⟨gw, 3, none⟩ = some (.string s3) ∧ wE19.cell? ⟨gw, 4, none⟩ = some (.string s4) := wc_under hHeld hx19
                      have HB19 : Hid (Bx wE19 wE17.heap.size [.int .i64 x1, .int .i64 x2, .string k3, .string k4]) := by unfold Hid; rw [hq19]; exact Bx.new _ _ _
                      obtain ⟨g19, HG19⟩ : ∃ x, Hid (x = wE17.heap.size) := ⟨_, Hid.mk rfl⟩
                      rw [← HG19.out] at HB19 ⊢
                      have hop19 : True := trivial
                      rw [← hq19]
                      clear hq19 hx19 hD
                      refine hK.out _ _ (hK19) (fun hHeld => ?_)
                      clear hK K
                      try simp only [Act.put, sa, s0, s1]
                      refine wpAnyH_ready (rs := [20]) (by kernel_rfl) (by simp) ?_
                      refine (AllReadyH.cons (o := qf16_5_11_20) rfl (fun K hK => ?_) AllReadyH.nil)
                      · skip
                        have hD : (PSt w br bm gl L wE19 (manK L k) a c ∧ Below w2.heap.size w2 wE19) := by first | exact HD19.out | exact HD1.out
                        obtain ⟨xs, hxs, hpush⟩ := hD.1.push HPL.out
                        have HPU := Hid.mk hpush
                        clear hpush
                        refine step_append_src _ rfl _ _ 22 22 rfl 0 49 iT (.agg (List.toArray [.int .i64 0, .int .i64 0, .string ⟨#[]⟩, .string ⟨#[]⟩])) 4 48 Tryz.underlying22 hiT hz0 hz1 hz2 rfl (.slice a (manK L k).fTables.length c) (manK L k).fTables.length xs rfl hxs (.slice (some ⟨g19, 0, none⟩) 1 1) rfl 1 [.int .i64 x1, .int .i64 x2, .string k3, .string k4] (Src.meta Tryz.underlying22 HB19.out) (by unfold maxLen; omega) (by omega) (Nat.zero_le _) ?_
                        intro v20 wE20 ho20 hgr20 hat20
                        obtain ⟨r20, q20, rfl⟩ := own_slice ho20
                        have HN20 := Hid.mk (HPU.out _ wE20 x1 x2 k3 k4 hx1 hx2 hk3 hk4 ho20 hgr20 hat20 r20 q20 rfl)
                        have HPU2 : Value.ownBlock (.slice a (manK L k).fTables.length c) ≠ some gw := (by intro hh; obtain ⟨F9, ho9, _, _⟩ := hD.1.o; obtain ⟨cur9, hg9⟩ := blk_type ho9 gw hh; obtain ⟨cur8, hg8⟩ := HGT.out; rw [hD.2.block gw (Array.getElem?_eq_some_iff.1 hg8).1, hg8] at hg9; injection hg9 with hg9; injection hg9 with _ hg9; exact absurd hg9 (by decide))
                        have hK20 : wE20.cell? ⟨gw, 1, none⟩ = some (.string s1) ∧ wE20.cell? ⟨gw, 2, none⟩ = some (.string s2) ∧ wE20.cell? ⟨gw, 3, none⟩ = some (.string s3) ∧ wE20.cell? ⟨gw, 4, none⟩ = some (.string s4) := wc_grown hHeld hgr20 HPU2
                        have hop20 : True := trivial
                        clear hxs ho20 hat20 hgr20 hD
                        refine hK.out _ _ (hK20) (fun hHeld => ?_)
                        clear hK K
                        try simp only [Act.put, sa, s0, s1]
                        refine tk 21 qf16_5_11_21 (some 73) (v := ?v17) rfl rfl (by kernel_rfl) hHeld (by rfl) (fun _ _ _ h => h) (fun w h => ?y17) ?_; (case y17 => (try dsimp only at h); go_simp; try (with_reducible rfl)); try simp only [Act.put, sa, s0, s1]
                        refine wpAnyH_ready (rs := [22]) (by kernel_rfl) (by simp) ?_
                        refine (AllReadyH.cons (o := qf16_5_11_22) rfl (fun K hK => ?_) AllReadyH.nil)
                        · skip
                          have hbo := HN20.out.1
                          have o2 := hbo.cell 2 _ rfl
                          have f2 := hbo.free 2
                          have lo := hbo.lt
                          go_simp
                          obtain ⟨wE22, hq22⟩ : ∃ x, x = wE20.setCell ⟨bm, 2, none⟩ (.slice r20 ((manK L k).fTables.length + 1) q20) := ⟨_, rfl⟩
                          have HE : Hid (PSt w br bm gl L wE22 { (manK L k) with fTables := (manK L k).fTables ++ [⟨x1, x2, k3, k4⟩] } r20 q20) := by unfold Hid; rw [hq22]; exact HN20.out.2
                          have hK22 : wE22.cell? ⟨gw, 1, none⟩ = some (.string s1) ∧ wE22.cell? ⟨gw, 2, none⟩ = some (.string s2) ∧ wE22.cell? ⟨gw, 3, none⟩ = some (.string s3) ∧ wE22.cell? ⟨gw, 4, none⟩ = some (.string s4) := by rw [hq22]; exact wc_set hHeld hgb
                          have hop22 : True := trivial
                          rw [← hq22]
                          clear hq22 hbo o2 f2 lo
                          refine hK.out _ _ (hK22) (fun hHeld => ?_)
                          clear hK K
                          try simp only [Act.put, sa, s0, s1]
                          refine wpAnyH_done (by kernel_rfl) ?_ _
                          go_wp2_with fail
                          go_roundw
                          case rel => exact ⟨k + 1, r20, q20, by omega, by omega, by go_num, by rw [HSX.out, HTL.out]; exact HE⟩
                          case measure => simp [intOf]; omega
            · go_simp
              have hD : (PSt w br bm gl L wE5 (manK L k) a c ∧ Below w2.heap.size w2 wE5) := by first | exact HD5.out | exact HD1.out
              refine (HN2.out wE5).mono ?_
              rintro e wE9 ⟨rfl, hwE⟩
              have HD9 : Hid (PSt w br bm gl L wE9 (manK L k) a c ∧ Below w2.heap.size w2 wE9) := by unfold Hid; rw [hwE]; exact hD
              have hK9 : wE9.cell? ⟨gw, 1, none⟩ = some (.string s1) ∧ wE9.cell? ⟨gw, 2, none⟩ = some (.string s2) ∧ wE9.cell? ⟨gw, 3, none⟩ = some (.string s3) ∧ wE9.cell? ⟨gw, 4, none⟩ = some (.string s4) := by rw [hwE]; exact hHeld
              have hop9 : True := trivial
              clear hwE hD
              go_wp2_with fail
              refine hK.out _ _ (hK9) (fun hHeld => ?_)
              clear hK K
              try simp only [Act.put, sa, s0, s1]
              refine wpAnyH_ready (rs := [1, 13]) (by kernel_rfl) (by simp) ?_
              refine (AllReadyH.cons (o := qf16_5_11_1) rfl (fun K hK => ?_) (AllReadyH.cons (o := qf16_5_11_13) rfl (fun K hK => ?_) AllReadyH.nil))
              · go_simp
                have hD : (PSt w br bm gl L wE9 (manK L k) a c ∧ Below w2.heap.size w2 wE9) := by first | exact HD19.out | exact HD17.out | exact HD13.out | exact HD9.out | exact HD5.out | exact HDS.out
                have p2 := hD.1.b.cell 2 _ rfl
                go_simp
                obtain ⟨wE1, hqL⟩ : ∃ x, x = wE9 := ⟨_, rfl⟩
                have HD1 : Hid (PSt w br bm gl L wE1 (manK L k) a c ∧ Below w2.heap.size w2 wE1) := by unfold Hid; rw [hqL]; exact hD
                have hK1 : wE1.cell? ⟨gw, 1, none⟩ = some (.string s1) ∧ wE1.cell? ⟨gw, 2, none⟩ = some (.string s2) ∧ wE1.cell? ⟨gw, 3, none⟩ = some (.string s3) ∧ wE1.cell? ⟨gw, 4, none⟩ = some (.string s4) := by rw [hqL]; exact hHeld
                have hop1 : True := trivial
                (try rw [← hqL] at HB19)
                rw [← hqL]
                clear hqL p2 hD
                refine hK.out _ _ (hK1) (fun hHeld => ?_)
                clear hK K
                try simp only [Act.put, sa, s0, s1]
                refine wpAnyH_ready (rs := [13]) (by kernel_rfl) (by simp) ?_
                refine (AllReadyH.cons (o := qf16_5_11_13) rfl (fun K hK => ?_) AllReadyH.nil)
                · go_simp
                  have hD : (PSt w br bm gl L wE1 (manK L k) a c ∧ Below w2.heap.size w2 wE1) := by first | exact HD9.out | exact HD1.out
                  refine (HU3.out wE1).mono ?_
                  rintro e wE13 ⟨rfl, hxE⟩
                  have HD13 : Hid (PSt w br bm gl L wE13 (manK L k) a c ∧ Below w2.heap.size w2 wE13) := ⟨hD.1.under hxE, bthen hD.2 hxE⟩
                  have hK13 : wE13.cell? ⟨gw, 1, none⟩ = some (.string s1) ∧ wE13.cell? ⟨gw, 2, none⟩ = some (.string s2) ∧ wE13.cell? ⟨gw, 3, none⟩ = some (.string s3) ∧ wE13.cell? ⟨gw, 4, none⟩ = some (.string s4) := wc_under hHeld hxE
                  have hop13 : True := trivial
                  clear hxE hD
                  go_wp2_with fail
                  refine hK.out _ _ (hK13) (fun hHeld => ?_)
                  clear hK K
                  try simp only [Act.put, sa, s0, s1]
                  refine wpAnyH_ready (rs := [17]) (by kernel_rfl) (by simp) ?_
                  refine (AllReadyH.cons (o := qf16_5_11_17) rfl (fun K hK => ?_) AllReadyH.nil)
                  · go_simp
                    have hD : (PSt w br bm gl L wE13 (manK L k) a c ∧ Below w2.heap.size w2 wE13) := by first | exact HD13.out | exact HD1.out
                    refine (HU4.out wE13).mono ?_
                    rintro e wE17 ⟨rfl, hxE⟩
                    have HD17 : Hid (PSt w br bm gl L wE17 (manK L k) a c ∧ Below w2.heap.size w2 wE17) := ⟨hD.1.under hxE, bthen hD.2 hxE⟩
                    have hK17 : wE17.cell? ⟨gw, 1, none⟩ = some (.string s1) ∧ wE17.cell? ⟨gw, 2, none⟩ = some (.string s2) ∧ wE17.cell? ⟨gw, 3, none⟩ = some (.string s3) ∧ wE17.cell? ⟨gw, 4, none⟩ = some (.string s4) := wc_under hHeld hxE
                    have hop17 : True := trivial
                    clear hxE hD
                    go_wp2_with fail
                    refine hK.out _ _ (hK17) (fun hHeld => ?_)
                    clear hK K
                    try simp only [Act.put, sa, s0, s1]
                    refine tk 18 qf16_5_11_18 (some 70) (v := ?v18) rfl rfl (by kernel_rfl) hHeld (by rfl) (fun _ _ _ h => h) (fun w h => ?y18) ?_; (case y18 => (try dsimp only at h); go_simp; try (with_reducible rfl)); try simp only [Act.put, sa, s0, s1]
                    refine wpAnyH_ready (rs := [19]) (by kernel_rfl) (by simp) ?_
                    refine (AllReadyH.cons (o := qf16_5_11_19) rfl (fun K hK => ?_) AllReadyH.nil)
                    · go_simp
                      have hD : (PSt w br bm gl L wE17 (manK L k) a c ∧ Below w2.heap.size w2 wE17) := by first | exact HD17.out | exact HD1.out
                      obtain ⟨wE19, hq19⟩ : ∃ x, x = wE17.alloc (.cells (List.toArray [.int .i64 x1, .int .i64 x2, .string k3, .string k4]) 49) := ⟨_, rfl⟩
                      have hx19 : Below wE17.heap.size wE17 wE19 := by rw [hq19]; exact (Below.refl _ _).alloc (Nat.le_refl _) _
                      have HD19 : Hid (PSt w br bm gl L wE19 (manK L k) a c ∧ Below w2.heap.size w2 wE19) := ⟨hD.1.under hx19, bthen hD.2 hx19⟩
                      have hK19 : wE19.cell? ⟨gw, 1, none⟩ = some (.string s1) ∧ wE19.cell? ⟨gw, 2, none⟩ = some (.string s2) ∧ wE19.cell? ⟨gw, 3, none⟩ = some (.string s3) ∧ wE19.cell? ⟨gw, 4, none⟩ = some (.string s4) := wc_under hHeld hx19
                      have HB19 : Hid (Bx wE19 wE17.heap.size [.int .i64 x1, .int .i64 x2, .string k3, .string k4]) := by unfold Hid; rw [hq19]; exact Bx.new _ _ _
                      obtain ⟨g19, HG19⟩ : ∃ x, Hid (x = wE17.heap.size) := ⟨_, Hid.mk rfl⟩
                      rw [← HG19.out] at HB19 ⊢
                      have hop19 : True := trivial
                      rw [← hq19]
                      clear hq19 hx19 hD
                      refine hK.out _ _ (hK19) (fun hHeld => ?_)
                      clear hK K
                      try simp only [Act.put, sa, s0, s1]
                      refine wpAnyH_ready (rs := [20]) (by kernel_rfl) (by simp) ?_
                      refine (AllReadyH.cons (o := qf16_5_11_20) rfl (fun K hK => ?_) AllReadyH.nil)
                      · skip
                        have hD : (PSt w br bm gl L wE19 (manK L k) a c ∧ Below w2.heap.size w2 wE19) := by first | exact HD19.out | exact HD1.out
                        obtain ⟨xs, hxs, hpush⟩ := hD.1.push HPL.out
                        have HPU := Hid.mk hpush
                        clear hpush
                        refine step_append_src _ rfl _ _ 22 22 rfl 0 49 iT (.agg (List.toArray [.int .i64 0, .int .i64 0, .string ⟨#[]⟩, .string ⟨#[]⟩])) 4 48 Tryz.underlying22 hiT hz0 hz1 hz2 rfl (.slice a (manK L k).fTables.length c) (manK L k).fTables.length xs rfl hxs (.slice (some ⟨g19, 0, none⟩) 1 1) rfl 1 [.int .i64 x1, .int .i64 x2, .string k3, .string k4] (Src.meta Tryz.underlying22 HB19.out) (by unfold maxLen; omega) (by omega) (Nat.zero_le _) ?_
                        intro v20 wE20 ho20 hgr20 hat20
                        obtain ⟨r20, q20, rfl⟩ := own_slice ho20
                        have HN20 := Hid.mk (HPU.out _ wE20 x1 x2 k3 k4 hx1 hx2 hk3 hk4 ho20 hgr20 hat20 r20 q20 rfl)
                        have HPU2 : Value.ownBlock (.slice a (manK L k).fTables.length c) ≠ some gw := (by intro hh; obtain ⟨F9, ho9, _, _⟩ := hD.1.o; obtain ⟨cur9, hg9⟩ := blk_type ho9 gw hh; obtain ⟨cur8, hg8⟩ := HGT.out; rw [hD.2.block gw (Array.getElem?_eq_some_iff.1 hg8).1, hg8] at hg9; injection hg9 with hg9; injection hg9 with _ hg9; exact absurd hg9 (by decide))
                        have hK20 : wE20.cell? ⟨gw, 1, none⟩ = some (.string s1) ∧ wE20.cell? ⟨gw, 2, none⟩ = some (.string s2) ∧ wE20.cell? ⟨gw, 3, none⟩ = some (.string s3) ∧ wE20.cell? ⟨gw, 4, none⟩ = some (.string s4) := wc_grown hHeld hgr20 HPU2
                        have hop20 : True := trivial
                        clear hxs ho20 hat20 hgr20 hD
                        refine hK.out _ _ (hK20) (fun hHeld => ?_)
                        clear hK K
                        try simp only [Act.put, sa, s0, s1]
                        refine tk 21 qf16_5_11_21 (some 73) (v := ?v19) rfl rfl (by kernel_rfl) hHeld (by rfl) (fun _ _ _ h => h) (fun w h => ?y19) ?_; (case y19 => (try dsimp only at h); go_simp; try (with_reducible rfl)); try simp only [Act.put, sa, s0, s1]
                        refine wpAnyH_ready (rs := [22]) (by kernel_rfl) (by simp) ?_
                        refine (AllReadyH.cons (o := qf16_5_11_22) rfl (fun K hK => ?_) AllReadyH.nil)
                        · skip
                          have hbo := HN20.out.1
                          have o2 := hbo.cell 2 _ rfl
                          have f2 := hbo.free 2
                          have lo := hbo.lt
                          go_simp
                          obtain ⟨wE22, hq22⟩ : ∃ x, x = wE20.setCell ⟨bm, 2, none⟩ (.slice r20 ((manK L k).fTables.length + 1) q20) := ⟨_, rfl⟩
                          have HE : Hid (PSt w br bm gl L wE22 { (manK L k) with fTables := (manK L k).fTables ++ [⟨x1, x2, k3, k4⟩] } r20 q20) := by unfold Hid; rw [hq22]; exact HN20.out.2
                          have hK22 : wE22.cell? ⟨gw, 1, none⟩ = some (.string s1) ∧ wE22.cell? ⟨gw, 2, none⟩ = some (.string s2) ∧ wE22.cell? ⟨gw, 3, none⟩ = some (.string s3) ∧ wE22.cell? ⟨gw, 4, none⟩ = some (.string s4) := by rw [hq22]; exact wc_set hHeld hgb
                          have hop22 : True := trivial
                          rw [← hq22]
                          clear hq22 hbo o2 f2 lo
                          refine hK.out _ _ (hK22) (fun hHeld => ?_)
                          clear hK K
                          try simp only [Act.put, sa, s0, s1]
                          refine wpAnyH_done (by kernel_rfl) ?_ _
                          go_wp2_with fail
                          go_roundw
                          case rel => exact ⟨k + 1, r20, q20, by omega, by omega, by go_num, by rw [HSX.out, HTL.out]; exact HE⟩
                          case measure => simp [intOf]; omega
              · go_simp
                have hD : (PSt w br bm gl L wE9 (manK L k) a c ∧ Below w2.heap.size w2 wE9) := by first | exact HD9.out | exact HD1.out
                refine (HU3.out wE9).mono ?_
                rintro e wE13 ⟨rfl, hxE⟩
                have HD13 : Hid (PSt w br bm gl L wE13 (manK L k) a c ∧ Below w2.heap.size w2 wE13) := ⟨hD.1.under hxE, bthen hD.2 hxE⟩
                have hK13 : wE13.cell? ⟨gw, 1, none⟩ = some (.string s1) ∧ wE13.cell? ⟨gw, 2, none⟩ = some (.string s2) ∧ wE13.cell? ⟨gw, 3, none⟩ = some (.string s3) ∧ wE13.cell? ⟨gw, 4, none⟩ = some (.string s4) := wc_under hHeld hxE
                have hop13 : True := trivial
                clear hxE hD
                go_wp2_with fail
                refine hK.out _ _ (hK13) (fun hHeld => ?_)
                clear hK K
                try simp only [Act.put, sa, s0, s1]
                refine wpAnyH_ready (rs := [1, 17]) (by kernel_rfl) (by simp) ?_
                refine (AllReadyH.cons (o := qf16_5_11_1) rfl (fun K hK => ?_) (AllReadyH.cons (o := qf16_5_11_17) rfl (fun K hK => ?_) AllReadyH.nil))
                · go_simp
                  have hD : (PSt w br bm gl L wE13 (manK L k) a c ∧ Below w2.heap.size w2 wE13) := by first | exact HD19.out | exact HD17.out | exact HD13.out | exact HD9.out | exact HD5.out | exact HDS.out
                  have p2 := hD.1.b.cell 2 _ rfl
                  go_simp
                  obtain ⟨wE1, hqL⟩ : ∃ x, x = wE13 := ⟨_, rfl⟩
                  have HD1 : Hid (PSt w br bm gl L wE1 (manK L k) a c ∧ Below w2.heap.size w2 wE1) := by unfold Hid; rw [hqL]; exact hD
                  have hK1 : wE1.cell? ⟨gw, 1, none⟩ = some (.string s1) ∧ wE1.cell? ⟨gw, 2, none⟩ = some (.string s2) ∧ wE1.cell? ⟨gw, 3, none⟩ = some (.string s3) ∧ wE1.cell? ⟨gw, 4, none⟩ = some (.string s4) := by rw [hqL]; exact hHeld
                  have hop1 : True := trivial
                  (try rw [← hqL] at HB19)
                  rw [← hqL]
                  clear hqL p2 hD
                  refine hK.out _ _ (hK1) (fun hHeld => ?_)
                  clear hK K
                  try simp only [Act.put, sa, s0, s1]
                  refine wpAnyH_ready (rs := [17]) (by kernel_rfl) (by simp) ?_
                  refine (AllReadyH.cons (o := qf16_5_11_17) rfl (fun K hK => ?_) AllReadyH.nil)
                  · go_simp
                    have hD : (PSt w br bm gl L wE1 (manK L k) a c ∧ Below w2.heap.size w2 wE1) := by first | exact HD13.out | exact HD1.out
                    refine (HU4.out wE1).mono ?_
                    rintro e wE17 ⟨rfl, hxE⟩
                    have HD17 : Hid (PSt w br bm gl L wE17 (manK L k) a c ∧ Below w2.heap.size w2 wE17) := ⟨hD.1.under hxE, bthen hD.2 hxE⟩
                    have hK17 : wE17.cell? ⟨gw, 1, none⟩ = some (.string s1) ∧ wE17.cell? ⟨gw, 2, none⟩ = some (.string s2) ∧ wE17.cell? ⟨gw, 3, none⟩ = some (.string s3) ∧ wE17.cell? ⟨gw, 4, none⟩ = some (.string s4) := wc_under hHeld hxE
                    have hop17 : True := trivial
                    clear hxE hD
                    go_wp2_with fail
                    refine hK.out _ _ (hK17) (fun hHeld => ?_)
                    clear hK K
                    try simp only [Act.put, sa, s0, s1]
                    refine tk 18 qf16_5_11_18 (some 70) (v := ?v20) rfl rfl (by kernel_rfl) hHeld (by rfl) (fun _ _ _ h => h) (fun w h => ?y20) ?_; (case y20 => (try dsimp only at h); go_simp; try (with_reducible rfl)); try simp only [Act.put, sa, s0, s1]
                    refine wpAnyH_ready (rs := [19]) (by kernel_rfl) (by simp) ?_
                    refine (AllReadyH.cons (o := qf16_5_11_19) rfl (fun K hK => ?_) AllReadyH.nil)
                    · go_simp
                      have hD : (PSt w br bm gl L wE17 (manK L k) a c ∧ Below w2.heap.size w2 wE17) := by first | exact HD17.out | exact HD1.out
                      obtain ⟨wE19, hq19⟩ : ∃ x, x = wE17.alloc (.cells (List.toArray [.int .i64 x1, .int .i64 x2, .string k3, .string k4]) 49) := ⟨_, rfl⟩
                      have hx19 : Below wE17.heap.size wE17 wE19 := by rw [hq19]; exact (Below.refl _ _).alloc (Nat.le_refl _) _
                      have HD19 : Hid (PSt w br bm gl L wE19 (manK L k) a c ∧ Below w2.heap.size w2 wE19) := ⟨hD.1.under hx19, bthen hD.2 hx19⟩
                      have hK19 : wE19.cell? ⟨gw, 1, none⟩ = some (.string s1) ∧ wE19.cell? ⟨gw, 2, none⟩ = some (.string s2) ∧ wE19.cell? ⟨gw, 3, none⟩ = some (.string s3) ∧ wE19.cell? ⟨gw, 4, none⟩ = some (.string s4) := wc_under hHeld hx19
                      have HB19 : Hid (Bx wE19 wE17.heap.size [.int .i64 x1, .int .i64 x2, .string k3, .string k4]) := by unfold Hid; rw [hq19]; exact Bx.new _ _ _
                      obtain ⟨g19, HG19⟩ : ∃ x, Hid (x = wE17.heap.size) := ⟨_, Hid.mk rfl⟩
                      rw [← HG19.out] at HB19 ⊢
                      have hop19 : True := trivial
                      rw [← hq19]
                      clear hq19 hx19 hD
                      refine hK.out _ _ (hK19) (fun hHeld => ?_)
                      clear hK K
                      try simp only [Act.put, sa, s0, s1]
                      refine wpAnyH_ready (rs := [20]) (by kernel_rfl) (by simp) ?_
                      refine (AllReadyH.cons (o := qf16_5_11_20) rfl (fun K hK => ?_) AllReadyH.nil)
                      · skip
                        have hD : (PSt w br bm gl L wE19 (manK L k) a c ∧ Below w2.heap.size w2 wE19) := by first | exact HD19.out | exact HD1.out
                        obtain ⟨xs, hxs, hpush⟩ := hD.1.push HPL.out
                        have HPU := Hid.mk hpush
                        clear hpush
                        refine step_append_src _ rfl _ _ 22 22 rfl 0 49 iT (.agg (List.toArray [.int .i64 0, .int .i64 0, .string ⟨#[]⟩, .string ⟨#[]⟩])) 4 48 Tryz.underlying22 hiT hz0 hz1 hz2 rfl (.slice a (manK L k).fTables.length c) (manK L k).fTables.length xs rfl hxs (.slice (some ⟨g19, 0, none⟩) 1 1) rfl 1 [.int .i64 x1, .int .i64 x2, .string k3, .string k4] (Src.meta Tryz.underlying22 HB19.out) (by unfold maxLen; omega) (by omega) (Nat.zero_le _) ?_
                        intro v20 wE20 ho20 hgr20 hat20
                        obtain ⟨r20, q20, rfl⟩ := own_slice ho20
                        have HN20 := Hid.mk (HPU.out _ wE20 x1 x2 k3 k4 hx1 hx2 hk3 hk4 ho20 hgr20 hat20 r20 q20 rfl)
                        have HPU2 : Value.ownBlock (.slice a (manK L k).fTables.length c) ≠ some gw := (by intro hh; obtain ⟨F9, ho9, _, _⟩ := hD.1.o; obtain ⟨cur9, hg9⟩ := blk_type ho9 gw hh; obtain ⟨cur8, hg8⟩ := HGT.out; rw [hD.2.block gw (Array.getElem?_eq_some_iff.1 hg8).1, hg8] at hg9; injection hg9 with hg9; injection hg9 with _ hg9; exact absurd hg9 (by decide))
                        have hK20 : wE20.cell? ⟨gw, 1, none⟩ = some (.string s1) ∧ wE20.cell? ⟨gw, 2, none⟩ = some (.string s2) ∧ wE20.cell? ⟨gw, 3, none⟩ = some (.string s3) ∧ wE20.cell? ⟨gw, 4, none⟩ = some (.string s4) := wc_grown hHeld hgr20 HPU2
                        have hop20 : True := trivial
                        clear hxs ho20 hat20 hgr20 hD
                        refine hK.out _ _ (hK20) (fun hHeld => ?_)
                        clear hK K
                        try simp only [Act.put, sa, s0, s1]
                        refine tk 21 qf16_5_11_21 (some 73) (v := ?v21) rfl rfl (by kernel_rfl) hHeld (by rfl) (fun _ _ _ h => h) (fun w h => ?y21) ?_; (case y21 => (try dsimp only at h); go_simp; try (with_reducible rfl)); try simp only [Act.put, sa, s0, s1]
                        refine wpAnyH_ready (rs := [22]) (by kernel_rfl) (by simp) ?_
                        refine (AllReadyH.cons (o := qf16_5_11_22) rfl (fun K hK => ?_) AllReadyH.nil)
                        · skip
                          have hbo := HN20.out.1
                          have o2 := hbo.cell 2 _ rfl
                          have f2 := hbo.free 2
                          have lo := hbo.lt
                          go_simp
                          obtain ⟨wE22, hq22⟩ : ∃ x, x = wE20.setCell ⟨bm, 2, none⟩ (.slice r20 ((manK L k).fTables.length + 1) q20) := ⟨_, rfl⟩
                          have HE : Hid (PSt w br bm gl L wE22 { (manK L k) with fTables := (manK L k).fTables ++ [⟨x1, x2, k3, k4⟩] } r20 q20) := by unfold Hid; rw [hq22]; exact HN20.out.2
                          have hK22 : wE22.cell? ⟨gw, 1, none⟩ = some (.string s1) ∧ wE22.cell? ⟨gw, 2, none⟩ = some (.string s2) ∧ wE22.cell? ⟨gw, 3, none⟩ = some (.string s3) ∧ wE22.cell? ⟨gw, 4, none⟩ = some (.string s4) := by rw [hq22]; exact wc_set hHeld hgb
                          have hop22 : True := trivial
                          rw [← hq22]
                          clear hq22 hbo o2 f2 lo
                          refine hK.out _ _ (hK22) (fun hHeld => ?_)
                          clear hK K
                          try simp only [Act.put, sa, s0, s1]
                          refine wpAnyH_done (by kernel_rfl) ?_ _
                          go_wp2_with fail
                          go_roundw
                          case rel => exact ⟨k + 1, r20, q20, by omega, by omega, by go_num, by rw [HSX.out, HTL.out]; exact HE⟩
                          case measure => simp [intOf]; omega
                · go_simp
                  have hD : (PSt w br bm gl L wE13 (manK L k) a c ∧ Below w2.heap.size w2 wE13) := by first | exact HD13.out | exact HD1.out
                  refine (HU4.out wE13).mono ?_
                  rintro e wE17 ⟨rfl, hxE⟩
                  have HD17 : Hid (PSt w br bm gl L wE17 (manK L k) a c ∧ Below w2.heap.size w2 wE17) := ⟨hD.1.under hxE, bthen hD.2 hxE⟩
                  have hK17 : wE17.cell? ⟨gw, 1, none⟩ = some (.string s1) ∧ wE17.cell? ⟨gw, 2, none⟩ = some (.string s2) ∧ wE17.cell? ⟨gw, 3, none⟩ = some (.string s3) ∧ wE17.cell? ⟨gw, 4, none⟩ = some (.string s4) := wc_under hHeld hxE
                  have hop17 : True := trivial
                  clear hxE hD
                  go_wp2_with fail
                  refine hK.out _ _ (hK17) (fun hHeld => ?_)
                  clear hK K
                  try simp only [Act.put, sa, s0, s1]
                  refine tk 18 qf16_5_11_18 (some 70) (v := ?v22) rfl rfl (by kernel_rfl) hHeld (by rfl) (fun _ _ _ h => h) (fun w h => ?y22) ?_; (case y22 => (try dsimp only at h); go_simp; try (with_reducible rfl)); try simp only [Act.put, sa, s0, s1]
                  refine wpAnyH_ready (rs := [1, 19]) (by kernel_rfl) (by simp) ?_
                  refine (AllReadyH.cons (o := qf16_5_11_1) rfl (fun K hK => ?_) (AllReadyH.cons (o := qf16_5_11_19) rfl (fun K hK => ?_) AllReadyH.nil))
                  · go_simp
                    have hD : (PSt w br bm gl L wE17 (manK L k) a c ∧ Below w2.heap.size w2 wE17) := by first | exact HD19.out | exact HD17.out | exact HD13.out | exact HD9.out | exact HD5.out | exact HDS.out
                    have p2 := hD.1.b.cell 2 _ rfl
                    go_simp
                    obtain ⟨wE1, hqL⟩ : ∃ x, x = wE17 := ⟨_, rfl⟩
                    have HD1 : Hid (PSt w br bm gl L wE1 (manK L k) a c ∧ Below w2.heap.size w2 wE1) := by unfold Hid; rw [hqL]; exact hD
                    have hK1 : wE1.cell? ⟨gw, 1, none⟩ = some (.string s1) ∧ wE1.cell? ⟨gw, 2, none⟩ = some (.string s2) ∧ wE1.cell? ⟨gw, 3, none⟩ = some (.string s3) ∧ wE1.cell? ⟨gw, 4, none⟩ = some (.string s4) := by rw [hqL]; exact hHeld
                    have hop1 : True := trivial
                    (try rw [← hqL] at HB19)
                    rw [← hqL]
                    clear hqL p2 hD
                    refine hK.out _ _ (hK1) (fun hHeld => ?_)
                    clear hK K
                    try simp only [Act.put, sa, s0, s1]
                    refine wpAnyH_ready (rs := [19]) (by kernel_rfl) (by simp) ?_
                    refine (AllReadyH.cons (o := qf16_5_11_19) rfl (fun K hK => ?_) AllReadyH.nil)
                    · go_simp
                      have hD : (PSt w br bm gl L wE1 (manK L k) a c ∧ Below w2.heap.size w2 wE1) := by first | exact HD17.out | exact HD1.out
                      obtain ⟨wE19, hq19⟩ : ∃ x, x = wE1.alloc (.cells (List.toArray [.int .i64 x1, .int .i64 x2, .string k3, .string k4]) 49) := ⟨_, rfl⟩
                      have hx19 : Below wE1.heap.size wE1 wE19 := by rw [hq19]; exact (Below.refl _ _).alloc (Nat.le_refl _) _
                      have HD19 : Hid (PSt w br bm gl L wE19 (manK L k) a c ∧ Below w2.heap.size w2 wE19) := ⟨hD.1.under hx19, bthen hD.2 hx19⟩
                      have hK19 : wE19.cell? ⟨gw, 1, none⟩ = some (.string s1) ∧ wE19.cell? ⟨gw, 2, none⟩ = some (.string s2) ∧ wE19.cell? ⟨gw, 3, none⟩ = some (.string s3) ∧ wE19.cell? ⟨gw, 4, none⟩ = some (.string s4) := wc_under hHeld hx19
                      have HB19 : Hid (Bx wE19 wE1.heap.size [.int .i64 x1, .int .i64 x2, .string k3, .string k4]) := by unfold Hid; rw [hq19]; exact Bx.new _ _ _
                      obtain ⟨g19, HG19⟩ : ∃ x, Hid (x = wE1.heap.size) := ⟨_, Hid.mk rfl⟩
                      rw [← HG19.out] at HB19 ⊢
                      have hop19 : True := trivial
                      rw [← hq19]
                      clear hq19 hx19 hD
                      refine hK.out _ _ (hK19) (fun hHeld => ?_)
                      clear hK K
                      try simp only [Act.put, sa, s0, s1]
                      refine wpAnyH_ready (rs := [20]) (by kernel_rfl) (by simp) ?_
                      refine (AllReadyH.cons (o := qf16_5_11_20) rfl (fun K hK => ?_) AllReadyH.nil)
                      · skip
                        have hD : (PSt w br bm gl L wE19 (manK L k) a c ∧ Below w2.heap.size w2 wE19) := by first | exact HD19.out | exact HD1.out
                        obtain ⟨xs, hxs, hpush⟩ := hD.1.push HPL.out
                        have HPU := Hid.mk hpush
                        clear hpush
                        refine step_append_src _ rfl _ _ 22 22 rfl 0 49 iT (.agg (List.toArray [.int .i64 0, .int .i64 0, .string ⟨#[]⟩, .string ⟨#[]⟩])) 4 48 Tryz.underlying22 hiT hz0 hz1 hz2 rfl (.slice a (manK L k).fTables.length c) (manK L k).fTables.length xs rfl hxs (.slice (some ⟨g19, 0, none⟩) 1 1) rfl 1 [.int .i64 x1, .int .i64 x2, .string k3, .string k4] (Src.meta Tryz.underlying22 HB19.out) (by unfold maxLen; omega) (by omega) (Nat.zero_le _) ?_
                        intro v20 wE20 ho20 hgr20 hat20
                        obtain ⟨r20, q20, rfl⟩ := own_slice ho20
                        have HN20 := Hid.mk (HPU.out _ wE20 x1 x2 k3 k4 hx1 hx2 hk3 hk4 ho20 hgr20 hat20 r20 q20 rfl)
                        have HPU2 : Value.ownBlock (.slice a (manK L k).fTables.length c) ≠ some gw := (by intro hh; obtain ⟨F9, ho9, _, _⟩ := hD.1.o; obtain ⟨cur9, hg9⟩ := blk_type ho9 gw hh; obtain ⟨cur8, hg8⟩ := HGT.out; rw [hD.2.block gw (Array.getElem?_eq_some_iff.1 hg8).1, hg8] at hg9; injection hg9 with hg9; injection hg9 with _ hg9; exact absurd hg9 (by decide))
                        have hK20 : wE20.cell? ⟨gw, 1, none⟩ = some (.string s1) ∧ wE20.cell? ⟨gw, 2, none⟩ = some (.string s2) ∧ wE20.cell? ⟨gw, 3, none⟩ = some (.string s3) ∧ wE20.cell? ⟨gw, 4, none⟩ = some (.string s4) := wc_grown hHeld hgr20 HPU2
                        have hop20 : True := trivial
                        clear hxs ho20 hat20 hgr20 hD
                        refine hK.out _ _ (hK20) (fun hHeld => ?_)
                        clear hK K
                        try simp only [Act.put, sa, s0, s1]
                        refine tk 21 qf16_5_11_21 (some 73) (v := ?v23) rfl rfl (by kernel_rfl) hHeld (by rfl) (fun _ _ _ h => h) (fun w h => ?y23) ?_; (case y23 => (try dsimp only at h); go_simp; try (with_reducible rfl)); try simp only [Act.put, sa, s0, s1]
                        refine wpAnyH_ready (rs := [22]) (by kernel_rfl) (by simp) ?_
                        refine (AllReadyH.cons (o := qf16_5_11_22) rfl (fun K hK => ?_) AllReadyH.nil)
                        · skip
                          have hbo := HN20.out.1
                          have o2 := hbo.cell 2 _ rfl
                          have f2 := hbo.free 2
                          have lo := hbo.lt
                          go_simp
                          obtain ⟨wE22, hq22⟩ : ∃ x, x = wE20.setCell ⟨bm, 2, none⟩ (.slice r20 ((manK L k).fTables.length + 1) q20) := ⟨_, rfl⟩
                          have HE : Hid (PSt w br bm gl L wE22 { (manK L k) with fTables := (manK L k).fTables ++ [⟨x1, x2, k3, k4⟩] } r20 q20) := by unfold Hid; rw [hq22]; exact HN20.out.2
                          have hK22 : wE22.cell? ⟨gw, 1, none⟩ = some (.string s1) ∧ wE22.cell? ⟨gw, 2, none⟩ = some (.string s2) ∧ wE22.cell? ⟨gw, 3, none⟩ = some (.string s3) ∧ wE22.cell? ⟨gw, 4, none⟩ = some (.string s4) := by rw [hq22]; exact wc_set hHeld hgb
                          have hop22 : True := trivial
                          rw [← hq22]
                          clear hq22 hbo o2 f2 lo
                          refine hK.out _ _ (hK22) (fun hHeld => ?_)
                          clear hK K
                          try simp only [Act.put, sa, s0, s1]
                          refine wpAnyH_done (by kernel_rfl) ?_ _
                          go_wp2_with fail
                          go_roundw
                          case rel => exact ⟨k + 1, r20, q20, by omega, by omega, by go_num, by rw [HSX.out, HTL.out]; exact HE⟩
                          case measure => simp [intOf]; omega
                  · go_simp
                    have hD : (PSt w br bm gl L wE17 (manK L k) a c ∧ Below w2.heap.size w2 wE17) := by first | exact HD17.out | exact HD1.out
                    obtain ⟨wE19, hq19⟩ : ∃ x, x = wE17.alloc (.cells (List.toArray [.int .i64 x1, .int .i64 x2, .string k3, .string k4]) 49) := ⟨_, rfl⟩
                    have hx19 : Below wE17.heap.size wE17 wE19 := by rw [hq19]; exact (Below.refl _ _).alloc (Nat.le_refl _) _
                    have HD19 : Hid (PSt w br bm gl L wE19 (manK L k) a c ∧ Below w2.heap.size w2 wE19) := ⟨hD.1.under hx19, bthen hD.2 hx19⟩
                    have hK19 : wE19.cell? ⟨gw, 1, none⟩ = some (.string s1) ∧ wE19.cell? ⟨gw, 2, none⟩ = some (.string s2) ∧ wE19.cell? ⟨gw, 3, none⟩ = some (.string s3) ∧ wE19.cell? ⟨gw, 4, none⟩ = some (.string s4) := wc_under hHeld hx19
                    have HB19 : Hid (Bx wE19 wE17.heap.size [.int .i64 x1, .int .i64 x2, .string k3, .string k4]) := by unfold Hid; rw [hq19]; exact Bx.new _ _ _
                    obtain ⟨g19, HG19⟩ : ∃ x, Hid (x = wE17.heap.size) := ⟨_, Hid.mk rfl⟩
                    rw [← HG19.out] at HB19 ⊢
                    have hop19 : True := trivial
                    rw [← hq19]
                    clear hq19 hx19 hD
                    refine hK.out _ _ (hK19) (fun hHeld => ?_)
                    clear hK K
                    try simp only [Act.put, sa, s0, s1]
                    refine wpAnyH_ready (rs := [1]) (by kernel_rfl) (by simp) ?_
                    refine (AllReadyH.cons (o := qf16_5_11_1) rfl (fun K hK => ?_) AllReadyH.nil)
                    · go_simp
                      have hD : (PSt w br bm gl L wE19 (manK L k) a c ∧ Below w2.heap.size w2 wE19) := by first | exact HD19.out | exact HD17.out | exact HD13.out | exact HD9.out | exact HD5.out | exact HDS.out
                      have p2 := hD.1.b.cell 2 _ rfl
                      go_simp
                      obtain ⟨wE1, hqL⟩ : ∃ x, x = wE19 := ⟨_, rfl⟩
                      have HD1 : Hid (PSt w br bm gl L wE1 (manK L k) a c ∧ Below w2.heap.size w2 wE1) := by unfold Hid; rw [hqL]; exact hD
                      have hK1 : wE1.cell? ⟨gw, 1, none⟩ = some (.string s1) ∧ wE1.cell? ⟨gw, 2, none⟩ = some (.string s2) ∧ wE1.cell? ⟨gw, 3, none⟩ = some (.string s3) ∧ wE1.cell? ⟨gw, 4, none⟩ = some (.string s4) := by rw [hqL]; exact hHeld
                      have hop1 : True := trivial
                      (try rw [← hqL] at HB19)
                      rw [← hqL]
                      clear hqL p2 hD
                      refine hK.out _ _ (hK1) (fun hHeld => ?_)
                      clear hK K
                      try simp only [Act.put, sa, s0, s1]
                      refine wpAnyH_ready (rs := [20]) (by kernel_rfl) (by simp) ?_
                      refine (AllReadyH.cons (o := qf16_5_11_20) rfl (fun K hK => ?_) AllReadyH.nil)
                      · skip
                        have hD : (PSt w br bm gl L wE1 (manK L k) a c ∧ Below w2.heap.size w2 wE1) := by first | exact HD19.out | exact HD1.out
                        obtain ⟨xs, hxs, hpush⟩ := hD.1.push HPL.out
                        have HPU := Hid.mk hpush
                        clear hpush
                        refine step_append_src _ rfl _ _ 22 22 rfl 0 49 iT (.agg (List.toArray [.int .i64 0, .int .i64 0, .string ⟨#[]⟩, .string ⟨#[]⟩])) 4 48 Tryz.underlying22 hiT hz0 hz1 hz2 rfl (.slice a (manK L k).fTables.length c) (manK L k).fTables.length xs rfl hxs (.slice (some ⟨g19, 0, none⟩) 1 1) rfl 1 [.int .i64 x1, .int .i64 x2, .string k3, .string k4] (Src.meta Tryz.underlying22 HB19.out) (by unfold maxLen; omega) (by omega) (Nat.zero_le _) ?_
                        intro v20 wE20 ho20 hgr20 hat20
                        obtain ⟨r20, q20, rfl⟩ := own_slice ho20
                        have HN20 := Hid.mk (HPU.out _ wE20 x1 x2 k3 k4 hx1 hx2 hk3 hk4 ho20 hgr20 hat20 r20 q20 rfl)
                        have HPU2 : Value.ownBlock (.slice a (manK L k).fTables.length c) ≠ some gw := (by intro hh; obtain ⟨F9, ho9, _, _⟩ := hD.1.o; obtain ⟨cur9, hg9⟩ := blk_type ho9 gw hh; obtain ⟨cur8, hg8⟩ := HGT.out; rw [hD.2.block gw (Array.getElem?_eq_some_iff.1 hg8).1, hg8] at hg9; injection hg9 with hg9; injection hg9 with _ hg9; exact absurd hg9 (by decide))
                        have hK20 : wE20.cell? ⟨gw, 1, none⟩ = some (.string s1) ∧ wE20.cell? ⟨gw, 2, none⟩ = some (.string s2) ∧ wE20.cell? ⟨gw, 3, none⟩ = some (.string s3) ∧ wE20.cell? ⟨gw, 4, none⟩ = some (.string s4) := wc_grown hHeld hgr20 HPU2
                        have hop20 : True := trivial
                        clear hxs ho20 hat20 hgr20 hD
                        refine hK.out _ _ (hK20) (fun hHeld => ?_)
                        clear hK K
                        try simp only [Act.put, sa, s0, s1]
                        refine tk 21 qf16_5_11_21 (some 73) (v := ?v24) rfl rfl (by kernel_rfl) hHeld (by rfl) (fun _ _ _ h => h) (fun w h => ?y24) ?_; (case y24 => (try dsimp only at h); go_simp; try (with_reducible rfl)); try simp only [Act.put, sa, s0, s1]
                        refine wpAnyH_ready (rs := [22]) (by kernel_rfl) (by simp) ?_
                        refine (AllReadyH.cons (o := qf16_5_11_22) rfl (fun K hK => ?_) AllReadyH.nil)
                        · skip
                          have hbo := HN20.out.1
                          have o2 := hbo.cell 2 _ rfl
                          have f2 := hbo.free 2
                          have lo := hbo.lt
                          go_simp
                          obtain ⟨wE22, hq22⟩ : ∃ x, x = wE20.setCell ⟨bm, 2, none⟩ (.slice r20 ((manK L k).fTables.length + 1) q20) := ⟨_, rfl⟩
                          have HE : Hid (PSt w br bm gl L wE22 { (manK L k) with fTables := (manK L k).fTables ++ [⟨x1, x2, k3, k4⟩] } r20 q20) := by unfold Hid; rw [hq22]; exact HN20.out.2
                          have hK22 : wE22.cell? ⟨gw, 1, none⟩ = some (.string s1) ∧ wE22.cell? ⟨gw, 2, none⟩ = some (.string s2) ∧ wE22.cell? ⟨gw, 3, none⟩ = some (.string s3) ∧ wE22.cell? ⟨gw, 4, none⟩ = some (.string s4) := by rw [hq22]; exact wc_set hHeld hgb
                          have hop22 : True := trivial
                          rw [← hq22]
                          clear hq22 hbo o2 f2 lo
                          refine hK.out _ _ (hK22) (fun hHeld => ?_)
                          clear hK K
                          try simp only [Act.put, sa, s0, s1]
                          refine wpAnyH_done (by kernel_rfl) ?_ _
                          go_wp2_with fail
                          go_roundw
                          case rel => exact ⟨k + 1, r20, q20, by omega, by omega, by go_num, by rw [HSX.out, HTL.out]; exact HE⟩
                          case measure => simp [intOf]; omega
        · have HTL : Hid (takeL k WD (manK L k) = manK L k) := by
            show _ = _
            unfold takeL
            rw [if_neg hk0, if_neg h5]
          have e5 : ((WD.length : Int) == 5) = false := beq_eq_false_iff_ne.2 (by omega)
          go_wp2_with fail
          go_roundw
          case rel => exact ⟨k + 1, a, c, by omega, by omega, by go_num, by rw [HSX.out, HTL.out]; exact HST⟩
          case measure => simp [intOf]; omega
    · have HM : Hid (manK L k = SM) := HEX.out k hk30 hkL hgo
      rw [HM.out] at HST
      have HWM : Hid (wManifest SM ≤ 1048576) := by show _ ≤ _; rw [← HM.out]; exact HLW.out k hk30 hkL
      have hng : ¬ ((k : Int) < (L.length : Int) ∧ (k : Int) < 30) := by omega
      clear HLW HLP HEX HM
      have hbo := HST.out.b
      have p0 := hbo.cell 0 _ rfl
      have p1 := hbo.cell 1 _ rfl
      have p2 := hbo.cell 2 _ rfl
      have HRM := Hid.mk HST.out.read
      by_cases hk1 : k < L.length
      · have hk2 : ¬ (k : Int) < 30 := by omega
        have hk3 : (k : Int) < (L.length : Int) := by omega
        go_wp2_with fail
        refine (specManOk_c _ SM wr HRM.out HWM.out).mono ?_
        rintro e w3 ⟨rfl, hx3⟩
        replace HST := Hid.mk (HST.out.under hx3)
        clear p0 p1 p2 hbo HRM hx3
        have hbo := HST.out.b
        have p0 := hbo.cell 0 _ rfl
        have p1 := hbo.cell 1 _ rfl
        have p2 := hbo.cell 2 _ rfl
        have HRM := Hid.mk HST.out.read
        by_cases hok : manOkP SM = true
        · rw [hok]
          go_wp2_with fail
          refine (specManText_c _ SM w3 HRM.out HWM.out).mono ?_
          rintro e w4 ⟨rfl, hx4⟩
          replace HST := Hid.mk (HST.out.under hx4)
          clear p0 p1 p2 hbo HRM hx4
          by_cases ht : manTextP SM = s
          · have HPE : Hid (PM = (SM, true)) := by show _ = _; rw [HPM.out, if_pos ⟨hok, ht⟩]
            have hkk := k_same ht
            generalize manTextP SM = tx at hkk ht ⊢
            clear ht hok
            have hbo := HST.out.b
            have hbr := HST.out.r
            have p0 := hbo.cell 0 _ rfl
            have p1 := hbo.cell 1 _ rfl
            have p2 := hbo.cell 2 _ rfl
            have q0 := hbr.cell 0 _ rfl
            have q1 := hbr.cell 1 _ rfl
            have q2 := hbr.cell 2 _ rfl
            have e0 := hbr.free 0
            have e1 := hbr.free 1
            have e2 := hbr.free 2
            have lr := hbr.lt
            have HP := Hid.mk (fun W (hT : Turn [br] w4 W) => PSt.leave HPL.out HST.out hT)
            clear hbo hbr HST
            go_wp2_with fail
            obtain ⟨h1, h2⟩ := HP.out _ (turn3 w4 br (.int .i64 SM.fNext) (.int .i64 SM.fLog) (.slice a SM.fTables.length c))
            refine bodyPost_ret (v := .tuple #[.agg #[.int .i64 SM.fNext, .int .i64 SM.fLog, .slice a SM.fTables.length c], .bool true]) (by simp [results, Tryz.results5, go_sem, *]) rfl ⟨[.int .i64 SM.fNext, .int .i64 SM.fLog, .slice a SM.fTables.length c], by rw [HPE.out], by rw [HPE.out]; exact h1, h2⟩
          · have HPE : Hid (PM = (⟨0, 0, []⟩, false)) := by show _ = _; rw [HPM.out, if_neg (fun h => ht h.2)]
            have hkk := k_ne ht
            generalize manTextP SM = tx at hkk ht ⊢
            clear ht hok
            have hbr := HST.out.r
            have q0 := hbr.cell 0 _ rfl
            have q1 := hbr.cell 1 _ rfl
            have q2 := hbr.cell 2 _ rfl
            have e0 := hbr.free 0
            have e1 := hbr.free 1
            have e2 := hbr.free 2
            have lr := hbr.lt
            have HP := Hid.mk (fun W (hT : Turn [br] w4 W) => (PSt.leave HPL.out HST.out hT).2)
            clear hbr HST
            go_wp2_with fail
            have h2 := HP.out _ (turn3 w4 br (.int .i64 0) (.int .i64 0) (.slice none 0 0))
            refine bodyPost_ret (v := .tuple #[.agg #[.int .i64 0, .int .i64 0, .slice none 0 0], .bool false]) (by simp [results, Tryz.results5, go_sem, *]) rfl ⟨[.int .i64 0, .int .i64 0, .slice none 0 0], by rw [HPE.out], by rw [HPE.out]; exact ⟨none, 0, rfl, rfl, rfl, ⟨Nat.le_refl _, by omega, fun j hj => by cases hj⟩, trivial⟩, h2⟩
        · have hok2 := Bool.eq_false_iff.2 hok
          have HPE : Hid (PM = (⟨0, 0, []⟩, false)) := by show _ = _; rw [HPM.out, if_neg (fun h => hok h.1)]
          rw [hok2]
          clear hok hok2 p0 p1 p2 hbo HRM
          have hbr := HST.out.r
          have q0 := hbr.cell 0 _ rfl
          have q1 := hbr.cell 1 _ rfl
          have q2 := hbr.cell 2 _ rfl
          have e0 := hbr.free 0
          have e1 := hbr.free 1
          have e2 := hbr.free 2
          have lr := hbr.lt
          have HP := Hid.mk (fun W (hT : Turn [br] w3 W) => (PSt.leave HPL.out HST.out hT).2)
          clear hbr HST
          go_wp2_with fail
          have h2 := HP.out _ (turn3 w3 br (.int .i64 0) (.int .i64 0) (.slice none 0 0))
          refine bodyPost_ret (v := .tuple #[.agg #[.int .i64 0, .int .i64 0, .slice none 0 0], .bool false]) (by simp [results, Tryz.results5, go_sem, *]) rfl ⟨[.int .i64 0, .int .i64 0, .slice none 0 0], by rw [HPE.out], by rw [HPE.out]; exact ⟨none, 0, rfl, rfl, rfl, ⟨Nat.le_refl _, by omega, fun j hj => by cases hj⟩, trivial⟩, h2⟩
      · have hk3 : ¬ (k : Int) < (L.length : Int) := by omega
        go_wp2_with fail
        refine (specManOk_c _ SM wr HRM.out HWM.out).mono ?_
        rintro e w3 ⟨rfl, hx3⟩
        replace HST := Hid.mk (HST.out.under hx3)
        clear p0 p1 p2 hbo HRM hx3
        have hbo := HST.out.b
        have p0 := hbo.cell 0 _ rfl
        have p1 := hbo.cell 1 _ rfl
        have p2 := hbo.cell 2 _ rfl
        have HRM := Hid.mk HST.out.read
        by_cases hok : manOkP SM = true
        · rw [hok]
          go_wp2_with fail
          refine (specManText_c _ SM w3 HRM.out HWM.out).mono ?_
          rintro e w4 ⟨rfl, hx4⟩
          replace HST := Hid.mk (HST.out.under hx4)
          clear p0 p1 p2 hbo HRM hx4
          by_cases ht : manTextP SM = s
          · have HPE : Hid (PM = (SM, true)) := by show _ = _; rw [HPM.out, if_pos ⟨hok, ht⟩]
            have hkk := k_same ht
            generalize manTextP SM = tx at hkk ht ⊢
            clear ht hok
            have hbo := HST.out.b
            have hbr := HST.out.r
            have p0 := hbo.cell 0 _ rfl
            have p1 := hbo.cell 1 _ rfl
            have p2 := hbo.cell 2 _ rfl
            have q0 := hbr.cell 0 _ rfl
            have q1 := hbr.cell 1 _ rfl
            have q2 := hbr.cell 2 _ rfl
            have e0 := hbr.free 0
            have e1 := hbr.free 1
            have e2 := hbr.free 2
            have lr := hbr.lt
            have HP := Hid.mk (fun W (hT : Turn [br] w4 W) => PSt.leave HPL.out HST.out hT)
            clear hbo hbr HST
            go_wp2_with fail
            obtain ⟨h1, h2⟩ := HP.out _ (turn3 w4 br (.int .i64 SM.fNext) (.int .i64 SM.fLog) (.slice a SM.fTables.length c))
            refine bodyPost_ret (v := .tuple #[.agg #[.int .i64 SM.fNext, .int .i64 SM.fLog, .slice a SM.fTables.length c], .bool true]) (by simp [results, Tryz.results5, go_sem, *]) rfl ⟨[.int .i64 SM.fNext, .int .i64 SM.fLog, .slice a SM.fTables.length c], by rw [HPE.out], by rw [HPE.out]; exact h1, h2⟩
          · have HPE : Hid (PM = (⟨0, 0, []⟩, false)) := by show _ = _; rw [HPM.out, if_neg (fun h => ht h.2)]
            have hkk := k_ne ht
            generalize manTextP SM = tx at hkk ht ⊢
            clear ht hok
            have hbr := HST.out.r
            have q0 := hbr.cell 0 _ rfl
            have q1 := hbr.cell 1 _ rfl
            have q2 := hbr.cell 2 _ rfl
            have e0 := hbr.free 0
            have e1 := hbr.free 1
            have e2 := hbr.free 2
            have lr := hbr.lt
            have HP := Hid.mk (fun W (hT : Turn [br] w4 W) => (PSt.leave HPL.out HST.out hT).2)
            clear hbr HST
            go_wp2_with fail
            have h2 := HP.out _ (turn3 w4 br (.int .i64 0) (.int .i64 0) (.slice none 0 0))
            refine bodyPost_ret (v := .tuple #[.agg #[.int .i64 0, .int .i64 0, .slice none 0 0], .bool false]) (by simp [results, Tryz.results5, go_sem, *]) rfl ⟨[.int .i64 0, .int .i64 0, .slice none 0 0], by rw [HPE.out], by rw [HPE.out]; exact ⟨none, 0, rfl, rfl, rfl, ⟨Nat.le_refl _, by omega, fun j hj => by cases hj⟩, trivial⟩, h2⟩
        · have hok2 := Bool.eq_false_iff.2 hok
          have HPE : Hid (PM = (⟨0, 0, []⟩, false)) := by show _ = _; rw [HPM.out, if_neg (fun h => hok h.1)]
          rw [hok2]
          clear hok hok2 p0 p1 p2 hbo HRM
          have hbr := HST.out.r
          have q0 := hbr.cell 0 _ rfl
          have q1 := hbr.cell 1 _ rfl
          have q2 := hbr.cell 2 _ rfl
          have e0 := hbr.free 0
          have e1 := hbr.free 1
          have e2 := hbr.free 2
          have lr := hbr.lt
          have HP := Hid.mk (fun W (hT : Turn [br] w3 W) => (PSt.leave HPL.out HST.out hT).2)
          clear hbr HST
          go_wp2_with fail
          have h2 := HP.out _ (turn3 w3 br (.int .i64 0) (.int .i64 0) (.slice none 0 0))
          refine bodyPost_ret (v := .tuple #[.agg #[.int .i64 0, .int .i64 0, .slice none 0 0], .bool false]) (by simp [results, Tryz.results5, go_sem, *]) rfl ⟨[.int .i64 0, .int .i64 0, .slice none 0 0], by rw [HPE.out], by rw [HPE.out]; exact ⟨none, 0, rfl, rfl, rfl, ⟨Nat.le_refl _, by omega, fun j hj => by cases hj⟩, trivial⟩, h2⟩

end Go.Proofs.YtnohnkcijomdjaaGreatDoor
