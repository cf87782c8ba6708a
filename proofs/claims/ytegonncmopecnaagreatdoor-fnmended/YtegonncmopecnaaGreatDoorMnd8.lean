/-
  Part 9 of the texts that the proof leans on.
-/
import Derived.Test.YtegonncmopecnaaGreatDoorMnd0
import Derived.Test.YtegonncmopecnaaGreatDoorMnd3
import Derived.Test.YtegonncmopecnaaGreatDoorMnd6
import Derived.Test.YtegonncmopecnaaGreatDoorMnd7
import Derived.Test.YtegonncmopecnaaGreatDoorMnd2
import Derived.Deep.RegionHeld3
set_option linter.unusedVariables false
set_option linter.unusedSimpArgs false
set_option maxRecDepth 10000

namespace Go.Proofs.YtegonncmopecnaaGreatDoor
open Go.RowKit Go.Maps
abbrev q9a7_77_5_0 : Oper := ⟨some 13, .fieldAddr 27 (.tmp 1) 1, 0, "l02_files.go:118", #[], none⟩
abbrev q9a7_77_5_1 : Oper := ⟨some 14, .load 25 (.tmp 13), 25, "l02_files.go:118", #[⟨0, .data⟩], none⟩
abbrev q9a7_77_5_2 : Oper := ⟨some 15, .fieldAddr 27 (.tmp 1) 0, 0, "l02_files.go:118", #[], none⟩
abbrev q9a7_77_5_3 : Oper := ⟨some 16, .load 24 (.tmp 15), 24, "l02_files.go:118", #[⟨2, .data⟩], none⟩
abbrev q9a7_77_5_4 : Oper := ⟨some 17, .move (.tmp 4), 3, "l02_files.go:118", #[], none⟩
abbrev q9a7_77_5_5 : Oper := ⟨some 18, .indexAddr 24 (.tmp 16) (.tmp 17), 0, "l02_files.go:118", #[⟨3, .data⟩, ⟨4, .data⟩], none⟩
abbrev q9a7_77_5_6 : Oper := ⟨some 19, .fieldAddr 50 (.tmp 18) 0, 0, "l02_files.go:118", #[⟨5, .data⟩], none⟩
abbrev q9a7_77_5_7 : Oper := ⟨some 20, .load 3 (.tmp 19), 3, "l02_files.go:118", #[⟨6, .data⟩], none⟩
abbrev q9a7_77_5_8 : Oper := ⟨some 21, .call { callee := .value (.func 83), args := #[.tmp 14, .tmp 20], argTypes := #[25, 3] }, 4, "l02_files.go:118", #[⟨1, .data⟩, ⟨7, .data⟩], none⟩
abbrev q9a7_77_5_9 : Oper := ⟨some 22, .move (.tmp 21), 4, "l02_files.go:118", #[⟨8, .data⟩, ⟨8, .chain⟩], none⟩
abbrev q9a7_77_5_10 : Oper := ⟨some 23, .fieldAddr 27 (.tmp 1) 2, 0, "l02_files.go:118", #[⟨9, .guard⟩], some (9, false)⟩
abbrev q9a7_77_5_11 : Oper := ⟨some 24, .load 25 (.tmp 23), 25, "l02_files.go:118", #[⟨10, .data⟩, ⟨9, .guard⟩], some (9, false)⟩
abbrev q9a7_77_5_12 : Oper := ⟨some 25, .fieldAddr 27 (.tmp 1) 0, 0, "l02_files.go:118", #[⟨9, .guard⟩], some (9, false)⟩
abbrev q9a7_77_5_13 : Oper := ⟨some 26, .load 24 (.tmp 25), 24, "l02_files.go:118", #[⟨12, .data⟩, ⟨9, .guard⟩], some (9, false)⟩
abbrev q9a7_77_5_14 : Oper := ⟨some 27, .move (.tmp 4), 3, "l02_files.go:118", #[⟨9, .guard⟩], some (9, false)⟩
abbrev q9a7_77_5_15 : Oper := ⟨some 28, .indexAddr 24 (.tmp 26) (.tmp 27), 0, "l02_files.go:118", #[⟨13, .data⟩, ⟨14, .data⟩, ⟨9, .guard⟩], some (9, false)⟩
abbrev q9a7_77_5_16 : Oper := ⟨some 29, .fieldAddr 50 (.tmp 28) 0, 0, "l02_files.go:118", #[⟨15, .data⟩, ⟨9, .guard⟩], some (9, false)⟩
abbrev q9a7_77_5_17 : Oper := ⟨some 30, .load 3 (.tmp 29), 3, "l02_files.go:118", #[⟨16, .data⟩, ⟨9, .guard⟩], some (9, false)⟩
abbrev q9a7_77_5_18 : Oper := ⟨some 31, .call { callee := .value (.func 83), args := #[.tmp 24, .tmp 30], argTypes := #[25, 3] }, 4, "l02_files.go:118", #[⟨11, .data⟩, ⟨17, .data⟩, ⟨9, .chain⟩, ⟨9, .guard⟩], some (9, false)⟩
abbrev q9a7_77_5_19 : Oper := ⟨some 32, .pick (.tmp 22) (.const (.bool true)) (.tmp 31), 4, "l02_files.go:118", #[⟨9, .data⟩, ⟨18, .data⟩], none⟩
def repO (F0 : List Nat) : Rep MInode := fun B w cs m => ∃ Fk, oInode w cs m Fk /\ ∀ b, b ∈ Fk -> b ∈ F0 /\ b < B
theorem repO_good (F0 : List Nat) : (repO F0).Good :=
 ⟨fun ⟨Fk, h1, h2⟩ hb => ⟨Fk, oInode_good.frame h1 (fun b hbF => hb.block b (h2 b hbF).2), h2⟩, fun ⟨Fk, h1, h2⟩ hB => ⟨Fk, h1, fun b hb => ⟨(h2 b hb).1, Nat.lt_of_lt_of_le (h2 b hb).2 hB⟩⟩⟩
theorem repO_read (F0 : List Nat) : ∀ B w cs m, repO F0 B w cs m -> rInode B w cs m := by
 rintro B w cs m ⟨Fk, ⟨v1, F1, rfl, h0, h1, h2, rfl⟩, hF⟩
 obtain ⟨h3, h4, rfl⟩ := h1
 rcases h3.2 with ⟨rfl, h'⟩ | ⟨g, cap, cur, rfl, hb, hg, hnc, hm, _⟩
 ·exact ⟨none, 0, by rw [h'], h0, ⟨by omega, by omega, fun j hj => by omega, h4⟩, h2, trivial⟩
 ·have hgB := (hF g (by simp [Value.ownBlock])).2
  refine ⟨_, cap, rfl, h0, ⟨hnc, by simpa [maxLen] using hm, fun j hj => ?_, h4⟩, h2, trivial⟩
  obtain ⟨b, off, e, _, hc⟩ := Rd.own rfl h3 j hj
  simp only [Option.some.injEq, Addr.mk.injEq, and_true] at e
  obtain ⟨rfl, rfl⟩ := e
  exact ⟨g, 0, rfl, hgB, hc⟩
theorem ownS.leafO {e : TypeId} {w : World} {a : Option Addr} {c : Nat} {l : List MInode} {F : List Nat} (h : ownS 3 e oInode w (.slice a l.length c) l F) : LeafL 3 (repO F) w.heap.size w a c l := by
 rcases h with ⟨h1, rfl, _⟩ | ⟨g, cap, cur, Fs, h1, h2, h3, h4, h5, h6, h7, rfl⟩
 ·simp only [List.length_nil, Value.slice.injEq, true_and] at h1
  obtain ⟨rfl, rfl⟩ := h1
  exact ⟨by simp, by omega, fun j hj => by simp at hj⟩
 ·simp only [Value.slice.injEq, true_and] at h1
  obtain ⟨rfl, rfl⟩ := h1
  refine ⟨h3, by simpa [maxLen] using h4, fun j hj => ⟨g, 0, rfl, (Array.getElem?_eq_some_iff.1 h2).1, _, oInode_good.len (h7 j hj), ?_, _, h7 j hj, fun b hb => ⟨List.mem_cons_of_mem _ (mem_flatten_getD (by omega) hb), oInode_good.lt (h7 j hj) b hb⟩⟩⟩
  intro i u hu
  rw [Nat.zero_add, cell_of_row w g _ cur e (0, 0) h2]
  rw [List.getElem?_take] at hu
  split at hu
  ·rw [List.getElem?_drop] at hu
   simpa using hu
  ·cases hu
theorem pickF {F0 : List Nat} {B : Nat} {w : World} : ∀ {l : List MInode} {css : List (List Value)}, css.length = l.length -> (∀ j, (h : j < l.length) -> (h2 : j < css.length) -> repO F0 B w css[j] l[j]) ->
  ∃ Fs : List (List Nat), Fs.length = l.length /\ (∀ j, (h : j < l.length) -> (h2 : j < css.length) -> oInode w css[j] l[j] (Fs.getD j [])) /\ ∀ b, b ∈ Fs.flatten -> b ∈ F0 /\ b < B
 | [], [], _, _ => ⟨[], rfl, fun j h => by simp at h, fun b hb => by simp at hb⟩
 | m :: l, c :: css, hl, h => by
  obtain ⟨Fs, f1, f2, f3⟩ := pickF (l := l) (css := css) (by simpa using hl) (fun j h1 h2 => h (j + 1) (by simpa using h1) (by simpa using h2))
  obtain ⟨Fk, g1, g2⟩ := h 0 (by simp) (by simp)
  refine ⟨Fk :: Fs, by simp [f1], fun j h1 h2 => ?_, fun b hb => ?_⟩
  ·cases j with
   | zero => exact g1
   | succ j => exact f2 j (by simpa using h1) (by simpa using h2)
  ·rw [List.flatten_cons, List.mem_append] at hb
   rcases hb with hb | hb
   ·exact g2 b hb
   ·exact f3 b hb
 | [], _ :: _, hl, _ => by simp at hl
 | _ :: _, [], hl, _ => by simp at hl
theorem RowR.own {F0 : List Nat} {B base : Nat} {e : TypeId} {w : World} {v : Value} {l : List MInode} (h : RowR 3 e (repO F0) B w base v l) : ∃ F', ownS 3 e oInode w v l F' /\ ∀ b, b ∈ F' -> b ∈ F0 ∨ base <= b := by
 obtain ⟨css, r1, r2, r3, r4⟩ := h
 obtain ⟨Fs, f1, f2, f3⟩ := pickF r1 r3
 rcases r4.2 with ⟨rfl, h0⟩ | ⟨g, cap, cur, rfl, hb, hg, hnc, hm, hs, ht⟩
 ·exact ⟨[], .inl ⟨rfl, List.eq_nil_of_length_eq_zero h0, rfl⟩, fun b hb => by cases hb⟩
 ·refine ⟨g :: Fs.flatten, .inr ⟨g, cap, cur, Fs, rfl, hg, hnc, hm, hs, f1, fun j hj => ?_, rfl⟩, fun b hbF => ?_⟩
  ·have hj2 : j < css.length := by omega
   have hmul : (j + 1) * 3 <= l.length * 3 := Nat.mul_le_mul_right _ hj
   have e0 : (cur.toList.drop (j * 3)).take 3 = css[j] := by
    rw [<- flat_part r2 hj2, <- ht]
    apply List.ext_getElem?
    intro i
    rw [List.getElem?_take, List.getElem?_take, List.getElem?_drop, List.getElem?_drop, List.getElem?_take]
    by_cases hi : i < 3
    ·rw [if_pos hi, if_pos hi, if_pos (by omega)]
    ·rw [if_neg hi, if_neg hi]
   rw [e0]
   exact f2 j hj hj2
  ·rcases List.mem_cons.1 hbF with rfl | hbF
   ·exact .inr hb
   ·exact .inl (f3 b hbF).1
theorem RowR.turn {α : Type} {size : Nat} {e : TypeId} {R : Rep α} (hR : R.Good) {F : List Nat} {B : Nat} {w w' : World} {base base' : Nat} {v : Value} {l : List α} (h : RowR size e R B w base v l) (hT : Turn F w w') (hF : ∀ k, k ∈ F -> B <= k /\ k < base) (hB : B <= w.heap.size) (hb : base' <= base) : RowR size e R B w' base' v l := by
 obtain ⟨css, r1, r2, r3, r4⟩ := h
 exact ⟨css, r1, r2, fun j h1 h2 => hR.below (r3 j h1 h2) (hT.below (fun k hk => (hF k hk).1) hB), own_base (own_of_block r4 (fun k hk => hT.block k (r4.lt k hk).2 (fun hm => by have := (r4.lt k hk).1; have := (hF k hm).2; omega))) hb⟩
set_option maxHeartbeats 4000000 in
theorem l2Keep_any (R : Rep MInode) (hR : R.Good) (hRI : ∀ B w cs m, R B w cs m -> rInode B w cs m) (a0 a1 a2 : Option Addr) (c0 c1 c2 : Nat) (m : MDisk) (w : World) (B : Nat) (hBB : B <= w.heap.size) (hI : LeafL 3 R B w a0 c0 m.fInodes) (hNm : LeafL 2 rEntry w.heap.size w a1 c1 m.fNames) (hSf : LeafL 2 rEntry w.heap.size w a2 c2 m.fSafe) (hw : m.fInodes.length <= 1048576 /\ m.fNames.length <= 1048576 /\ m.fSafe.length <= 1048576) :
  Calls Tryz.prog 77 #[.agg #[.slice a0 m.fInodes.length c0, .slice a1 m.fNames.length c1, .slice a2 m.fSafe.length c2, .int .i64 m.fNext]] w fun e w' => ∃ (a : Option Addr) (c : Nat), e = .returned (.agg #[.slice a (keepI m).length c, .slice a1 m.fNames.length c1, .slice a2 m.fSafe.length c2, .int .i64 m.fNext]) /\ RowR 3 50 R B w' w.heap.size (.slice a (keepI m).length c) (keepI m) /\ Below w.heap.size w w' := by
 obtain ⟨hw0, hw1, hw2⟩ := hw
 obtain ⟨i0, hi, hz0, hz1, hz2⟩ := info_parts Tryz.infoOfInode
 have HI := Hm hI.2.2
 have HN := Hm hNm.2.2
 have HS := Hm hSf.2.2
 clear hI hNm hSf
 go_enter Tryz.func77, Tryz.ntmps77
 go_wp2_with fail
 go_loopw [3, 4] (fun v i wr => ∃ k : Nat, k <= m.fInodes.length /\ i = .int .i64 k /\ RowR 3 50 R B wr (w.heap.size + 2) v ((m.fInodes.take k).filter (isNamed m)) /\ Below w.heap.size w wr /\ Bw wr w.heap.size 27 [.slice a0 m.fInodes.length c0, .slice a1 m.fNames.length c1, .slice a2 m.fSafe.length c2, .int .i64 m.fNext] /\ Bw wr (w.heap.size + 1) 27 [.slice none 0 0, .slice none 0 0, .slice none 0 0, .int .i64 0]) (fun _ i _ => m.fInodes.length - (intOf i).toNat)
 case atStart =>
  refine ⟨0, Nat.zero_le _, rfl, ⟨[], rfl, (fun _ h => by cases h), (fun _ h => by simp at h), ?_⟩, Below.alloc (Below.alloc (Below.alloc rB rN _) (by simp) _) (by simp; omega) _, Bw.alloc (Bw.alloc (Bw.new _ _ _) _) _, Bw.alloc (Bw.new' _ _ _ (by simp)) _⟩
  have h := own_lit0 ((w.alloc (.cells #[.slice a0 m.fInodes.length c0, .slice a1 m.fNames.length c1, .slice a2 m.fSafe.length c2, .int .i64 m.fNext] 27)).alloc (.cells #[.slice none 0 0, .slice none 0 0, .slice none 0 0, .int .i64 0] 27)) (w.heap.size + 2) 50 3 (by simp)
  simpa using h
 case round =>
  obtain ⟨k, hk, rfl, hrow, hbk, hbd, hbr⟩ := hrel
  have HRow := Hm hrow
  have x0 := hbd.cell 0 _ rfl
  have hlx := hbd.lt
  have hly := hbr.lt
  have HBD := Hm hbd
  have HBR := Hm hbr
  clear hrow hbd hbr
  by_cases hlt : k < m.fInodes.length
  ·obtain ⟨b1, o1, rfl, hB, cs, hcl, hcell, hrI⟩ := (HI.out.below hR (hbk.mono hBB)) k hlt
   have HYes := Hm (fun h => filter_snoc_yes (p := isNamed m) hlt h)
   have HNo := Hm (fun h => filter_snoc_no (p := isNamed m) hlt h)
   have HNI : Hid (isNamed m m.fInodes[k] = (named m.fNames m.fInodes[k].fId || named m.fSafe m.fInodes[k].fId)) := rfl
   have hfl : ((m.fInodes.take k).filter (isNamed m)).length <= 1048576 := Nat.le_trans (List.length_filter_le _ _) (by simp; omega)
   obtain ⟨n, hn⟩ : ∃ n, m.fInodes[k] = n := ⟨_, rfl⟩
   rw [hn] at HYes HNo HNI hrI
   clear hn
   have hrI2 := hrI
   obtain ⟨ad, cd, rfl, hid, hda, hsu, _⟩ := hRI _ _ _ _ hrI
   have k0 := hcell 0 _ rfl
   have k1 := hcell 1 _ rfl
   have k2 := hcell 2 _ rfl
   rw [Nat.add_zero] at k0
   have HRI := Hm hrI2
   have p0 : ∀ W, Below wr.heap.size wr W -> W.cell? ⟨w.heap.size, 0, none⟩ = some (.slice (some ⟨b1, o1, none⟩) m.fInodes.length c0) := fun W hb => (HBD.out.under hb).cell 0 _ rfl
   have p1 : ∀ W, Below wr.heap.size wr W -> W.cell? ⟨w.heap.size, 1, none⟩ = some (.slice a1 m.fNames.length c1) := fun W hb => (HBD.out.under hb).cell 1 _ rfl
   have p2 : ∀ W, Below wr.heap.size wr W -> W.cell? ⟨w.heap.size, 2, none⟩ = some (.slice a2 m.fSafe.length c2) := fun W hb => (HBD.out.under hb).cell 2 _ rfl
   have hbz0 := hbk.size
   have hbz := Nat.le_trans hBB hbz0
   have q0 : ∀ W, Below wr.heap.size wr W -> W.cell? ⟨b1, o1 + k * 3, none⟩ = some (.int .i64 n.fId) := fun W hb => (hb.cell (p := ⟨b1, o1 + k * 3, none⟩) (Nat.lt_of_lt_of_le hB hbz)).trans k0
   have hC1 := fun W (hb : Below wr.heap.size wr W) => l2Named_any a1 _ c1 m.fNames n.fId W w.heap.size rfl (by omega) (HN.out.below rEntry_good (bthen hbk hb))
   have hC2 := fun W (hb : Below wr.heap.size wr W) => l2Named_any a2 _ c2 m.fSafe n.fId W w.heap.size rfl (by omega) (HS.out.below rEntry_good (bthen hbk hb))
   clear hcell hcl hrI2
   by_cases hY : isNamed m n = true
   ·have HF := Hm (HYes.out hY)
    have HY := Hm hY
    clear HYes HNo hY
    by_cases hA : named m.fNames n.fId = true
    ·rw [hA] at hC1
     go_wp2_with fail
     refine wp_region_held_drew (S := fun W => Below wr.heap.size wr W) (by kernel_rfl) (Below.drew rB) (fun hZ => ?_)
     refine uq 0 q9a7_77_5_0 13 hZ ?_
     refine uq 1 q9a7_77_5_1 14 hZ ?_
     refine uq 2 q9a7_77_5_2 15 hZ ?_
     refine uq 3 q9a7_77_5_3 16 hZ ?_
     refine uq 4 q9a7_77_5_4 17 hZ ?_
     refine uq 5 q9a7_77_5_5 18 hZ ?_
     refine uq 6 q9a7_77_5_6 19 hZ ?_
     refine uq 7 q9a7_77_5_7 20 hZ ?_
     refine ar1 8 q9a7_77_5_8 fun K hK => ?_
     go_simp
     refine Calls.mono (hC1 _ hZ) ?_
     rintro e wy1 ⟨rfl, hw1⟩
     have hy1 := below_same hw1
     clear hw1
     go_wp2_with fail
     refine hK.out _ _ (bthen hZ hy1) (fun hZ => ?_)
     clear hK K
     try simp only[Act.put,sa,s0,s1]
     refine uq 9 q9a7_77_5_9 22 hZ ?_
     refine um 10 q9a7_77_5_10 23 hZ ?_
     refine um 11 q9a7_77_5_11 24 hZ ?_
     refine um 12 q9a7_77_5_12 25 hZ ?_
     refine um 13 q9a7_77_5_13 26 hZ ?_
     refine um 14 q9a7_77_5_14 27 hZ ?_
     refine um 15 q9a7_77_5_15 28 hZ ?_
     refine um 16 q9a7_77_5_16 29 hZ ?_
     refine um 17 q9a7_77_5_17 30 hZ ?_
     refine um 18 q9a7_77_5_18 31 hZ ?_
     refine uq 19 q9a7_77_5_19 32 hZ ?_
     refine wpAnyH_done (by kernel_rfl) ?_ _
     obtain ⟨wa, hwa⟩ : ∃ wa, wa = wy1 := ⟨_, rfl⟩
     rw [<- hwa] at hZ ⊢
     have hbA := bthen hbk hZ
     have x0a := (HBD.out.under hZ).cell 0 _ rfl
     have hza := hZ.size
     have k0a := (hZ.cell (p := ⟨b1, o1 + k * 3, none⟩) (Nat.lt_of_lt_of_le hB hbz)).trans k0
     have k1a := (hZ.cell (p := ⟨b1, o1 + k * 3 + 1, none⟩) (Nat.lt_of_lt_of_le hB hbz)).trans k1
     have k2a := (hZ.cell (p := ⟨b1, o1 + k * 3 + 2, none⟩) (Nat.lt_of_lt_of_le hB hbz)).trans k2
     have hra := RowR.keep hR HRow.out hZ hbz
     have HRIa := Hm (hR.below HRI.out (hZ.mono hbz))
     have HBDa := Hm (HBD.out.under hZ)
     have HBRa := Hm (HBR.out.under hZ)
     have HBA := Hm hbA
     have HHa := Hm hZ
     have hbsa := hbA.size
     have hB1a : b1 < wa.heap.size := by omega
     have hlxa := HBDa.out.lt
     have hlya := HBRa.out.lt
     obtain ⟨fl, hflq⟩ : ∃ fl, fl = (m.fInodes.take k).filter (isNamed m) := ⟨_, rfl⟩
     rw [<- hflq] at hra HF hfl
     obtain ⟨css, r1, r2, r3, r4⟩ := hra
     clear hwa p0 p1 p2 q0 hC1 hC2 k0 k1 k2 hZ HNI hflq HRow
     go_wp2_with (at_builtin; refine wpList_append_own_at _ rfl _ _ 24 rfl (w.heap.size + 2) 50 i0 (.agg #[.int .i64 0, .slice none 0 0, .int .i64 0]) 3 40 Tryz.underlying24 hi hz0 hz1 hz2 rfl (by decide) _ _ _ rfl (own_below r4 (rB.alloc rN _)) ⟨wa.heap.size, 0, none⟩ 1 1 [.int .i64 n.fId, .slice ad n.fData.length cd, .int .i64 n.fSure] rfl rfl (bx_news (Bx.new wa _ _)) (by intro u hu; simp at hu; rcases hu with rfl | rfl | rfl <;> rfl) (by unfold maxLen; omega) (by omega) (by simp; omega) ?_; intro v' w3 hown3 hgrow3 hnil hloc)
     have hT := Turn.after ((Below.refl wa.heap.size wa).alloc rN _) (turnOwn hgrow3)
     have hge : ∀ k, k ∈ (Value.ownBlock _).toList -> w.heap.size + 2 <= k := fun k hk => (r4.lt k (by simpa using hk)).1
     have hBl : Below w.heap.size wa w3 := Turn.below hT (fun k hk => by have := hge k hk; omega) hbsa
     go_roundw
     case rel => exact ⟨k + 1, by omega, by go_num, by rw [HF.out]; exact RowR.push hR r1 r2 r3 (hBl.mono hBB) rfl (hR.below HRIa.out (hBl.mono hBB)) hown3, hbA.trans hBl, HBDa.out.turn hT (fun h => by have := hge _ h; omega), HBRa.out.turn hT (fun h => by have := hge _ h; omega)⟩
     case measure => simp [intOf]; omega
    ·have hA2 : named m.fNames n.fId = false := Bool.eq_false_iff.2 hA
     have hS2 : named m.fSafe n.fId = true := by have h := HNI.out; rw [HY.out, hA2, Bool.false_or] at h; exact h.symm
     rw [hA2] at hC1
     rw [hS2] at hC2
     go_wp2_with fail
     refine wp_region_held_drew (S := fun W => Below wr.heap.size wr W) (by kernel_rfl) (Below.drew rB) (fun hZ => ?_)
     refine uq 0 q9a7_77_5_0 13 hZ ?_
     refine uq 1 q9a7_77_5_1 14 hZ ?_
     refine uq 2 q9a7_77_5_2 15 hZ ?_
     refine uq 3 q9a7_77_5_3 16 hZ ?_
     refine uq 4 q9a7_77_5_4 17 hZ ?_
     refine uq 5 q9a7_77_5_5 18 hZ ?_
     refine uq 6 q9a7_77_5_6 19 hZ ?_
     refine uq 7 q9a7_77_5_7 20 hZ ?_
     refine ar1 8 q9a7_77_5_8 fun K hK => ?_
     go_simp
     refine Calls.mono (hC1 _ hZ) ?_
     rintro e wy1 ⟨rfl, hw1⟩
     have hy1 := below_same hw1
     clear hw1
     go_wp2_with fail
     refine hK.out _ _ (bthen hZ hy1) (fun hZ => ?_)
     clear hK K
     try simp only[Act.put,sa,s0,s1]
     refine uq 9 q9a7_77_5_9 22 hZ ?_
     refine uq 10 q9a7_77_5_10 23 hZ ?_
     refine uq 11 q9a7_77_5_11 24 hZ ?_
     refine uq 12 q9a7_77_5_12 25 hZ ?_
     refine uq 13 q9a7_77_5_13 26 hZ ?_
     refine uq 14 q9a7_77_5_14 27 hZ ?_
     refine uq 15 q9a7_77_5_15 28 hZ ?_
     refine uq 16 q9a7_77_5_16 29 hZ ?_
     refine uq 17 q9a7_77_5_17 30 hZ ?_
     refine ar1 18 q9a7_77_5_18 fun K hK => ?_
     go_simp
     refine Calls.mono (hC2 _ hZ) ?_
     rintro e wy2 ⟨rfl, hw2⟩
     have hy2 := below_same hw2
     clear hw2
     go_wp2_with fail
     refine hK.out _ _ (bthen hZ hy2) (fun hZ => ?_)
     clear hK K
     try simp only[Act.put,sa,s0,s1]
     refine uq 19 q9a7_77_5_19 32 hZ ?_
     refine wpAnyH_done (by kernel_rfl) ?_ _
     obtain ⟨wa, hwa⟩ : ∃ wa, wa = wy2 := ⟨_, rfl⟩
     rw [<- hwa] at hZ ⊢
     have hbA := bthen hbk hZ
     have x0a := (HBD.out.under hZ).cell 0 _ rfl
     have hza := hZ.size
     have k0a := (hZ.cell (p := ⟨b1, o1 + k * 3, none⟩) (Nat.lt_of_lt_of_le hB hbz)).trans k0
     have k1a := (hZ.cell (p := ⟨b1, o1 + k * 3 + 1, none⟩) (Nat.lt_of_lt_of_le hB hbz)).trans k1
     have k2a := (hZ.cell (p := ⟨b1, o1 + k * 3 + 2, none⟩) (Nat.lt_of_lt_of_le hB hbz)).trans k2
     have hra := RowR.keep hR HRow.out hZ hbz
     have HRIa := Hm (hR.below HRI.out (hZ.mono hbz))
     have HBDa := Hm (HBD.out.under hZ)
     have HBRa := Hm (HBR.out.under hZ)
     have HBA := Hm hbA
     have HHa := Hm hZ
     have hbsa := hbA.size
     have hB1a : b1 < wa.heap.size := by omega
     have hlxa := HBDa.out.lt
     have hlya := HBRa.out.lt
     obtain ⟨fl, hflq⟩ : ∃ fl, fl = (m.fInodes.take k).filter (isNamed m) := ⟨_, rfl⟩
     rw [<- hflq] at hra HF hfl
     obtain ⟨css, r1, r2, r3, r4⟩ := hra
     clear hwa p0 p1 p2 q0 hC1 hC2 k0 k1 k2 hZ HNI hflq HRow
     go_wp2_with (at_builtin; refine wpList_append_own_at _ rfl _ _ 24 rfl (w.heap.size + 2) 50 i0 (.agg #[.int .i64 0, .slice none 0 0, .int .i64 0]) 3 40 Tryz.underlying24 hi hz0 hz1 hz2 rfl (by decide) _ _ _ rfl (own_below r4 (rB.alloc rN _)) ⟨wa.heap.size, 0, none⟩ 1 1 [.int .i64 n.fId, .slice ad n.fData.length cd, .int .i64 n.fSure] rfl rfl (bx_news (Bx.new wa _ _)) (by intro u hu; simp at hu; rcases hu with rfl | rfl | rfl <;> rfl) (by unfold maxLen; omega) (by omega) (by simp; omega) ?_; intro v' w3 hown3 hgrow3 hnil hloc)
     have hT := Turn.after ((Below.refl wa.heap.size wa).alloc rN _) (turnOwn hgrow3)
     have hge : ∀ k, k ∈ (Value.ownBlock _).toList -> w.heap.size + 2 <= k := fun k hk => (r4.lt k (by simpa using hk)).1
     have hBl : Below w.heap.size wa w3 := Turn.below hT (fun k hk => by have := hge k hk; omega) hbsa
     go_roundw
     case rel => exact ⟨k + 1, by omega, by go_num, by rw [HF.out]; exact RowR.push hR r1 r2 r3 (hBl.mono hBB) rfl (hR.below HRIa.out (hBl.mono hBB)) hown3, hbA.trans hBl, HBDa.out.turn hT (fun h => by have := hge _ h; omega), HBRa.out.turn hT (fun h => by have := hge _ h; omega)⟩
     case measure => simp [intOf]; omega
   ·have hY2 : isNamed m n = false := Bool.eq_false_iff.2 hY
    have HF := Hm (HNo.out hY2)
    have hb3 := HNI.out
    rw [hY2] at hb3
    have hA2 : named m.fNames n.fId = false := (Bool.or_eq_false_iff.1 hb3.symm).1
    have hS2 : named m.fSafe n.fId = false := (Bool.or_eq_false_iff.1 hb3.symm).2
    rw [hA2] at hC1
    rw [hS2] at hC2
    clear HYes HNo hY hY2 hb3 HNI
    go_wp2_with fail
    refine wp_region_held_drew (S := fun W => Below wr.heap.size wr W) (by kernel_rfl) (Below.drew rB) (fun hZ => ?_)
    refine uq 0 q9a7_77_5_0 13 hZ ?_
    refine uq 1 q9a7_77_5_1 14 hZ ?_
    refine uq 2 q9a7_77_5_2 15 hZ ?_
    refine uq 3 q9a7_77_5_3 16 hZ ?_
    refine uq 4 q9a7_77_5_4 17 hZ ?_
    refine uq 5 q9a7_77_5_5 18 hZ ?_
    refine uq 6 q9a7_77_5_6 19 hZ ?_
    refine uq 7 q9a7_77_5_7 20 hZ ?_
    refine ar1 8 q9a7_77_5_8 fun K hK => ?_
    go_simp
    refine Calls.mono (hC1 _ hZ) ?_
    rintro e wy1 ⟨rfl, hw1⟩
    have hy1 := below_same hw1
    clear hw1
    go_wp2_with fail
    refine hK.out _ _ (bthen hZ hy1) (fun hZ => ?_)
    clear hK K
    try simp only[Act.put,sa,s0,s1]
    refine uq 9 q9a7_77_5_9 22 hZ ?_
    refine uq 10 q9a7_77_5_10 23 hZ ?_
    refine uq 11 q9a7_77_5_11 24 hZ ?_
    refine uq 12 q9a7_77_5_12 25 hZ ?_
    refine uq 13 q9a7_77_5_13 26 hZ ?_
    refine uq 14 q9a7_77_5_14 27 hZ ?_
    refine uq 15 q9a7_77_5_15 28 hZ ?_
    refine uq 16 q9a7_77_5_16 29 hZ ?_
    refine uq 17 q9a7_77_5_17 30 hZ ?_
    refine ar1 18 q9a7_77_5_18 fun K hK => ?_
    go_simp
    refine Calls.mono (hC2 _ hZ) ?_
    rintro e wy2 ⟨rfl, hw2⟩
    have hy2 := below_same hw2
    clear hw2
    go_wp2_with fail
    refine hK.out _ _ (bthen hZ hy2) (fun hZ => ?_)
    clear hK K
    try simp only[Act.put,sa,s0,s1]
    refine uq 19 q9a7_77_5_19 32 hZ ?_
    refine wpAnyH_done (by kernel_rfl) ?_ _
    obtain ⟨wa, hwa⟩ : ∃ wa, wa = wy2 := ⟨_, rfl⟩
    rw [<- hwa] at hZ ⊢
    have hbA := bthen hbk hZ
    clear hwa p0 p1 p2 q0 hC1 hC2 k0 k1 k2
    go_wp2_with fail
    go_roundw
    case rel => exact ⟨k + 1, by omega, by go_num, by rw [HF.out]; exact RowR.keep hR HRow.out hZ hbz, hbA, HBD.out.under hZ, HBR.out.under hZ⟩
    case measure => simp [intOf]; omega
  ·have hkn : k = m.fInodes.length := by omega
   subst hkn
   have hrow := HRow.out
   rw [List.take_length] at hrow
   obtain ⟨ar, cr, hv, hlf⟩ := hrow.leaf hR (Nat.le_trans hBB hbk.size)
   subst hv
   have x1 := HBD.out.cell 1 _ rfl
   have x2 := HBD.out.cell 2 _ rfl
   have x3 := HBD.out.cell 3 _ rfl
   have f0 := HBD.out.free 0
   obtain ⟨ze0, zf0, ze1, zf1, ze2, zf2, ze3, zf3⟩ := HBR.out.c8
   have HRW : Hid (RowR 3 50 R B wr (w.heap.size + 2) (.slice ar (keepI m).length cr) (keepI m)) := hrow
   have hkl : ((m.fInodes.filter (isNamed m)).length : Int) = ((keepI m).length : Int) := rfl
   have HKL : Hid ((m.fInodes.filter (isNamed m)).length = (keepI m).length) := rfl
   clear hrow hlf hkl
   go_wp2_with fail
   rw [HKL.out]
   refine bodyPost_ret (v := .agg #[.slice ar (keepI m).length cr, .slice a1 m.fNames.length c1, .slice a2 m.fSafe.length c2, .int .i64 m.fNext]) (by rw [<- HKL.out]; simp [results, Tryz.results77, go_sem, *]) rfl ⟨ar, cr, rfl, ?_, ?_⟩
   ·refine RowR.turn hR (F := [w.heap.size, w.heap.size + 1]) HRW.out ?_ (fun k hk => by simp at hk; omega) (Nat.le_trans hBB hbk.size) (by omega)
    repeat (first | with_reducible exact Turn.refl _ _ | with_reducible refine Turn.setCell ?_ (by simp) _)
   ·refine hbk.trans (Turn.below (F := [w.heap.size, w.heap.size + 1]) ?_ (fun k hk => by simp at hk; omega) hbk.size)
    repeat (first | with_reducible exact Turn.refl _ _ | with_reducible refine Turn.setCell ?_ (by simp) _)
end Go.Proofs.YtegonncmopecnaaGreatDoor

namespace Go.Proofs.YtegonncmopecnaaGreatDoor
open Go.RowKit
abbrev q040_84_4_0 : Oper := ⟨some 13, .move (.tmp 1), 25, "l02_files.go:29", #[], none⟩
abbrev q040_84_4_1 : Oper := ⟨some 14, .move (.tmp 5), 3, "l02_files.go:29", #[], none⟩
abbrev q040_84_4_2 : Oper := ⟨some 15, .indexAddr 25 (.tmp 13) (.tmp 14), 0, "l02_files.go:29", #[⟨0, .data⟩, ⟨1, .data⟩], none⟩
abbrev q040_84_4_3 : Oper := ⟨some 16, .fieldAddr 74 (.tmp 15) 0, 0, "l02_files.go:29", #[⟨2, .data⟩], none⟩
abbrev q040_84_4_4 : Oper := ⟨some 17, .load 9 (.tmp 16), 9, "l02_files.go:29", #[⟨3, .data⟩], none⟩
abbrev q040_84_4_5 : Oper := ⟨some 18, .call { callee := .value (.func 57), args := #[.tmp 17], argTypes := #[9] }, 4, "l02_files.go:29", #[⟨4, .data⟩], none⟩
abbrev q040_84_4_6 : Oper := ⟨some 19, .unOp .not 4 (.tmp 18), 4, "l02_files.go:29", #[⟨5, .data⟩], none⟩
abbrev q040_84_4_7 : Oper := ⟨some 20, .move (.tmp 19), 4, "l02_files.go:29", #[⟨6, .data⟩, ⟨5, .chain⟩], none⟩
abbrev q040_84_4_8 : Oper := ⟨some 21, .load 27 (.tmp 2), 27, "l02_files.go:29", #[⟨7, .guard⟩], some (7, false)⟩
abbrev q040_84_4_9 : Oper := ⟨some 22, .move (.tmp 1), 25, "l02_files.go:29", #[⟨7, .guard⟩], some (7, false)⟩
abbrev q040_84_4_10 : Oper := ⟨some 23, .move (.tmp 5), 3, "l02_files.go:29", #[⟨7, .guard⟩], some (7, false)⟩
abbrev q040_84_4_11 : Oper := ⟨some 24, .indexAddr 25 (.tmp 22) (.tmp 23), 0, "l02_files.go:29", #[⟨9, .data⟩, ⟨10, .data⟩, ⟨7, .guard⟩], some (7, false)⟩
abbrev q040_84_4_12 : Oper := ⟨some 25, .fieldAddr 74 (.tmp 24) 1, 0, "l02_files.go:29", #[⟨11, .data⟩, ⟨7, .guard⟩], some (7, false)⟩
abbrev q040_84_4_13 : Oper := ⟨some 26, .load 3 (.tmp 25), 3, "l02_files.go:29", #[⟨12, .data⟩, ⟨7, .guard⟩], some (7, false)⟩
abbrev q040_84_4_14 : Oper := ⟨some 27, .call { callee := .value (.func 59), args := #[.tmp 21, .tmp 26], argTypes := #[27, 3] }, 3, "l02_files.go:29", #[⟨8, .data⟩, ⟨13, .data⟩, ⟨7, .chain⟩, ⟨7, .guard⟩], some (7, false)⟩
abbrev q040_84_4_15 : Oper := ⟨some 28, .binOp .lss 3 (.tmp 27) (.const (.int .i64 0)) 3, 4, "l02_files.go:29", #[⟨14, .data⟩, ⟨7, .guard⟩], some (7, false)⟩
abbrev q040_84_4_16 : Oper := ⟨some 29, .pick (.tmp 20) (.const (.bool true)) (.tmp 28), 4, "l02_files.go:29", #[⟨7, .data⟩, ⟨15, .data⟩], none⟩
abbrev q040_84_4_17 : Oper := ⟨some 30, .move (.tmp 29), 4, "l02_files.go:29", #[⟨16, .data⟩, ⟨14, .chain⟩], none⟩
abbrev q040_84_4_18 : Oper := ⟨some 31, .move (.tmp 5), 3, "l02_files.go:29", #[⟨17, .guard⟩], some (17, false)⟩
abbrev q040_84_4_19 : Oper := ⟨some 32, .binOp .gtr 3 (.tmp 31) (.const (.int .i64 0)) 3, 4, "l02_files.go:29", #[⟨18, .data⟩, ⟨17, .guard⟩], some (17, false)⟩
abbrev q040_84_4_20 : Oper := ⟨some 33, .move (.tmp 32), 4, "l02_files.go:29", #[⟨19, .data⟩, ⟨17, .chain⟩, ⟨17, .guard⟩], some (17, false)⟩
abbrev q040_84_4_21 : Oper := ⟨some 34, .move (.tmp 1), 25, "l02_files.go:29", #[⟨20, .guard⟩], some (20, true)⟩
abbrev q040_84_4_22 : Oper := ⟨some 35, .move (.tmp 5), 3, "l02_files.go:29", #[⟨20, .guard⟩], some (20, true)⟩
abbrev q040_84_4_23 : Oper := ⟨some 36, .binOp .sub 3 (.tmp 35) (.const (.int .i64 1)) 3, 3, "l02_files.go:29", #[⟨22, .data⟩, ⟨20, .guard⟩], some (20, true)⟩
abbrev q040_84_4_24 : Oper := ⟨some 37, .indexAddr 25 (.tmp 34) (.tmp 36), 0, "l02_files.go:29", #[⟨21, .data⟩, ⟨23, .data⟩, ⟨20, .guard⟩], some (20, true)⟩
abbrev q040_84_4_25 : Oper := ⟨some 38, .fieldAddr 74 (.tmp 37) 0, 0, "l02_files.go:29", #[⟨24, .data⟩, ⟨20, .guard⟩], some (20, true)⟩
abbrev q040_84_4_26 : Oper := ⟨some 39, .load 9 (.tmp 38), 9, "l02_files.go:29", #[⟨25, .data⟩, ⟨20, .guard⟩], some (20, true)⟩
abbrev q040_84_4_27 : Oper := ⟨some 40, .move (.tmp 1), 25, "l02_files.go:29", #[⟨20, .guard⟩], some (20, true)⟩
abbrev q040_84_4_28 : Oper := ⟨some 41, .move (.tmp 5), 3, "l02_files.go:29", #[⟨20, .guard⟩], some (20, true)⟩
abbrev q040_84_4_29 : Oper := ⟨some 42, .indexAddr 25 (.tmp 40) (.tmp 41), 0, "l02_files.go:29", #[⟨27, .data⟩, ⟨28, .data⟩, ⟨20, .guard⟩], some (20, true)⟩
abbrev q040_84_4_30 : Oper := ⟨some 43, .fieldAddr 74 (.tmp 42) 0, 0, "l02_files.go:29", #[⟨29, .data⟩, ⟨20, .guard⟩], some (20, true)⟩
abbrev q040_84_4_31 : Oper := ⟨some 44, .load 9 (.tmp 43), 9, "l02_files.go:29", #[⟨30, .data⟩, ⟨20, .guard⟩], some (20, true)⟩
abbrev q040_84_4_32 : Oper := ⟨some 45, .binOp .geq 9 (.tmp 39) (.tmp 44) 9, 4, "l02_files.go:29", #[⟨26, .data⟩, ⟨31, .data⟩, ⟨20, .guard⟩], some (20, true)⟩
abbrev q040_84_4_33 : Oper := ⟨some 46, .pick (.tmp 33) (.tmp 45) (.const (.bool false)), 4, "l02_files.go:29", #[⟨20, .data⟩, ⟨32, .data⟩, ⟨17, .guard⟩], some (17, false)⟩
abbrev q040_84_4_34 : Oper := ⟨some 47, .pick (.tmp 30) (.const (.bool true)) (.tmp 46), 4, "l02_files.go:29", #[⟨17, .data⟩, ⟨33, .data⟩], none⟩
theorem okE_no {ins : List MInode} {l : List MEntry} {k : Nat} (h : k < l.length) (hs : stepE ins (idsTo l k) (prevName l k) l[k] = false) : okE ins (idsTo l k) (prevName l k) (l.drop k) = false := by
 rw [okE_step h, hs]; rfl
theorem okE_yes {ins : List MInode} {l : List MEntry} {k : Nat} (h : k < l.length) (hs : stepE ins (idsTo l k) (prevName l k) l[k] = true) : okE ins (idsTo l k) (prevName l k) (l.drop k) = okE ins (idsTo l (k + 1)) (prevName l (k + 1)) (l.drop (k + 1)) := by
 rw [okE_step h, hs]; rfl
set_option maxHeartbeats 1000000 in
theorem l2Entries_any (cs : List Value) (m : MDisk) (a : Option Addr) (n cap : Nat) (l : List MEntry) (w : World) (hr : rDisk w.heap.size w cs m) (hm : m.fInodes.length <= 16777216) (hx : l.length = n) (hn : n <= 16777216) (hl : LeafL 2 rEntry w.heap.size w a cap l) :
  Calls Tryz.prog 84 #[.agg cs.toArray, .slice a n cap] w fun e w' => e = .returned (.bool (okE m.fInodes [] ByteArray.empty l && decide (l.length <= 30))) /\ Below w.heap.size w w' := by
 have hq := hr
 obtain ⟨a0, c0, a1, c1, a2, c2, rfl, _⟩ := hq
 have HX := Hm hx
 clear hx
 have HRS := Hm hl.2.2
 clear hl
 have HR := Hm hr
 clear hr
 go_enter Tryz.func84, Tryz.ntmps84
 go_wp2_with fail
 go_loopw [5, 6] (fun i j wr => ∃ k : Nat, k <= n /\ i = .int .i64 k /\ okE m.fInodes [] ByteArray.empty l = okE m.fInodes (idsTo l k) (prevName l k) (l.drop k) /\ Below w.heap.size w wr /\ Bx wr w.heap.size [.slice a0 m.fInodes.length c0, .slice a1 m.fNames.length c1, .slice a2 m.fSafe.length c2, .int .i64 m.fNext]) (fun i _ _ => n - (intOf i).toNat)
 case atStart => exact ⟨0, Nat.zero_le _, rfl, rfl, rB.alloc rN _, Bx.new _ _ _⟩
 case round =>
  obtain ⟨k, hk, rfl, hI, hbk, hbx⟩ := hrel
  have HI := Hm hI
  clear hI
  have xb0 := hbx.2 0 _ rfl
  have xb1 := hbx.2 1 _ rfl
  have xb2 := hbx.2 2 _ rfl
  have xb3 := hbx.2 3 _ rfl
  by_cases hlt : k < n
  ·have hkl : k < l.length := by rw [HX.out]; exact hlt
   obtain ⟨b1, o1, rfl, hB, cs, hcl, hcell, rfl, hsz, hwf, _⟩ := (HRS.out.below rEntry_good hbk) k hkl
   have k0 := hcell 0 _ rfl
   have k1 := hcell 1 _ rfl
   rw [Nat.add_zero] at k0
   clear hcell hcl
   have hCn := fun W => l2Name_any l[k].fName W hsz
   have hCi := fun W (hb : Below wr.heap.size wr W) => l2Inode_any _ m l[k].fId W (rDisk_good.mono (rDisk_good.below HR.out (bthen hbk hb)) (bthen hbk hb).size) (by omega)
   have hy1 : b1 < wr.heap.size := Nat.lt_of_lt_of_le hB hbk.size
   have q0 : ∀ W, Below wr.heap.size wr W -> W.cell? ⟨b1, o1 + k * 2, none⟩ = some (.string l[k].fName) := fun W hb => (hb.cell (p := ⟨b1, o1 + k * 2, none⟩) hy1).trans k0
   have q1 : ∀ W, Below wr.heap.size wr W -> W.cell? ⟨b1, o1 + k * 2 + 1, none⟩ = some (.int .i64 l[k].fId) := fun W hb => (hb.cell (p := ⟨b1, o1 + k * 2 + 1, none⟩) hy1).trans k1
   have p0 : ∀ W, Below wr.heap.size wr W -> W.cell? ⟨w.heap.size, 0, none⟩ = some (.slice a0 m.fInodes.length c0) := fun W hb => (hbx.under hb).2 0 _ rfl
   have p1 : ∀ W, Below wr.heap.size wr W -> W.cell? ⟨w.heap.size, 1, none⟩ = some (.slice a1 m.fNames.length c1) := fun W hb => (hbx.under hb).2 1 _ rfl
   have p2 : ∀ W, Below wr.heap.size wr W -> W.cell? ⟨w.heap.size, 2, none⟩ = some (.slice a2 m.fSafe.length c2) := fun W hb => (hbx.under hb).2 2 _ rfl
   have p3 : ∀ W, Below wr.heap.size wr W -> W.cell? ⟨w.heap.size, 3, none⟩ = some (.int .i64 m.fNext) := fun W hb => (hbx.under hb).2 3 _ rfl
   have HSt := Hm (okE_no (ins := m.fInodes) hkl)
   clear xb0 xb1 xb2 xb3 k0 k1
   have HNoV : Hid (stepE m.fInodes (idsTo l k) (prevName l k) l[k] = false -> okE m.fInodes [] ByteArray.empty l = false) := fun h => by rw [HI.out]; exact HSt.out h
   have HYes : Hid (stepE m.fInodes (idsTo l k) (prevName l k) l[k] = true -> okE m.fInodes [] ByteArray.empty l = okE m.fInodes (idsTo l (k + 1)) (prevName l (k + 1)) (l.drop (k + 1))) := fun h => by rw [HI.out]; exact okE_yes hkl h
   have HStep : Hid (stepE m.fInodes (idsTo l k) (prevName l k) l[k] = (hasId m.fInodes l[k].fId && !(idsTo l k).contains l[k].fId && strLt (prevName l k) l[k].fName && nameOk l[k].fName)) := rfl
   clear HSt HI
   by_cases hN : nameOk l[k].fName = true
   ·by_cases hH : hasId m.fInodes l[k].fId = true
    ·have hpz : decide (placeZ m.fInodes l[k].fId < 0) = false := decide_eq_false (by rw [placeZ_neg, hH]; simp)
     have hpz2 : (placeZ m.fInodes l[k].fId < 0) = False := eq_false (by rw [placeZ_neg, hH]; simp)
     simp only [hN] at hCn
     have HStep2 : Hid (strLt (prevName l k) l[k].fName = true -> (∀ j, (hj : j < l.length) -> j < k -> l[j].fId ≠ l[k].fId) -> stepE m.fInodes (idsTo l k) (prevName l k) l[k] = true) := fun h1 h2 => by
      rw [HStep.out, hH, h1, hN, notin_ids h2]; rfl
     have HStep3 : Hid (∀ j, (hj : j < l.length) -> j < k -> l[j].fId = l[k].fId -> stepE m.fInodes (idsTo l k) (prevName l k) l[k] = false) := fun j hj hjk he => by
      rw [HStep.out, in_ids hj hjk he]; simp
     have HStep4 : Hid (strLt (prevName l k) l[k].fName = false -> stepE m.fInodes (idsTo l k) (prevName l k) l[k] = false) := fun h1 => by
      rw [HStep.out, h1]; simp
     have HPos : Hid (1 <= l[k].fName.size) := nameOk_pos hN
     clear HStep
     have HLen : Hid (l[k].fName.size <= 9223372036854775807) := hsz
     obtain ⟨p, hp⟩ : ∃ p, p = (if h0 : k = 0 then strLt ByteArray.empty l[k].fName else strLt (l[k - 1]'(by omega)).fName l[k].fName) := ⟨_, rfl⟩
     by_cases h0 : k = 0
     ·have HS0 : Hid (strLt (prevName l k) l[k].fName = true) := by subst h0; exact empty_lt HPos.out
      clear hp hN hH
      have HDone := Hm (HYes.out (HStep2.out HS0.out (fun j _ hj => by omega)))
      clear HS0 HStep2 HStep3 HStep4 HYes HNoV
      subst h0
      simp only [Nat.zero_mul, Nat.add_zero, Nat.zero_add] at q0 q1 HDone
      generalize l[0].fName = nm at *
      generalize l[0].fId = id at *
      generalize placeZ m.fInodes id = pz at *
      go_wp2_with fail
      refine wp_region_held_drew (S := fun W => Below wr.heap.size wr W) (by kernel_rfl) (Below.drew rB) (fun hZ => ?_)
      refine uq 0 q040_84_4_0 13 hZ ?_
      refine uq 1 q040_84_4_1 14 hZ ?_
      refine uq 2 q040_84_4_2 15 hZ ?_
      refine uq 3 q040_84_4_3 16 hZ ?_
      refine uq 4 q040_84_4_4 17 hZ ?_
      refine ar1 5 q040_84_4_5 fun K hK => ?_
      go_simp
      refine Calls.mono (hCn _) ?_
      rintro e w1 ⟨rfl, hw1⟩
      have hx1 := below_same hw1
      clear hw1
      go_wp2_with fail
      refine hK.out _ _ (bthen hZ hx1) (fun hZ => ?_)
      clear hK K
      try simp only[Act.put,sa,s0,s1]
      refine uq 6 q040_84_4_6 19 hZ ?_
      refine uq 7 q040_84_4_7 20 hZ ?_
      refine uq 8 q040_84_4_8 21 hZ ?_
      refine uq 9 q040_84_4_9 22 hZ ?_
      refine uq 10 q040_84_4_10 23 hZ ?_
      refine uq 11 q040_84_4_11 24 hZ ?_
      refine uq 12 q040_84_4_12 25 hZ ?_
      refine uq 13 q040_84_4_13 26 hZ ?_
      refine ar1 14 q040_84_4_14 fun K hK => ?_
      go_simp
      refine Calls.mono (hCi _ hZ) ?_
      rintro e w2 ⟨rfl, hx2⟩
      go_wp2_with fail
      refine hK.out _ _ (bthen hZ hx2) (fun hZ => ?_)
      clear hK K
      try simp only[Act.put,sa,s0,s1]
      refine uq 15 q040_84_4_15 28 hZ ?_
      refine uq 16 q040_84_4_16 29 hZ ?_
      refine uq 17 q040_84_4_17 30 hZ ?_
      refine uq 18 q040_84_4_18 31 hZ ?_
      refine uq 19 q040_84_4_19 32 hZ ?_
      refine uq 20 q040_84_4_20 33 hZ ?_
      refine um 21 q040_84_4_21 34 hZ ?_
      refine um 22 q040_84_4_22 35 hZ ?_
      refine um 23 q040_84_4_23 36 hZ ?_
      refine um 24 q040_84_4_24 37 hZ ?_
      refine um 25 q040_84_4_25 38 hZ ?_
      refine um 26 q040_84_4_26 39 hZ ?_
      refine um 27 q040_84_4_27 40 hZ ?_
      refine um 28 q040_84_4_28 41 hZ ?_
      refine um 29 q040_84_4_29 42 hZ ?_
      refine um 30 q040_84_4_30 43 hZ ?_
      refine um 31 q040_84_4_31 44 hZ ?_
      refine um 32 q040_84_4_32 45 hZ ?_
      refine uq 33 q040_84_4_33 46 hZ ?_
      refine uq 34 q040_84_4_34 47 hZ ?_
      refine wpAnyH_done (by kernel_rfl) ?_ _
      go_wp2_with fail
      refine wp_loop_rounds 1 ?_
      rw [rounds_succ]
      go_wp2_with fail
      go_roundw
      case rel => exact ⟨1, by omega, by go_num, HDone.out, bthen hbk hZ, hbx.under hZ⟩
      case measure => simp [intOf]; omega
     ·obtain ⟨j, rfl⟩ : ∃ j, k = j + 1 := ⟨k - 1, by omega⟩
      have hjl : j < l.length := by omega
      obtain ⟨b1', o1', he1, _, cs', hcl', hcell', rfl, hsz', _⟩ := (HRS.out.below rEntry_good hbk) j hjl
      simp only [Option.some.injEq, Addr.mk.injEq, and_true] at he1
      obtain ⟨rfl, rfl⟩ := he1
      have kp := hcell' 0 _ rfl
      rw [Nat.add_zero] at kp
      have qp : ∀ W, Below wr.heap.size wr W -> W.cell? ⟨b1, o1 + j * 2, none⟩ = some (.string l[j].fName) := fun W hb => (hb.cell (p := ⟨b1, o1 + j * 2, none⟩) hy1).trans kp
      have HPN : Hid (prevName l (j + 1) = l[j].fName) := prevName_succ hjl
      clear kp hcell' hcl' h0 hp
      have hz1 : (0 : Int) <= (j : Int) + 1 := by omega
      have hz2 : (j : Int) + 1 < (n : Int) := by omega
      have hz3 : (0 : Int) < (j : Int) + 1 := by omega
      have hz4 : (j : Int) < (n : Int) := by omega
      have hwr : IntKind.i64.wrap (j : Int) = j := by simp (disch := omega) only [IntWalk.i64_in]
      by_cases hS : strLt l[j].fName l[j + 1].fName = true
      ·have HOk : Hid ((∀ i, (hi : i < l.length) -> i < j + 1 -> l[i].fId ≠ l[j + 1].fId) -> stepE m.fInodes (idsTo l (j + 1)) (prevName l (j + 1)) l[j + 1] = true) := fun h => HStep2.out (by rw [HPN.out]; exact hS) h
       clear hN hH HStep2 HStep4 HPN
       unfold strLt at hS
       generalize l[j].fName = pn at *
       generalize l[j + 1].fName = nm at *
       have HId : Hid (l[j + 1].fId = l[j + 1].fId) := rfl
       generalize l[j + 1].fId = id at *
       generalize placeZ m.fInodes id = pz at *
       go_wp2_with fail
       refine wp_region_held_drew (S := fun W => Below wr.heap.size wr W) (by kernel_rfl) (Below.drew rB) (fun hZ => ?_)
       refine uq 0 q040_84_4_0 13 hZ ?_
       refine uq 1 q040_84_4_1 14 hZ ?_
       refine uq 2 q040_84_4_2 15 hZ ?_
       refine uq 3 q040_84_4_3 16 hZ ?_
       refine uq 4 q040_84_4_4 17 hZ ?_
       refine ar1 5 q040_84_4_5 fun K hK => ?_
       go_simp
       refine Calls.mono (hCn _) ?_
       rintro e w1 ⟨rfl, hw1⟩
       have hx1 := below_same hw1
       clear hw1
       go_wp2_with fail
       refine hK.out _ _ (bthen hZ hx1) (fun hZ => ?_)
       clear hK K
       try simp only[Act.put,sa,s0,s1]
       refine uq 6 q040_84_4_6 19 hZ ?_
       refine uq 7 q040_84_4_7 20 hZ ?_
       refine uq 8 q040_84_4_8 21 hZ ?_
       refine uq 9 q040_84_4_9 22 hZ ?_
       refine uq 10 q040_84_4_10 23 hZ ?_
       refine uq 11 q040_84_4_11 24 hZ ?_
       refine uq 12 q040_84_4_12 25 hZ ?_
       refine uq 13 q040_84_4_13 26 hZ ?_
       refine ar1 14 q040_84_4_14 fun K hK => ?_
       go_simp
       refine Calls.mono (hCi _ hZ) ?_
       rintro e w2 ⟨rfl, hx2⟩
       go_wp2_with fail
       refine hK.out _ _ (bthen hZ hx2) (fun hZ => ?_)
       clear hK K
       try simp only[Act.put,sa,s0,s1]
       refine uq 15 q040_84_4_15 28 hZ ?_
       refine uq 16 q040_84_4_16 29 hZ ?_
       refine uq 17 q040_84_4_17 30 hZ ?_
       refine uq 18 q040_84_4_18 31 hZ ?_
       refine uq 19 q040_84_4_19 32 hZ ?_
       refine uq 20 q040_84_4_20 33 hZ ?_
       refine uq 21 q040_84_4_21 34 hZ ?_
       refine uq 22 q040_84_4_22 35 hZ ?_
       refine uq 23 q040_84_4_23 36 hZ ?_
       refine uq 24 q040_84_4_24 37 hZ ?_
       refine uq 25 q040_84_4_25 38 hZ ?_
       refine uq 26 q040_84_4_26 39 hZ ?_
       refine uq 27 q040_84_4_27 40 hZ ?_
       refine uq 28 q040_84_4_28 41 hZ ?_
       refine uq 29 q040_84_4_29 42 hZ ?_
       refine uq 30 q040_84_4_30 43 hZ ?_
       refine uq 31 q040_84_4_31 44 hZ ?_
       refine uq 32 q040_84_4_32 45 hZ ?_
       refine uq 33 q040_84_4_33 46 hZ ?_
       refine uq 34 q040_84_4_34 47 hZ ?_
       refine wpAnyH_done (by kernel_rfl) ?_ _
       have hbW : Below wr.heap.size wr w2 := hZ
       go_wp2_with fail
       go_loopw [6] (fun jv wv => ∃ i : Nat, i <= j + 1 /\ jv = .int .i64 i /\ (∀ x, (hx : x < l.length) -> x < i -> l[x].fId ≠ id) /\ Below wr.heap.size wr wv) (fun jv _ => j + 1 - (intOf jv).toNat)
       case atStart => exact ⟨0, Nat.zero_le _, rfl, fun x _ hx => by omega, hbW⟩
       case round =>
        obtain ⟨i, hi, rfl, hno, hbi⟩ := hrel
        have HNo := Hm hno
        clear hno
        have hc1 := q1 _ hbi
        by_cases hil : i < j + 1
        ·have hil' : i < l.length := by omega
         obtain ⟨b2, o2, he2, hB2, cs2, hcl2, hcell2, rfl, _⟩ := (HRS.out.below rEntry_good (bthen hbk hbi)) i hil'
         simp only [Option.some.injEq, Addr.mk.injEq, and_true] at he2
         obtain ⟨rfl, rfl⟩ := he2
         have hc2 := hcell2 1 _ rfl
         have hu1 : (0 : Int) <= (i : Int) := by omega
         have hu2 : (i : Int) < (n : Int) := by omega
         have hu3 : (i : Int) < (j : Int) + 1 := by omega
         by_cases he : l[i].fId = id
         ·have HV : Hid (okE m.fInodes [] ByteArray.empty l = false) := HNoV.out (HStep3.out i hil' hil he)
          have heb : (l[i].fId == id) = true := by simp [he]
          generalize l[i].fId = y at hc2 heb
          clear hcell2 hcl2 he HNo
          go_wp2_with fail
          go_region
          all_goals
           go_wp2_with fail
           go_ret
           exact ⟨by rw [HV.out]; rfl, Below.trans hbk (Below.mono (Below.drew hbi) hbk.size)⟩
         ·have heb : (l[i].fId == id) = false := by simp [he]
          have HNo' : Hid (∀ x, (hx : x < l.length) -> x < i + 1 -> l[x].fId ≠ id) := fun x hx hxi => by
           by_cases hxi' : x = i
           ·subst hxi'; exact he
           ·exact HNo.out x hx (by omega)
          generalize l[i].fId = y at hc2 heb
          clear hcell2 hcl2 he HNo
          go_wp2_with fail
          go_region
          all_goals
           go_wp2_with fail
           go_roundw
           case rel => exact ⟨i + 1, by omega, by go_num, HNo'.out, Below.drew hbi⟩
           case measure => simp [intOf]; omega
        ·have HDone := Hm (HYes.out (HOk.out (fun x hx hxj => HNo.out x hx (by omega))))
         clear HNo
         go_wp2_with fail
         go_roundw
         case rel => exact ⟨j + 1 + 1, by omega, by go_num, HDone.out, bthen hbk hbi, hbx.under hbi⟩
         case measure => simp [intOf]; omega
      ·have hS' : strLt l[j].fName l[j + 1].fName = false := by simpa using hS
       have HV : Hid (okE m.fInodes [] ByteArray.empty l = false) := HNoV.out (HStep4.out (by rw [HPN.out]; exact hS'))
       clear hN hH HStep2 HStep3 HStep4 HYes HNoV HPN hS
       unfold strLt at hS'
       generalize l[j].fName = pn at *
       generalize l[j + 1].fName = nm at *
       generalize l[j + 1].fId = id at *
       generalize placeZ m.fInodes id = pz at *
       go_wp2_with fail
       refine wp_region_held_drew (S := fun W => Below wr.heap.size wr W) (by kernel_rfl) (Below.drew rB) (fun hZ => ?_)
       refine uq 0 q040_84_4_0 13 hZ ?_
       refine uq 1 q040_84_4_1 14 hZ ?_
       refine uq 2 q040_84_4_2 15 hZ ?_
       refine uq 3 q040_84_4_3 16 hZ ?_
       refine uq 4 q040_84_4_4 17 hZ ?_
       refine ar1 5 q040_84_4_5 fun K hK => ?_
       go_simp
       refine Calls.mono (hCn _) ?_
       rintro e w1 ⟨rfl, hw1⟩
       have hx1 := below_same hw1
       clear hw1
       go_wp2_with fail
       refine hK.out _ _ (bthen hZ hx1) (fun hZ => ?_)
       clear hK K
       try simp only[Act.put,sa,s0,s1]
       refine uq 6 q040_84_4_6 19 hZ ?_
       refine uq 7 q040_84_4_7 20 hZ ?_
       refine uq 8 q040_84_4_8 21 hZ ?_
       refine uq 9 q040_84_4_9 22 hZ ?_
       refine uq 10 q040_84_4_10 23 hZ ?_
       refine uq 11 q040_84_4_11 24 hZ ?_
       refine uq 12 q040_84_4_12 25 hZ ?_
       refine uq 13 q040_84_4_13 26 hZ ?_
       refine ar1 14 q040_84_4_14 fun K hK => ?_
       go_simp
       refine Calls.mono (hCi _ hZ) ?_
       rintro e w2 ⟨rfl, hx2⟩
       go_wp2_with fail
       refine hK.out _ _ (bthen hZ hx2) (fun hZ => ?_)
       clear hK K
       try simp only[Act.put,sa,s0,s1]
       refine uq 15 q040_84_4_15 28 hZ ?_
       refine uq 16 q040_84_4_16 29 hZ ?_
       refine uq 17 q040_84_4_17 30 hZ ?_
       refine uq 18 q040_84_4_18 31 hZ ?_
       refine uq 19 q040_84_4_19 32 hZ ?_
       refine uq 20 q040_84_4_20 33 hZ ?_
       refine uq 21 q040_84_4_21 34 hZ ?_
       refine uq 22 q040_84_4_22 35 hZ ?_
       refine uq 23 q040_84_4_23 36 hZ ?_
       refine uq 24 q040_84_4_24 37 hZ ?_
       refine uq 25 q040_84_4_25 38 hZ ?_
       refine uq 26 q040_84_4_26 39 hZ ?_
       refine uq 27 q040_84_4_27 40 hZ ?_
       refine uq 28 q040_84_4_28 41 hZ ?_
       refine uq 29 q040_84_4_29 42 hZ ?_
       refine uq 30 q040_84_4_30 43 hZ ?_
       refine uq 31 q040_84_4_31 44 hZ ?_
       refine uq 32 q040_84_4_32 45 hZ ?_
       refine uq 33 q040_84_4_33 46 hZ ?_
       refine uq 34 q040_84_4_34 47 hZ ?_
       refine wpAnyH_done (by kernel_rfl) ?_ _
       go_wp2_with fail
       go_ret
       exact ⟨by rw [HV.out]; rfl, bthen hbk hZ⟩
    ·have hH' : hasId m.fInodes l[k].fId = false := by simpa using hH
     have hpz : placeZ m.fInodes l[k].fId < 0 := placeZ_neg.2 hH'
     have HV : Hid (okE m.fInodes [] ByteArray.empty l = false) := HNoV.out (by rw [HStep.out, hH']; simp)
     simp only [hN] at hCn
     clear hN hH hH' HNoV HYes HStep
     generalize l[k].fName = nm at *
     generalize l[k].fId = id at *
     generalize placeZ m.fInodes id = pz at *
     go_wp2_with fail
     refine wp_region_held_drew (S := fun W => Below wr.heap.size wr W) (by kernel_rfl) (Below.drew rB) (fun hZ => ?_)
     refine uq 0 q040_84_4_0 13 hZ ?_
     refine uq 1 q040_84_4_1 14 hZ ?_
     refine uq 2 q040_84_4_2 15 hZ ?_
     refine uq 3 q040_84_4_3 16 hZ ?_
     refine uq 4 q040_84_4_4 17 hZ ?_
     refine ar1 5 q040_84_4_5 fun K hK => ?_
     go_simp
     refine Calls.mono (hCn _) ?_
     rintro e w1 ⟨rfl, hw1⟩
     have hx1 := below_same hw1
     clear hw1
     go_wp2_with fail
     refine hK.out _ _ (bthen hZ hx1) (fun hZ => ?_)
     clear hK K
     try simp only[Act.put,sa,s0,s1]
     refine uq 6 q040_84_4_6 19 hZ ?_
     refine uq 7 q040_84_4_7 20 hZ ?_
     refine uq 8 q040_84_4_8 21 hZ ?_
     refine uq 9 q040_84_4_9 22 hZ ?_
     refine uq 10 q040_84_4_10 23 hZ ?_
     refine uq 11 q040_84_4_11 24 hZ ?_
     refine uq 12 q040_84_4_12 25 hZ ?_
     refine uq 13 q040_84_4_13 26 hZ ?_
     refine ar1 14 q040_84_4_14 fun K hK => ?_
     go_simp
     refine Calls.mono (hCi _ hZ) ?_
     rintro e w2 ⟨rfl, hx2⟩
     go_wp2_with fail
     refine hK.out _ _ (bthen hZ hx2) (fun hZ => ?_)
     clear hK K
     try simp only[Act.put,sa,s0,s1]
     refine uq 15 q040_84_4_15 28 hZ ?_
     refine uq 16 q040_84_4_16 29 hZ ?_
     refine uq 17 q040_84_4_17 30 hZ ?_
     refine um 18 q040_84_4_18 31 hZ ?_
     refine um 19 q040_84_4_19 32 hZ ?_
     refine um 20 q040_84_4_20 33 hZ ?_
     refine um 21 q040_84_4_21 34 hZ ?_
     refine um 22 q040_84_4_22 35 hZ ?_
     refine um 23 q040_84_4_23 36 hZ ?_
     refine um 24 q040_84_4_24 37 hZ ?_
     refine um 25 q040_84_4_25 38 hZ ?_
     refine um 26 q040_84_4_26 39 hZ ?_
     refine um 27 q040_84_4_27 40 hZ ?_
     refine um 28 q040_84_4_28 41 hZ ?_
     refine um 29 q040_84_4_29 42 hZ ?_
     refine um 30 q040_84_4_30 43 hZ ?_
     refine um 31 q040_84_4_31 44 hZ ?_
     refine um 32 q040_84_4_32 45 hZ ?_
     refine um 33 q040_84_4_33 46 hZ ?_
     refine uq 34 q040_84_4_34 47 hZ ?_
     refine wpAnyH_done (by kernel_rfl) ?_ _
     go_wp2_with fail
     go_ret
     exact ⟨by rw [HV.out]; rfl, bthen hbk hZ⟩
   ·have hN' : nameOk l[k].fName = false := by simpa using hN
    have HV : Hid (okE m.fInodes [] ByteArray.empty l = false) := HNoV.out (by rw [HStep.out, hN']; simp)
    simp only [hN'] at hCn
    clear hN HNoV HYes HStep
    generalize l[k].fName = nm at *
    generalize l[k].fId = id at *
    go_wp2_with fail
    refine wp_region_held_drew (S := fun W => Below wr.heap.size wr W) (by kernel_rfl) (Below.drew rB) (fun hZ => ?_)
    refine uq 0 q040_84_4_0 13 hZ ?_
    refine uq 1 q040_84_4_1 14 hZ ?_
    refine uq 2 q040_84_4_2 15 hZ ?_
    refine uq 3 q040_84_4_3 16 hZ ?_
    refine uq 4 q040_84_4_4 17 hZ ?_
    refine ar1 5 q040_84_4_5 fun K hK => ?_
    go_simp
    refine Calls.mono (hCn _) ?_
    rintro e w1 ⟨rfl, hw1⟩
    have hx1 := below_same hw1
    clear hw1
    go_wp2_with fail
    refine hK.out _ _ (bthen hZ hx1) (fun hZ => ?_)
    clear hK K
    try simp only[Act.put,sa,s0,s1]
    refine uq 6 q040_84_4_6 19 hZ ?_
    refine uq 7 q040_84_4_7 20 hZ ?_
    refine um 8 q040_84_4_8 21 hZ ?_
    refine um 9 q040_84_4_9 22 hZ ?_
    refine um 10 q040_84_4_10 23 hZ ?_
    refine um 11 q040_84_4_11 24 hZ ?_
    refine um 12 q040_84_4_12 25 hZ ?_
    refine um 13 q040_84_4_13 26 hZ ?_
    refine um 14 q040_84_4_14 27 hZ ?_
    refine um 15 q040_84_4_15 28 hZ ?_
    refine uq 16 q040_84_4_16 29 hZ ?_
    refine uq 17 q040_84_4_17 30 hZ ?_
    refine um 18 q040_84_4_18 31 hZ ?_
    refine um 19 q040_84_4_19 32 hZ ?_
    refine um 20 q040_84_4_20 33 hZ ?_
    refine um 21 q040_84_4_21 34 hZ ?_
    refine um 22 q040_84_4_22 35 hZ ?_
    refine um 23 q040_84_4_23 36 hZ ?_
    refine um 24 q040_84_4_24 37 hZ ?_
    refine um 25 q040_84_4_25 38 hZ ?_
    refine um 26 q040_84_4_26 39 hZ ?_
    refine um 27 q040_84_4_27 40 hZ ?_
    refine um 28 q040_84_4_28 41 hZ ?_
    refine um 29 q040_84_4_29 42 hZ ?_
    refine um 30 q040_84_4_30 43 hZ ?_
    refine um 31 q040_84_4_31 44 hZ ?_
    refine um 32 q040_84_4_32 45 hZ ?_
    refine um 33 q040_84_4_33 46 hZ ?_
    refine uq 34 q040_84_4_34 47 hZ ?_
    refine wpAnyH_done (by kernel_rfl) ?_ _
    go_wp2_with fail
    go_ret
    exact ⟨by rw [HV.out]; rfl, bthen hbk hZ⟩
  ·have hkn : k = n := by omega
   have HT2 : Hid (l.drop k = []) := List.drop_of_length_le (by rw [HX.out]; omega)
   have HV : Hid (okE m.fInodes [] ByteArray.empty l = true) := by
    show _ = true
    rw [HI.out, HT2.out]
    rfl
   have HL : Hid ((okE m.fInodes [] ByteArray.empty l && decide (l.length <= 30)) = decide (n <= 30)) := by
    show _ = _
    rw [HV.out, HX.out, Bool.true_and]
   go_wp2_with fail
   go_ret
   have HD : Hid (decide ((n : Int) <= 30) = decide (n <= 30)) := decide_eq_decide.2 (by omega)
   exact ⟨by rw [HL.out, <- HD.out]; rfl, hbk⟩
end Go.Proofs.YtegonncmopecnaaGreatDoor
