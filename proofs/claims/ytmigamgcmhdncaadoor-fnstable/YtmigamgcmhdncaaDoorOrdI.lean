/-
  The order: the program's answer.
-/
import Derived.Test.YtmigamgcmhdncaaDoorRegK
import Derived.Test.YtmigamgcmhdncaaDoorOrdN
import Derived.Test.YtmigamgcmhdncaaDoorOrdD
import Derived.Test.YtmigamgcmhdncaaDoorCatDot
namespace Go.Proofs.YtmigamgcmhdncaaDoor
open Go.RowKit
set_option linter.unusedVariables false
set_option linter.unusedSimpArgs false
set_option maxRecDepth 10000
abbrev q00e_22_6_0 : Oper := ⟨some 15, .move (.tmp 3), 26, "l08_graph.go:130", #[], none⟩
abbrev q00e_22_6_1 : Oper := ⟨some 16, .load 30 (.tmp 1), 30, "l08_graph.go:130", #[], none⟩
abbrev q00e_22_6_2 : Oper := ⟨some 17, .move (.tmp 5), 62, "l08_graph.go:130", #[], none⟩
abbrev q00e_22_6_3 : Oper := ⟨some 18, .move (.tmp 6), 3, "l08_graph.go:130", #[], none⟩
abbrev q00e_22_6_4 : Oper := ⟨some 19, .indexAddr 62 (.tmp 17) (.tmp 18), 0, "l08_graph.go:130", #[⟨2, .data⟩, ⟨3, .data⟩], none⟩
abbrev q00e_22_6_5 : Oper := ⟨some 20, .fieldAddr 68 (.tmp 19) 0, 0, "l08_graph.go:130", #[⟨4, .data⟩], none⟩
abbrev q00e_22_6_6 : Oper := ⟨some 21, .load 66 (.tmp 20), 66, "l08_graph.go:130", #[⟨5, .data⟩], none⟩
abbrev q00e_22_6_7 : Oper := ⟨some 22, .call { callee := .value (.func 38), args := #[.tmp 16, .tmp 21], argTypes := #[30, 66] }, 26, "l08_graph.go:130", #[⟨1, .data⟩, ⟨6, .data⟩], none⟩
abbrev q00e_22_6_8 : Oper := ⟨some 23, .call { callee := .builtin .append, args := #[.tmp 15, .tmp 22], argTypes := #[26, 26] }, 26, "l08_graph.go:130", #[⟨0, .data⟩, ⟨7, .data⟩, ⟨7, .chain⟩], none⟩
abbrev q00e_22_6_9 : Oper := ⟨some 3, .assign (.tmp 23), 26, "l08_graph.go:130", #[⟨8, .data⟩, ⟨8, .chain⟩, ⟨0, .phase⟩, ⟨1, .phase⟩, ⟨2, .phase⟩, ⟨3, .phase⟩, ⟨4, .phase⟩, ⟨5, .phase⟩, ⟨6, .phase⟩, ⟨7, .phase⟩, ⟨8, .phase⟩], none⟩

def sliceLen : Value → Nat | .slice _ n _ => n | _ => 0

set_option maxHeartbeats 8000000 in
theorem implOrderOf_any (cs : List Value) (m : MGraph) (w : World) (hr : rGraph w.heap.size w cs m) (hw : wGraph m ≤ 1048576) (hT : TzAt w) :
    Calls Tryd.prog 22 #[.agg cs.toArray] w fun e w' => ∃ (v : Value) (L : List MDot), e = .returned v ∧ OrderL m L ∧ RowR 2 40 rDot w.heap.size w' w.heap.size v L ∧ Below w.heap.size w w' := by
  obtain ⟨iD, hiD, hzD0, hzD1, hzD2⟩ := info_parts Tryd.infoOfDot
  have HRG := Hid.mk hr
  have HWG := Hid.mk hw
  have HTZ := Hid.mk hT
  obtain ⟨a, cap, rfl, hL, _⟩ := hr
  obtain ⟨n, hx⟩ : ∃ n, n = m.fItems.length := ⟨_, rfl⟩
  rw [← hx] at HRG ⊢
  have HX := Hid.mk hx
  clear hL hx hw hT
  go_enter Tryd.func22, Tryd.ntmps22
  go_wp2_with fail
  obtain ⟨w1, hw1⟩ : ∃ x, x = (w.alloc (.cells #[.slice a n cap] 30)).alloc (.cells #[.int .u64 0, .int .u64 0] 66) := ⟨_, rfl⟩
  have hb01 : Below w.heap.size w w1 := by rw [hw1]; exact ((Below.refl _ _).alloc (Nat.le_refl _) _).alloc (by simp) _
  have hbx1 : Bx w1 w.heap.size [.slice a n cap] := by rw [hw1]; exact (Bx.new _ _ _).alloc _
  have hbt1 : Bw w1 (w.heap.size + 1) 66 (MSet.cells ⟨0, 0⟩) := by rw [hw1]; exact Bw.new' _ _ _ (by simp)
  have hz1 : w.heap.size + 2 ≤ w1.heap.size := by rw [hw1]; simp
  rw [← hw1]
  clear hw1
  refine (groupsOf_any [.slice a n cap] m w1 (rGraph_good.mono (rGraph_good.below HRG.out hb01) hb01.size) HWG.out (HTZ.out.below hb01)).mono ?_
  rintro e w2 ⟨v, gs, rfl, hGL, hRow, hx2⟩
  have hb02 := bthen hb01 hx2
  have hbx2 := hbx1.under hx2
  have hbt2 := hbt1.under hx2
  have hz2 : w1.heap.size ≤ w2.heap.size := hx2.size
  have HS0 := Hid.mk (OrdSt'.start hGL)
  have HR0 : Hid (RowR 4 68 rGrp w.heap.size w2 w1.heap.size v gs) := by
    obtain ⟨css, r1, r2, r3, r4⟩ := hRow
    exact ⟨css, r1, r2, fun j h1 h2 => r3 j h1 h2, r4⟩
  have HU0 : Hid (∀ b, v.ownBlock = some b → b < w2.heap.size) := fun b hb => (RowR.lt HR0.out b hb).2
  clear hRow hGL hx2 hbx1 hbt1
  go_wp2_with fail
  go_loopw [3, 5] (fun vo vl wr => ∃ (grs : List MGrp) (s : MSet) (L : List MDot), Hid (OrdSt' m grs s L) ∧ Hid (RowR 2 40 rDot w.heap.size wr w2.heap.size vo L) ∧ Hid (RowR 4 68 rGrp w.heap.size wr w1.heap.size vl grs) ∧ Hid (∀ b, vl.ownBlock = some b → b < w2.heap.size) ∧ Bw wr (w.heap.size + 1) 66 s.cells ∧ Bx wr w.heap.size [.slice a n cap] ∧ Below w.heap.size w wr ∧ w2.heap.size ≤ wr.heap.size) (fun _ vl _ => sliceLen vl)
  case atStart => exact ⟨gs, ⟨0, 0⟩, [], HS0, Hid.mk RowR.start, HR0, HU0, hbt2, hbx2, hb02, Nat.le_refl _⟩
  case round =>
    obtain ⟨grs, s, L, HS, HO, HG, HU, hbt, hbx, hbw, hzr⟩ := hrel
    clear HS0 HR0 HU0 hbt2 hbx2
    obtain ⟨al, cl, hvl, hLeaf⟩ := RowR.leaf rGrp_good HG.out hbw.size
    subst hvl
    by_cases h0 : 0 < grs.length
    · obtain ⟨ng, hng⟩ : ∃ q, q = grs.length := ⟨_, rfl⟩
      have hsh : ∃ g, al = some ⟨g, 0, none⟩ := by
        obtain ⟨css, r1, r2, r3, r4⟩ := HG.out
        rcases r4.2 with ⟨_, h⟩ | ⟨g, cap, cur, h, _⟩
        · omega
        · simp only [Value.slice.injEq] at h
          exact ⟨g, h.1⟩
      obtain ⟨gl, rfl⟩ := hsh
      have hgl1 : w1.heap.size ≤ gl := (RowR.lt HG.out gl rfl).1
      have hgl2 : gl < w2.heap.size := HU.out gl rfl
      have hgc : grs.length ≤ 100 := HS.out.2.2.1
      have hlc : L.length ≤ 10000 := HS.out.2.1
      have hnn : m.fItems.length ≤ 100 := HS.out.small h0
      have hng0 : (0 : Int) < (grs.length : Int) := by omega
      have hC := indexG_any (some ⟨gl, 0, none⟩) grs.length cl grs s (w.heap.size + 1) 66 wr rfl (by omega) hLeaf HS.out.1 hbt
      clear hng hLeaf
      go_wp2_with fail
      refine hC.mono ?_
      rintro e w3 ⟨hx3, ⟨rfl, hall⟩ | ⟨i, rfl, hi, hfi, hno⟩⟩
      · exact (HS.out.stuck h0 hall).elim
      have hbw3 := bthen hbw hx3
      have hbx3 := hbx.under hx3
      have hbt3 := hbt.under hx3
      have hz3 : wr.heap.size ≤ w3.heap.size := hx3.size
      have HO3 := Hid.mk (RowR.keep rDot_good HO.out hx3 hbw.size)
      have HG3 := Hid.mk (RowR.keep rGrp_good HG.out hx3 hbw.size)
      have HSn := Hid.mk (HS.out.step hi hfi hno)
      have HSok : Hid s.ok := HS.out.1
      obtain ⟨a3, c3, e3, hLf3⟩ := RowR.leaf rGrp_good HG3.out hbw3.size
      simp only [Value.slice.injEq, true_and] at e3
      obtain ⟨rfl, rfl⟩ := e3
      obtain ⟨b1, o1, he1, hB, cs, hcl, hcell, hcs, hom, hon⟩ := hLf3.2.2 i hi
      simp only [Option.some.injEq, Addr.mk.injEq, and_true] at he1
      obtain ⟨rfl, rfl⟩ := he1
      subst hcs
      have k0 := hcell 0 _ rfl
      have k1 := hcell 1 _ rfl
      rw [Nat.add_zero, Nat.zero_add] at k0
      rw [Nat.zero_add] at k1
      have hpl := pickT_len grs[i].mem.has m.fItems m.fItems.length
      obtain ⟨gi, hgi⟩ : ∃ g, g = grs[i] := ⟨_, rfl⟩
      rw [← hgi] at HSn k0 k1 hom hpl
      clear hcell hcl hLf3 hno hfi hgi hC HS HO HG hbt hx3
      have hi1 : (0 : Int) ≤ (i : Int) := by omega
      have hi2 : (i : Int) < (grs.length : Int) := by omega
      have x0 : ∀ W, Below w2.heap.size w3 W → W.cell? ⟨w.heap.size, 0, none⟩ = some (.slice a n cap) := fun W h => (hbx3.below h (by omega)).2 0 _ rfl
      have y0 : ∀ W, Below w2.heap.size w3 W → W.cell? ⟨gl, i * 4, none⟩ = some (.int .u64 (gi.mem.x0 : Int)) := fun W h => (h.cell (p := ⟨gl, i * 4, none⟩) hgl2).trans k0
      have y1 : ∀ W, Below w2.heap.size w3 W → W.cell? ⟨gl, i * 4 + 1, none⟩ = some (.int .u64 (gi.mem.x1 : Int)) := fun W h => (h.cell (p := ⟨gl, i * 4 + 1, none⟩) hgl2).trans k1
      have hCd := fun W (hb : Below w3.heap.size w3 W) => dotsAt_any [.slice a n cap] m gi.mem W (rGraph_good.mono (rGraph_good.below HRG.out (bthen hbw3 hb)) (bthen hbw3 hb).size) hom hnn
      rw [show gi.mem.cells.toArray = #[.int .u64 (gi.mem.x0 : Int), .int .u64 (gi.mem.x1 : Int)] from rfl] at hCd
      have HIN : Hid (iD.size = 2 ∧ iD.bytes = 16) := ⟨hzD1, hzD2⟩
      have hz23 : w2.heap.size ≤ w3.heap.size := by omega
      go_wp2_with fail
      refine wp_region_held_drew (S := fun W => Below w2.heap.size w3 W) (by kernel_rfl) (Below.drew (Below.refl _ _)) (fun hHeld => ?_)
      refine tk 0 q00e_22_6_0 (some 15) (v := ?v1) rfl rfl (by kernel_rfl) hHeld (by rfl) (fun _ _ _ x => x) (fun w h => ?y1) ?_; (case y1 => (try dsimp only at h); go_simp; try (with_reducible rfl)); try simp only [Act.put, sa, s0, s1]
      refine tk 1 q00e_22_6_1 (some 16) (v := ?v2) rfl rfl (by kernel_rfl) hHeld (by rfl) (fun _ _ _ x => x) (fun w h => ?y2) ?_; (case y2 => (try dsimp only at h); go_simp; try (with_reducible rfl)); try simp only [Act.put, sa, s0, s1]
      refine tk 2 q00e_22_6_2 (some 17) (v := ?v3) rfl rfl (by kernel_rfl) hHeld (by rfl) (fun _ _ _ x => x) (fun w h => ?y3) ?_; (case y3 => (try dsimp only at h); go_simp; try (with_reducible rfl)); try simp only [Act.put, sa, s0, s1]
      refine tk 3 q00e_22_6_3 (some 18) (v := ?v4) rfl rfl (by kernel_rfl) hHeld (by rfl) (fun _ _ _ x => x) (fun w h => ?y4) ?_; (case y4 => (try dsimp only at h); go_simp; try (with_reducible rfl)); try simp only [Act.put, sa, s0, s1]
      refine tk 4 q00e_22_6_4 (some 19) (v := ?v5) rfl rfl (by kernel_rfl) hHeld (by rfl) (fun _ _ _ x => x) (fun w h => ?y5) ?_; (case y5 => (try dsimp only at h); go_simp; try (with_reducible rfl)); try simp only [Act.put, sa, s0, s1]
      refine tk 5 q00e_22_6_5 (some 20) (v := ?v6) rfl rfl (by kernel_rfl) hHeld (by rfl) (fun _ _ _ x => x) (fun w h => ?y6) ?_; (case y6 => (try dsimp only at h); go_simp; try (with_reducible rfl)); try simp only [Act.put, sa, s0, s1]
      refine tk 6 q00e_22_6_6 (some 21) (v := ?v7) rfl rfl (by kernel_rfl) hHeld (by rfl) (fun _ _ _ x => x) (fun w h => ?y7) ?_; (case y7 => (try dsimp only at h); go_simp; try (with_reducible rfl)); try simp only [Act.put, sa, s0, s1]
      refine wpAnyH_ready (rs := [7]) (by kernel_rfl) (by simp) ?_
      refine AllReadyH.cons (o := q00e_22_6_7) rfl (fun K hK => ?_) AllReadyH.nil
      go_simp
      refine Calls.mono (hCd _ (Below.drew (Below.refl _ _))) ?_
      rintro e w4 ⟨vd, rfl, hRd, hx1⟩
      have hb34 : Below w3.heap.size w3 w4 := (Below.drew (Below.refl _ _)).trans hx1
      have hop1 : Below w2.heap.size w3 w4 := hb34.mono hz23
      obtain ⟨ad, cd, rfl, hLd⟩ := RowR.leaf rDot_good hRd hx1.size
      obtain ⟨css, r1, r2, r3, r4⟩ := RowR.keep rDot_good HO3.out hb34 hbw3.size
      obtain ⟨s1, t1, t2, t3, t4⟩ := Src.any oneDot (P := Tryd.prog) (n := (pickT gi.mem.has m.fItems m.fItems.length).length) (c := cd) Tryd.underlying26 rfl hLd.2.2
      have HR1 := Hid.mk r1
      have HR2 := Hid.mk r2
      have HR3 := Hid.mk r3
      have HR4 := Hid.mk r4
      have HT1 := Hid.mk t1
      have HT2 := Hid.mk t2
      have HT4 := Hid.mk t4
      have HT3 : Hid (∀ j, (h1 : j < (pickT gi.mem.has m.fItems m.fItems.length).length) → (h2 : j < s1.length) → rDot w.heap.size w4 s1[j] (pickT gi.mem.has m.fItems m.fItems.length)[j]) := (fun j h1 h2 => ⟨(t3 j h1 h2).1, (t3 j h1 h2).2.1, (t3 j h1 h2).2.2.1, trivial⟩)
      have hz34 : w3.heap.size ≤ w4.heap.size := hb34.size
      clear r1 r2 r3 r4 t1 t2 t3 t4 hRd hLd
      go_wp2_with fail
      refine hK.out _ _ (hop1) (fun hHeld => ?_)
      clear hK K
      try simp only [Act.put, sa, s0, s1]
      refine wpAnyH_ready (rs := [8]) (by kernel_rfl) (by simp) ?_
      refine AllReadyH.cons (o := q00e_22_6_8) rfl (fun K hK => ?_) AllReadyH.nil
      refine step_append_src w4 rfl _ _ 26 26 rfl w2.heap.size 40 iD (.agg (List.toArray [.int .i64 0, .int .i64 0])) 2 16 Tryd.underlying26 hiD hzD0 hzD1 hzD2 rfl u3 L.length css.flatten rfl HR4.out (.slice ad (pickT gi.mem.has m.fItems m.fItems.length).length cd) rfl (pickT gi.mem.has m.fItems m.fItems.length).length s1.flatten HT4.out (by unfold maxLen; omega) (by omega) (by omega) ?_
      intro v6 w6 ho6 hgr6 hat6
      have hb46 : Below w2.heap.size w4 w6 := (Below.refl _ _).grown hgr6 (by omega) (fun x hx => (HR4.out.lt x hx).1)
      have hop2 : Below w2.heap.size w3 w6 := (hb34.mono hz23).trans hb46
      refine hK.out _ _ (hop2) (fun hHeld => ?_)
      clear hK K
      try simp only [Act.put, sa, s0, s1]
      refine tk 9 q00e_22_6_9 (some 3) (v := ?v8) rfl rfl (by kernel_rfl) hHeld (by rfl) (fun _ _ _ x => x) (fun w h => ?y8) ?_; (case y8 => (try dsimp only at h); go_simp; try (with_reducible rfl)); try simp only [Act.put, sa, s0, s1]
      refine wpAnyH_done (by kernel_rfl) ?_ _
      have HRn : Hid (RowR 2 40 rDot w.heap.size w6 w2.heap.size v6 (L ++ pickT gi.mem.has m.fItems m.fItems.length)) := RowR.cat rDot_good HR1.out HR2.out HR3.out HT1.out HT2.out HT3.out (hb46.mono (by omega)) ho6
      have hb36 : Below w2.heap.size w3 w6 := hHeld
      have hbw6 : Below w.heap.size w w6 := hbw3.trans (hb36.mono (by omega))
      have hbx6 := hbx3.below hb36 (by omega)
      have hbt6 := hbt3.below hb36 (by omega)
      have hz6 : w3.heap.size ≤ w6.heap.size := hb36.size
      have z0 := y0 w6 hb36
      have z1 := y1 w6 hb36
      have HG6 : Hid (RowR 4 68 rGrp w.heap.size w6 w1.heap.size (.slice (some ⟨gl, 0, none⟩) grs.length cl) grs) := by
        obtain ⟨css, r1, r2, r3, r4⟩ := HG3.out
        exact ⟨css, r1, r2, fun j h1 h2 => r3 j h1 h2, own_of_block r4 (fun k hk => by simp [Value.ownBlock] at hk; subst hk; exact hb36.block gl hgl2)⟩
      clear hHeld x0 y0 y1 ho6 hgr6 hat6 hb34 hb46 HO3 HG3 hbt3 hbx3 hCd
      go_wp2_with fail
      refine (join_any (w.heap.size + 1) 0 66 s.cells s gi.mem w6 HSok.out hom hbt6 rfl rfl).mono ?_
      rintro e w7 ⟨rfl, hbt7, hT7⟩
      have hbw7 : Below w.heap.size w w7 := hbw6.trans (hT7.below (fun x hx => by simp at hx; omega) hbw6.size)
      have hbx7 := hbx6.turn hT7 (by simp)
      have hz7 : w6.heap.size ≤ w7.heap.size := hT7.size
      have HO7 : Hid (RowR 2 40 rDot w.heap.size w7 w2.heap.size v6 (L ++ pickT gi.mem.has m.fItems m.fItems.length)) := by
        obtain ⟨css, r1, r2, r3, r4⟩ := HRn.out
        exact ⟨css, r1, r2, fun j h1 h2 => by have h := r3 j h1 h2; exact ⟨h.1, h.2.1, h.2.2.1, trivial⟩, own_of_block r4 (fun k hk => hT7.block k (r4.lt k hk).2 (by have := (r4.lt k hk).1; simp; omega))⟩
      have HG7 : Hid (RowR 4 68 rGrp w.heap.size w7 w1.heap.size (.slice (some ⟨gl, 0, none⟩) grs.length cl) grs) := by
        obtain ⟨css, r1, r2, r3, r4⟩ := HG6.out
        exact ⟨css, r1, r2, fun j h1 h2 => r3 j h1 h2, own_of_block r4 (fun k hk => hT7.block k (r4.lt k hk).2 (by have := (r4.lt k hk).1; simp; omega))⟩
      clear hT7 z0 z1 HRn HG6 hbt6
      have hDel := deleteG_any gl grs.length cl i w.heap.size w1.heap.size grs w7 rfl hi (by omega) HG7.out
      go_wp2_with fail
      refine hDel.mono ?_
      rintro e w8 ⟨rfl, hG8, hT8⟩
      have hbw8 : Below w.heap.size w w8 := hbw7.trans (hT8.below (fun x hx => by simp at hx; omega) hbw7.size)
      have hbx8 := hbx7.turn hT8 (by simp; omega)
      have hbt8 := hbt7.turn hT8 (by simp; omega)
      have hz8 : w7.heap.size ≤ w8.heap.size := hT8.size
      have HG8 := Hid.mk hG8
      have HU8 : Hid (∀ b, (Value.slice (some ⟨gl, 0, none⟩) (grs.length - 1) cl).ownBlock = some b → b < w2.heap.size) := fun b hb => by simp [Value.ownBlock] at hb; omega
      have HO8 : Hid (RowR 2 40 rDot w.heap.size w8 w2.heap.size v6 (L ++ pickT gi.mem.has m.fItems m.fItems.length)) := by
        obtain ⟨css, r1, r2, r3, r4⟩ := HO7.out
        exact ⟨css, r1, r2, fun j h1 h2 => by have h := r3 j h1 h2; exact ⟨h.1, h.2.1, h.2.2.1, trivial⟩, own_of_block r4 (fun k hk => hT8.block k (r4.lt k hk).2 (by have := (r4.lt k hk).1; simp; omega))⟩
      clear hT8 hG8 HG7 HO7 hDel
      go_wp2_with fail
      go_roundw
      case rel => exact ⟨grs.eraseIdx i, s.join gi.mem, _, HSn, HO8, HG8, HU8, hbt8, hbx8, hbw8, by omega⟩
      case measure => simp [sliceLen]; omega
    · have hg0 : grs.length = 0 := by omega
      have HF := Hid.mk (HS.out.done hg0)
      have HRb := Hid.mk (RowR.base HO.out (show w.heap.size ≤ w2.heap.size by omega))
      rw [hg0]
      go_wp2_with fail
      go_ret
      exact ⟨_, L, rfl, HF.out, HRb.out, hbw⟩

end Go.Proofs.YtmigamgcmhdncaaDoor
