/-
  Part 6 of the texts that the proof leans on.
-/
import Derived.Test.YtegonncmopecnaaGreatDoorMnd0
import Derived.Test.YtegonncmopecnaaGreatDoorMnd4
import Derived.Test.YtegonncmopecnaaGreatDoorMnd2
import Derived.Test.YtegonncmopecnaaGreatDoorMnd3
import Derived.Deep.RegionHeld3
set_option linter.unusedVariables false
set_option linter.unusedSimpArgs false
set_option maxRecDepth 10000

namespace Go.Proofs.YtegonncmopecnaaGreatDoor
open Go.RowKit
abbrev q843_18_5_0 : Oper := ⟨some 29, .fieldAddr 27 (.tmp 3) 0, 0, "l02_files.go:276", #[], none⟩
abbrev q843_18_5_1 : Oper := ⟨some 30, .load 24 (.tmp 29), 24, "l02_files.go:276", #[⟨0, .data⟩], none⟩
abbrev q843_18_5_2 : Oper := ⟨some 31, .move (.tmp 4), 3, "l02_files.go:276", #[], none⟩
abbrev q843_18_5_3 : Oper := ⟨some 32, .fieldAddr 50 (.tmp 5) 0, 0, "l02_files.go:276", #[], none⟩
abbrev q843_18_5_4 : Oper := ⟨some 33, .load 3 (.tmp 32), 3, "l02_files.go:276", #[⟨3, .data⟩], none⟩
abbrev q843_18_5_5 : Oper := ⟨some 34, .fieldAddr 50 (.tmp 5) 1, 0, "l02_files.go:276", #[], none⟩
abbrev q843_18_5_6 : Oper := ⟨some 35, .load 22 (.tmp 34), 22, "l02_files.go:276", #[⟨5, .data⟩], none⟩
abbrev q843_18_5_8 : Oper := ⟨some 37, .fieldAddr 50 (.tmp 5) 2, 0, "l02_files.go:276", #[], none⟩
abbrev q843_18_5_9 : Oper := ⟨some 38, .load 3 (.tmp 37), 3, "l02_files.go:276", #[⟨8, .data⟩], none⟩
abbrev q843_18_5_7 : Oper := ⟨some 36, .call { callee := .value (.func 25), args := #[.tmp 35, .const (.slice none 0 0)], argTypes := #[22, 22] }, 22, "l02_files.go:276", #[⟨6, .data⟩], none⟩
abbrev q843_18_5_10 : Oper := ⟨some 39, .build 50 #[(0, .tmp 33), (1, .tmp 36), (2, .tmp 38)], 50, "l02_files.go:276", #[⟨4, .data⟩, ⟨7, .data⟩, ⟨9, .data⟩], none⟩
abbrev q843_18_5_11 : Oper := ⟨some 40, .indexAddr 24 (.tmp 30) (.tmp 31), 0, "l02_files.go:276", #[⟨1, .data⟩, ⟨2, .data⟩, ⟨0, .phase⟩, ⟨1, .phase⟩, ⟨2, .phase⟩, ⟨3, .phase⟩, ⟨4, .phase⟩, ⟨5, .phase⟩, ⟨6, .phase⟩, ⟨7, .phase⟩, ⟨8, .phase⟩, ⟨9, .phase⟩, ⟨10, .phase⟩], none⟩
abbrev q843_18_5_12 : Oper := ⟨none, .store 50 (.tmp 40) (.tmp 39), 0, "l02_files.go:276", #[⟨11, .data⟩, ⟨10, .data⟩, ⟨7, .chain⟩, ⟨0, .phase⟩, ⟨1, .phase⟩, ⟨2, .phase⟩, ⟨3, .phase⟩, ⟨4, .phase⟩, ⟨5, .phase⟩, ⟨6, .phase⟩, ⟨7, .phase⟩, ⟨8, .phase⟩, ⟨9, .phase⟩, ⟨10, .phase⟩], none⟩
theorem al_heap (w : World) (o : Obj) (k : Nat) : (w.alloc o).heap[k]? = if k = w.heap.size then some o else w.heap[k]? := by
 show (w.heap.push o)[k]? = _
 rw [Array.getElem?_push]
theorem drew_heap (w : World) : w.drew.heap = w.heap := rfl
theorem four0 (w : World) (a b c d : Obj) : ((((w.alloc a).alloc b).alloc c).alloc d).drew.heap[w.heap.size]? = some a := by
 rw [drew_heap, al_heap, if_neg (by simp; omega), al_heap, if_neg (by simp; omega), al_heap, if_neg (by simp), al_heap, if_pos rfl]
theorem four1 (w : World) (a b c d : Obj) : ((((w.alloc a).alloc b).alloc c).alloc d).drew.heap[w.heap.size + 1]? = some b := by
 rw [drew_heap, al_heap, if_neg (by simp), al_heap, if_neg (by simp), al_heap, if_pos (by simp)]
theorem four2 (w : World) (a b c d : Obj) : ((((w.alloc a).alloc b).alloc c).alloc d).drew.heap[w.heap.size + 1 + 1]? = some c := by
 rw [drew_heap, al_heap, if_neg (by simp), al_heap, if_pos (by simp)]
theorem four3 (w : World) (a b c d : Obj) : ((((w.alloc a).alloc b).alloc c).alloc d).drew.heap[w.heap.size + 1 + 1 + 1]? = some d := by
 rw [drew_heap, al_heap, if_pos (by simp)]
set_option maxHeartbeats 2000000 in
theorem copyDisk_any (cs : List Value) (m : MDisk) (w : World) (hr : rDisk w.heap.size w cs m) (hw : wDisk m <= 1048576) :
  Calls Tryz.prog 18 #[.agg cs.toArray] w fun e w' => ∃ (cs' : List Value) (F : List Nat), e = .returned (.agg cs'.toArray) /\ oDisk w' cs' m F /\ F.Nodup /\ (∀ b, b ∈ F -> w.heap.size <= b) /\ Below w.heap.size w w' := by
 have hq := hr
 obtain ⟨a0, c0, a1, c1, a2, c2, rfl, hI, hNm, hSf, hnx, _⟩ := hq
 have hw2 : m.fInodes.length + sumW wInode m.fInodes + (m.fNames.length + sumW wEntry m.fNames) + (m.fSafe.length + sumW wEntry m.fSafe) <= 1048576 := hw
 obtain ⟨iI, hiI, hzI0, hzI1, hzI2⟩ := info_parts Tryz.infoOfInode
 obtain ⟨iE, hiE, hzE0, hzE1, hzE2⟩ := info_parts Tryz.infoOfEntry
 have mk0 : ∀ W : World, (Instr.makeSlice 24 (.int .i64 (m.fInodes.length : Int)) (.int .i64 (m.fInodes.length : Int))).run Tryz.prog W = .ok (.slice (some ⟨W.heap.size, 0, none⟩) m.fInodes.length m.fInodes.length) (W.alloc (.cells (madeCells #[.int .i64 0, .slice none 0 0, .int .i64 0] (m.fInodes.length * 3)) 50)) := fun W => by
  have h := run_make (P := Tryz.prog) W 24 50 iI _ Tryz.underlying24 hiI hzI0 .i64 .i64 (m.fInodes.length : Int) (m.fInodes.length : Int) (by omega) (by omega) (by rw [hzI2]; omega) (by omega)
  rw [hzI1] at h
  simpa [Value.cells] using h
 have mk1 : ∀ W : World, (Instr.makeSlice 25 (.int .i64 (m.fNames.length : Int)) (.int .i64 (m.fNames.length : Int))).run Tryz.prog W = .ok (.slice (some ⟨W.heap.size, 0, none⟩) m.fNames.length m.fNames.length) (W.alloc (.cells (madeCells #[.string ⟨#[]⟩, .int .i64 0] (m.fNames.length * 2)) 74)) := fun W => by
  have h := run_make (P := Tryz.prog) W 25 74 iE _ Tryz.underlying25 hiE hzE0 .i64 .i64 (m.fNames.length : Int) (m.fNames.length : Int) (by omega) (by omega) (by rw [hzE2]; omega) (by omega)
  rw [hzE1] at h
  simpa [Value.cells] using h
 have mk2 : ∀ W : World, (Instr.makeSlice 25 (.int .i64 (m.fSafe.length : Int)) (.int .i64 (m.fSafe.length : Int))).run Tryz.prog W = .ok (.slice (some ⟨W.heap.size, 0, none⟩) m.fSafe.length m.fSafe.length) (W.alloc (.cells (madeCells #[.string ⟨#[]⟩, .int .i64 0] (m.fSafe.length * 2)) 74)) := fun W => by
  have h := run_make (P := Tryz.prog) W 25 74 iE _ Tryz.underlying25 hiE hzE0 .i64 .i64 (m.fSafe.length : Int) (m.fSafe.length : Int) (by omega) (by omega) (by rw [hzE2]; omega) (by omega)
  rw [hzE1] at h
  simpa [Value.cells] using h
 clear hiI hzI0 hzI1 hzI2 hiE hzE0 hzE1 hzE2
 go_enter Tryz.func18, Tryz.ntmps18
 go_wp2_with fail
 obtain ⟨wq, hwq⟩ : ∃ wq, wq = (w.alloc (.cells #[.slice a0 m.fInodes.length c0, .slice a1 m.fNames.length c1, .slice a2 m.fSafe.length c2, .int .i64 m.fNext] 27)).alloc (.cells #[.slice none 0 0, .slice none 0 0, .slice none 0 0, .int .i64 0] 27) := ⟨_, rfl⟩
 have hbW : Below w.heap.size w wq := by rw [hwq]; exact (rB.alloc rN _).alloc (by simp) _
 have hbx : Bx wq w.heap.size [.slice a0 m.fInodes.length c0, .slice a1 m.fNames.length c1, .slice a2 m.fSafe.length c2, .int .i64 m.fNext] := by rw [hwq]; exact (Bx.new _ _ _).alloc _
 have hres : wq.heap[w.heap.size + 1]? = some (.cells #[.slice none 0 0, .slice none 0 0, .slice none 0 0, .int .i64 0] 27 (0, 0)) := by rw [hwq, al_heap, if_pos (by simp)]
 have HRES := Hm hres
 clear hres
 rw [<- hwq]
 clear hwq
 have p0 : ∀ W, Below wq.heap.size wq W -> W.cell? ⟨w.heap.size, 0, none⟩ = some (.slice a0 m.fInodes.length c0) := fun W hb => (hbx.under hb).2 0 _ rfl
 have p1 : ∀ W, Below wq.heap.size wq W -> W.cell? ⟨w.heap.size, 1, none⟩ = some (.slice a1 m.fNames.length c1) := fun W hb => (hbx.under hb).2 1 _ rfl
 have p2 : ∀ W, Below wq.heap.size wq W -> W.cell? ⟨w.heap.size, 2, none⟩ = some (.slice a2 m.fSafe.length c2) := fun W hb => (hbx.under hb).2 2 _ rfl
 have p3 : ∀ W, Below wq.heap.size wq W -> W.cell? ⟨w.heap.size, 3, none⟩ = some (.int .i64 m.fNext) := fun W hb => (hbx.under hb).2 3 _ rfl
 refine Code.wp_mono (Q := fun e a' w' => e = .normal /\ ∃ g0 g1 g2 gb : Nat, a' = { tmps := #[.agg #[.slice a0 m.fInodes.length c0, .slice a1 m.fNames.length c1, .slice a2 m.fSafe.length c2, .int .i64 m.fNext], .pointer (some ⟨w.heap.size, 0, none⟩), .pointer (some ⟨w.heap.size + 1, 0, none⟩), .pointer (some ⟨gb, 0, none⟩), undef, undef, .pointer (some ⟨w.heap.size, 0, none⟩), .slice a0 m.fInodes.length c0, .int .i64 m.fInodes.length, .slice (some ⟨g0, 0, none⟩) m.fInodes.length m.fInodes.length, .pointer (some ⟨w.heap.size, 1, none⟩), .slice a1 m.fNames.length c1, .int .i64 m.fNames.length, .slice (some ⟨g1, 0, none⟩) m.fNames.length m.fNames.length, .pointer (some ⟨w.heap.size, 2, none⟩), .slice a2 m.fSafe.length c2, .int .i64 m.fSafe.length, .slice (some ⟨g2, 0, none⟩) m.fSafe.length m.fSafe.length, .pointer (some ⟨w.heap.size, 3, none⟩), .int .i64 m.fNext, .agg #[.slice (some ⟨g0, 0, none⟩) m.fInodes.length m.fInodes.length, .slice (some ⟨g1, 0, none⟩) m.fNames.length m.fNames.length, .slice (some ⟨g2, 0, none⟩) m.fSafe.length m.fSafe.length, .int .i64 m.fNext], undef, undef, undef, undef, undef, undef, undef, undef, undef, undef, undef, undef, undef, undef, undef, undef, undef, undef, undef, undef, undef, undef, undef, undef, undef, undef, undef, undef, undef, undef, undef, undef], defers := [] } /\ (wq.heap.size <= g0 /\ wq.heap.size <= g1 /\ wq.heap.size <= g2 /\ wq.heap.size <= gb /\ g0 ≠ g1 /\ g0 ≠ g2 /\ g1 ≠ g2 /\ gb ≠ g0 /\ gb ≠ g1 /\ gb ≠ g2) /\
   w'.heap[g0]? = some (.cells (madeCells #[.int .i64 0, .slice none 0 0, .int .i64 0] (m.fInodes.length * 3)) 50 (0, 0)) /\ w'.heap[g1]? = some (.cells (madeCells #[.string ⟨#[]⟩, .int .i64 0] (m.fNames.length * 2)) 74 (0, 0)) /\ w'.heap[g2]? = some (.cells (madeCells #[.string ⟨#[]⟩, .int .i64 0] (m.fSafe.length * 2)) 74 (0, 0)) /\
   w'.heap[gb]? = some (.cells #[.slice (some ⟨g0, 0, none⟩) m.fInodes.length m.fInodes.length, .slice (some ⟨g1, 0, none⟩) m.fNames.length m.fNames.length, .slice (some ⟨g2, 0, none⟩) m.fSafe.length m.fSafe.length, .int .i64 m.fNext] 27 (0, 0)) /\ Below wq.heap.size wq w') ?mono ?reg
 case reg =>
  go_region_held3 (fun W => Below wq.heap.size wq W) (first | exact Below.drew rB | (repeat (first | with_reducible assumption | with_reducible refine Below.setCell ?_ (by first | (simp; done) | (simp; omega)) _ | with_reducible refine Below.alloc ?_ (by first | exact rN | (simp; done) | (simp; omega)) _ | with_reducible refine Below.drew ?_ | with_reducible exact rB))) (fail)
  all_goals
   refine ⟨rfl, _, _, _, _, rfl, by omega, ?_, ?_, ?_, ?_, by repeat (first | with_reducible assumption | with_reducible refine Below.alloc ?_ (by first | exact rN | (simp; done) | (simp; omega)) _ | with_reducible refine Below.drew ?_ | with_reducible exact rB)⟩
   all_goals first | exact four0 _ _ _ _ _ | exact four1 _ _ _ _ _ | exact four2 _ _ _ _ _ | exact four3 _ _ _ _ _
 case mono =>
  rintro e a' w1 ⟨rfl, g0, g1, g2, gb, rfl, hgs, hg0, hg1, hg2, hgb, hb1⟩
  obtain ⟨hs0, hs1, hs2, hs3, hd1, hd2, hd3, hd4, hd5, hd6⟩ := hgs
  have hbA := bthen hbW hb1
  have hq1 := hb1.size
  have hq0 := hbW.size
  have l0 : g0 < w1.heap.size := (Array.getElem?_eq_some_iff.1 hg0).1
  have l1 : g1 < w1.heap.size := (Array.getElem?_eq_some_iff.1 hg1).1
  have l2 : g2 < w1.heap.size := (Array.getElem?_eq_some_iff.1 hg2).1
  have lb : gb < w1.heap.size := (Array.getElem?_eq_some_iff.1 hgb).1
  have hF0 : Fill 3 50 oInode w1 g0 m.fInodes.length m.fInodes 0 [] := ⟨⟨_, hg0, by rw [size_madeCells], (fun j _ hj => by omega)⟩, rfl, (fun b hb => by simp at hb), by simp⟩
  have hbx1 := hbx.under hb1
  have hlx := hbx.1
  have HB1 := Hm hb1
  have HQ2 : Hid (w.heap.size + 1 < wq.heap.size) := (Array.getElem?_eq_some_iff.1 HRES.out).1
  have hQ2 := HQ2.out
  have HG0 := Hm hg0
  have HG1 := Hm hg1
  have HG2 := Hm hg2
  have HGB := Hm hgb
  have HI := Hm hI
  have HN := Hm hNm
  have HS := Hm hSf
  have HBA := Hm hbA
  have HX := Hm hbx1
  have HF0 := Hm hF0
  have cb := fun (W : World) (hT : Turn [g0] w1 W) (j : Nat) (u : Value) (hu : (#[Value.slice (some ⟨g0, 0, none⟩) m.fInodes.length m.fInodes.length, .slice (some ⟨g1, 0, none⟩) m.fNames.length m.fNames.length, .slice (some ⟨g2, 0, none⟩) m.fSafe.length m.fSafe.length, .int .i64 m.fNext] : Array Value)[j]? = some u) => (show W.cell? ⟨gb, j, none⟩ = some u by rw [hT.cell (p := ⟨gb, j, none⟩) lb (by simp; omega), cell_of_row w1 gb j _ _ (0, 0) HGB.out]; exact hu)
  have ca := fun (W : World) (hT : Turn [g0] w1 W) => HX.out.turn hT (by simp; omega)
  have HCB := Hm cb
  have HCA := Hm ca
  clear hr hI hNm hSf hg0 hg1 hg2 hgb hbA hbx hbx1 p0 p1 p2 p3 mk0 mk1 mk2 hb1 hbW hF0 cb ca hw
  have x0 := (HCA.out w1 (Turn.refl _ _)).2 0 _ rfl
  go_wp2_with fail
  go_loopw [24] (fun i wr => ∃ (k : Nat) (Fs : List (List Nat)), k <= m.fInodes.length /\ i = .int .i64 k /\ Fill 3 50 oInode wr g0 m.fInodes.length m.fInodes k Fs /\ (∀ b, b ∈ Fs.flatten -> w1.heap.size <= b) /\ Turn [g0] w1 wr) (fun i _ => m.fInodes.length - (intOf i).toNat)
  case atStart => exact ⟨0, [], Nat.zero_le _, rfl, HF0.out, (fun b hb => by simp at hb), Turn.refl _ _⟩
  case round =>
   obtain ⟨k, Fs, hk, rfl, hFk, hFge, hTk⟩ := hrel
   have HFk := Hm hFk
   have HTk := Hm hTk
   have hsz := hTk.size
   have HGE := Hm hFge
   clear hFk hFge x0
   by_cases hlt : k < m.fInodes.length
   ·have hbR := Turn.under HBA.out hTk (fun k hk => by simp at hk; omega)
    have hwk := sumW_le (f := wInode) hlt
    obtain ⟨b1, o1, rfl, hB, cs, hcl, hcell, hrT⟩ := (HI.out.2.2.below rInode_good hbR) k hlt
    obtain ⟨n, hn⟩ : ∃ n, m.fInodes[k] = n := ⟨_, rfl⟩
    rw [hn] at hrT hwk
    have HNd : Hid (m.fInodes[k] = n) := hn
    clear hn
    obtain ⟨ad, cd, rfl, hid, hda, hsu, _⟩ := hrT
    have k0 := hcell 0 _ rfl
    have k1 := hcell 1 _ rfl
    have k2 := hcell 2 _ rfl
    rw [Nat.add_zero] at k0
    have hdl : n.fData.length <= 1048576 := by have : wInode n = n.fData.length := rfl; omega
    have HDA := Hm hda
    have HBR := Hm hbR
    clear hcell hcl hwk hda hbR hTk
    go_wp2_with fail
    obtain ⟨wi, hwi⟩ : ∃ wi, wi = wr.alloc (.cells #[.int .i64 n.fId, .slice ad n.fData.length cd, .int .i64 n.fSure] 50) := ⟨_, rfl⟩
    have hbi : Below wr.heap.size wr wi := by rw [hwi]; exact rB.alloc rN _
    have hbn : Bx wi wr.heap.size [.int .i64 n.fId, .slice ad n.fData.length cd, .int .i64 n.fSure] := by rw [hwi]; exact Bx.new _ _ _
    have hzi : wi.heap.size = wr.heap.size + 1 := by rw [hwi]; simp
    rw [<- hwi]
    clear hwi k0 k1 k2
    have hTi : Turn [g0] w1 wi := HTk.out.trans (Turn.ofBelow hbi)
    have y0 : ∀ W, Turn [g0] wi W -> W.cell? ⟨gb, 0, none⟩ = some (.slice (some ⟨g0, 0, none⟩) m.fInodes.length m.fInodes.length) := fun W hT => HCB.out W (hTi.trans hT) 0 _ rfl
    have n0 : ∀ W, Turn [g0] wi W -> W.cell? ⟨wr.heap.size, 0, none⟩ = some (.int .i64 n.fId) := fun W hT => (hbn.turn hT (by simp; omega)).2 0 _ rfl
    have n1 : ∀ W, Turn [g0] wi W -> W.cell? ⟨wr.heap.size, 1, none⟩ = some (.slice ad n.fData.length cd) := fun W hT => (hbn.turn hT (by simp; omega)).2 1 _ rfl
    have n2 : ∀ W, Turn [g0] wi W -> W.cell? ⟨wr.heap.size, 2, none⟩ = some (.int .i64 n.fSure) := fun W hT => (hbn.turn hT (by simp; omega)).2 2 _ rfl
    have hCj := fun (W : World) (hT : Turn [g0] wi W) => joinBytes_any ad none cd 0 n.fData [] W (LeafB.mono (HDA.out.below ((hbi.mono HBR.out.size).trans (hT.below (fun k hk => by simp at hk; omega) (by omega)))) (by have := hT.size; have := HBR.out.size; omega)) ⟨by simp, by omega, (fun j hj => by simp at hj), (fun z hz => by cases hz)⟩ (by omega) (by simp)
    simp only [List.append_nil, List.length_nil] at hCj
    have HTI := Hm hTi
    have HBI := Hm hbi
    clear hbn hTi hbi
    refine wp_region_held_drew (S := fun W => Turn [g0] wi W) (by kernel_rfl) (Turn.ofBelow (Below.drew rB)) (fun hZ => ?_)
    refine uq 0 q843_18_5_0 29 hZ ?_
    refine uq 1 q843_18_5_1 30 hZ ?_
    refine uq 2 q843_18_5_2 31 hZ ?_
    refine uq 3 q843_18_5_3 32 hZ ?_
    refine uq 4 q843_18_5_4 33 hZ ?_
    refine uq 5 q843_18_5_5 34 hZ ?_
    refine uq 6 q843_18_5_6 35 hZ ?_
    refine uq 8 q843_18_5_8 37 hZ ?_
    refine uq 9 q843_18_5_9 38 hZ ?_
    refine ar1 7 q843_18_5_7 fun K hK => ?_
    go_simp
    refine Calls.mono (hCj _ hZ) ?_
    rintro e w2 ⟨v2, F2, rfl, ho2, hN2, hge2, hx1⟩
    have hge2o : ∀ b, b ∈ F2 -> wi.heap.size <= b := fun b hb => Nat.le_trans (hZ.size) (hge2 b hb)
    clear hge2
    obtain ⟨ar, cr, rfl, _⟩ := id ho2.read
    go_wp2_with fail
    refine hK.out _ _ (hZ.trans (Turn.ofBelow hx1)) (fun hZ => ?_)
    clear hK K
    try simp only[Act.put,sa,s0,s1]
    refine uq 10 q843_18_5_10 39 hZ ?_
    refine uq 11 q843_18_5_11 40 hZ ?_
    refine ar1 12 q843_18_5_12 fun K hK => ?_
    go_simp
    have hbs : Below wi.heap.size wi w2 := bthen (Below.drew rB) hx1
    have hF1 := HFk.out.keep oInode_good (by omega) (bthen HBI.out hbs)
    obtain ⟨u0, q0⟩ := hF1.cells hlt 0 (by omega)
    have r0 := hF1.free (k * 3 + 0)
    obtain ⟨u1, q1⟩ := hF1.cells hlt 1 (by omega)
    have r1 := hF1.free (k * 3 + 1)
    obtain ⟨u2, q2⟩ := hF1.cells hlt 2 (by omega)
    have r2 := hF1.free (k * 3 + 2)
    rw [Nat.add_zero] at q0 r0
    go_simp
    refine hK.out _ _ (Turn.setCell (Turn.setCell (Turn.setCell (Turn.ofBelow hbs) (by simp) _) (by simp) _) (by simp) _) (fun hZ => ?_)
    clear hK K
    try simp only[Act.put,sa,s0,s1]
    refine wpAnyH_done (by kernel_rfl) ?_ _
    have hst := Fill.step (w1 := w2) oInode_good HFk.out (by omega) hlt hlt (bthen HBI.out hbs) (cs := [.int .i64 n.fId, .slice ar n.fData.length cr, .int .i64 n.fSure]) (F := F2 ++ []) (by rw [HNd.out]; exact ⟨_, F2, rfl, hid, ho2, hsu, rfl⟩) (fun b hb => by have := hge2o b (by simpa using hb); omega) (by simpa using hN2)
    have hT2 : Turn [g0] w1 (w2.setCells g0 (k * 3) [.int .i64 n.fId, .slice ar n.fData.length cr, .int .i64 n.fSure]) := HTI.out.trans hZ
    have hge3 : ∀ b, b ∈ (Fs ++ [F2 ++ []]).flatten -> w1.heap.size <= b := by
     intro b hb
     rw [List.flatten_append, List.mem_append] at hb
     rcases hb with hb | hb
     ·exact HGE.out b hb
     ·have := hge2o b (by simpa using hb); omega
    clear hZ hF1 q0 q1 q2 r0 r1 r2
    go_wp2_with fail
    go_roundw
    case rel => exact ⟨k + 1, Fs ++ [F2 ++ []], by omega, by go_num, hst, hge3, hT2⟩
    case measure => simp [intOf]; omega
   ·have hkn : k = m.fInodes.length := by omega
    subst hkn
    have hd := HFk.out.done rfl (by unfold maxLen; omega)
    have hbR := Turn.under HBA.out hTk (fun k hk => by simp at hk; omega)
    have x1 := (HCA.out wr hTk).2 1 _ rfl
    have x2 := (HCA.out wr hTk).2 2 _ rfl
    have z1 := HCB.out wr hTk 1 _ rfl
    have z2 := HCB.out wr hTk 2 _ rfl
    have hgr1 : wr.heap[g1]? = _ := (hTk.block g1 l1 (by simp; omega)).trans HG1.out
    have hrn := HN.out.2.2.below rEntry_good hbR
    have HD := Hm hd
    have HGE2 := HGE
    clear hd
    have c1f := fun (W : World) (hT : Turn [g1] wr W) (j : Nat) (u : Value) (hu : wr.cell? ⟨gb, j, none⟩ = some u) => (hT.cell (p := ⟨gb, j, none⟩) (by simp; omega) (by simp; omega)).trans hu
    have d1f := fun (W : World) (hT : Turn [g1] wr W) (j : Nat) (u : Value) (hu : wr.cell? ⟨w.heap.size, j, none⟩ = some u) => (hT.cell (p := ⟨w.heap.size, j, none⟩) (by simp; omega) (by simp; omega)).trans hu
    have hgr2 : ∀ W, Turn [g1] wr W -> W.heap[g2]? = some (.cells (madeCells #[.string ⟨#[]⟩, .int .i64 0] (m.fSafe.length * 2)) 74 (0, 0)) := fun W hT => (hT.block g2 (by omega) (by simp; omega)).trans ((hTk.block g2 l2 (by simp; omega)).trans HG2.out)
    have hrs : ∀ W, Turn [g1] wr W -> RdS 2 rEntry w.heap.size W a2 m.fSafe := fun W hT => HS.out.2.2.below rEntry_good (hbR.trans (hT.below (fun k hk => by simp at hk; omega) hbR.size))
    have hall := fun (W W2 : World) (hT1 : Turn [g1] wr W) (hT2 : Turn [g2] W W2) => (show W2.cell? ⟨gb, 0, none⟩ = some (.slice (some ⟨g0, 0, none⟩) m.fInodes.length m.fInodes.length) /\ W2.cell? ⟨gb, 1, none⟩ = some (.slice (some ⟨g1, 0, none⟩) m.fNames.length m.fNames.length) /\ W2.cell? ⟨gb, 2, none⟩ = some (.slice (some ⟨g2, 0, none⟩) m.fSafe.length m.fSafe.length) /\ W2.cell? ⟨gb, 3, none⟩ = some (.int .i64 m.fNext) /\ W2.cell? ⟨w.heap.size + 1, 0, none⟩ = some (.slice none 0 0) /\ W2.cell? ⟨w.heap.size + 1, 1, none⟩ = some (.slice none 0 0) /\ W2.cell? ⟨w.heap.size + 1, 2, none⟩ = some (.slice none 0 0) /\ W2.cell? ⟨w.heap.size + 1, 3, none⟩ = some (.int .i64 0) /\ W2.frozen? ⟨w.heap.size + 1, 0, none⟩ = false /\ W2.frozen? ⟨w.heap.size + 1, 1, none⟩ = false /\ W2.frozen? ⟨w.heap.size + 1, 2, none⟩ = false /\ W2.frozen? ⟨w.heap.size + 1, 3, none⟩ = false from by
     have hz1 := hT1.size
     have cc : ∀ j u, wr.cell? ⟨gb, j, none⟩ = some u -> W2.cell? ⟨gb, j, none⟩ = some u := fun j u hu => (hT2.cell (p := ⟨gb, j, none⟩) (by simp; omega) (by simp; omega)).trans (c1f W hT1 j u hu)
     have hr2 : W2.heap[w.heap.size + 1]? = some (.cells #[.slice none 0 0, .slice none 0 0, .slice none 0 0, .int .i64 0] 27 (0, 0)) := by
      rw [hT2.block _ (by omega) (by simp; omega), hT1.block _ (by omega) (by simp; omega), hTk.block _ (by omega) (by simp; omega), HB1.out.block _ HQ2.out]
      exact HRES.out
     refine ⟨cc 0 _ (HCB.out wr hTk 0 _ rfl), cc 1 _ z1, cc 2 _ z2, cc 3 _ (HCB.out wr hTk 3 _ rfl), ?_, ?_, ?_, ?_, frozen_of_row _ _ _ _ _ hr2, frozen_of_row _ _ _ _ _ hr2, frozen_of_row _ _ _ _ _ hr2, frozen_of_row _ _ _ _ _ hr2⟩
     all_goals (rw [cell_of_row _ _ _ _ _ (0, 0) hr2]; rfl))
    have HALL := Hm hall
    clear hall
    have HC1 := Hm c1f
    have HD1 := Hm d1f
    have HG2' := Hm hgr2
    have HRS' := Hm hrs
    clear c1f d1f hgr2 hrs
    go_wp2_with (first
     | (refine wpList_copy_ent rfl _ _ 25 25 rfl 74 Tryz.underlying25 (by kernel_rfl) g1 m.fNames.length c1 a1 rfl rfl _ hgr1 (by rw [size_madeCells]) m.fNames rfl w.heap.size hrn (by unfold maxLen; omega) ?_; intro w2 how1 hT1; have x2' := HD1.out w2 hT1 2 _ x2; have z2' := HC1.out w2 hT1 2 _ z2; have hgr2 := HG2'.out w2 hT1; have hrs := HRS'.out w2 hT1)
     | (refine wpList_copy_ent rfl _ _ 25 25 rfl 74 Tryz.underlying25 (by kernel_rfl) g2 m.fSafe.length c2 a2 rfl rfl _ hgr2 (by rw [size_madeCells]) m.fSafe rfl w.heap.size hrs (by unfold maxLen; omega) ?_; intro w3 how2 hT2; have hA3 := HALL.out w2 w3 hT1 hT2; obtain ⟨v0, v1, v2, v3, e0, e1, e2, e3, f0, f1, f2, f3⟩ := hA3))
    have hAbv : Above (w.heap.size + 2) w3 ((((w3.setCell ⟨w.heap.size + 1, 0, none⟩ (.slice (some ⟨g0, 0, none⟩) m.fInodes.length m.fInodes.length)).setCell ⟨w.heap.size + 1, 1, none⟩ (.slice (some ⟨g1, 0, none⟩) m.fNames.length m.fNames.length)).setCell ⟨w.heap.size + 1, 2, none⟩ (.slice (some ⟨g2, 0, none⟩) m.fSafe.length m.fSafe.length)).setCell ⟨w.heap.size + 1, 3, none⟩ (.int .i64 m.fNext)) := (((((Above.refl _ _).setCell (by simp) _).setCell (by simp) _).setCell (by simp) _).setCell (by simp) _)
    have hz2 := hT1.size
    have hz3 := hT2.size
    have hwq2 := HQ2.out
    refine bodyPost_ret (v := .agg #[.slice (some ⟨g0, 0, none⟩) m.fInodes.length m.fInodes.length, .slice (some ⟨g1, 0, none⟩) m.fNames.length m.fNames.length, .slice (some ⟨g2, 0, none⟩) m.fSafe.length m.fSafe.length, .int .i64 m.fNext]) (by simp [results, Tryz.results18, go_sem, *]) rfl ⟨[.slice (some ⟨g0, 0, none⟩) m.fInodes.length m.fInodes.length, .slice (some ⟨g1, 0, none⟩) m.fNames.length m.fNames.length, .slice (some ⟨g2, 0, none⟩) m.fSafe.length m.fSafe.length, .int .i64 m.fNext], (g0 :: Fs.flatten) ++ [g1] ++ [g2] ++ [], rfl, ?_, ?_, ?_, ?_⟩
    ·refine ⟨_, g0 :: Fs.flatten, _, [g1], _, [g2], rfl, ?_, ?_, ?_, hnx, rfl⟩
     ·refine ownS.frame oInode_good HD.out.1 (fun b hb => ?_)
      have hbl : b < wr.heap.size := ownS.lt oInode_good HD.out.1 b hb
      have hbg : w.heap.size + 2 <= b /\ b ≠ g1 /\ b ≠ g2 := by
       rcases List.mem_cons.1 hb with rfl | hb
       ·omega
       ·have := HGE.out b hb; omega
      rw [hAbv.block b hbg.1 (by omega), hT2.block b (by omega) (by simp; omega), hT1.block b hbl (by simp; omega)]
     ·refine ownS.frame oEntry_good how1 (fun b hb => ?_)
      have hb : b = g1 := by simpa using hb
      subst hb
      rw [hAbv.block b (by omega) (by omega), hT2.block b (by omega) (by simp; omega)]
     ·refine ownS.frame oEntry_good how2 (fun b hb => ?_)
      have hb : b = g2 := by simpa using hb
      subst hb
      rw [hAbv.block b (by omega) (by omega)]
    ·rw [List.append_nil, List.append_assoc]
     refine List.nodup_append.2 ⟨HD.out.2, by simp; omega, fun x hx y hy hxy => ?_⟩
     subst hxy
     simp at hy
     rcases List.mem_cons.1 hx with rfl | hx
     ·omega
     ·have := HGE.out x hx; omega
    ·intro b hb
     simp at hb
     rcases hb with rfl | hb | rfl | rfl
     ·omega
     ·obtain ⟨G, hG, hbG⟩ := hb
      have := HGE.out b (List.mem_flatten.2 ⟨G, hG, hbG⟩); omega
     ·omega
     ·omega
    ·have hB3 : Below w.heap.size w w3 := (hbR.trans (hT1.below (fun k hk => by simp at hk; omega) hbR.size)).trans (hT2.below (fun k hk => by simp at hk; omega) (by omega))
     repeat (first | with_reducible exact hB3 | refine Below.setCell ?_ (by simp) _)
theorem own_lit0 (w : World) (base e size : Nat) (h : base <= w.heap.size) : (w.alloc (.cells #[] e)).ownsRow base e size (.slice (some ⟨w.heap.size, 0, none⟩) 0 0) 0 [] :=
 ⟨by simp, .inr ⟨w.heap.size, 0, #[], rfl, h, heap_alloc_new w _, by omega, by simp [maxLen], by simp, by simp⟩⟩
theorem lit_new {wq p : World} (e size : Nat) (h : wq.heap.size <= p.heap.size) : ∃ (x : World) (g : Nat), x = p.alloc (.cells #[] e) /\ g = p.heap.size /\ Below p.heap.size p x /\ x.ownsRow wq.heap.size e size (.slice (some ⟨g, 0, none⟩) 0 0) 0 [] /\ g < x.heap.size /\ wq.heap.size <= g :=
 ⟨_, _, rfl, rfl, rB.alloc rN _, own_lit0 _ _ _ _ h, by simp, h⟩
theorem step_ents {P : Program} {w : World} {ops : Array Oper} {o : Oper} {a : Act} {K : Act -> World -> Prop} {Q : Exit -> Act -> World -> Prop} {E : Prop} (hgd : o.guard = none) (s x : Operand) (t : TypeId)
  (ho : o.op = .call { callee := .builtin .append, args := #[s, x], argTypes := #[t, t] })
  {base : Nat} {e : TypeId} {i : TypeInfo} {z : Value} (ht : P.underlying t = some (.slice e)) (hi : P.info? e = some i) (hz : i.zero = some z)
  (hsize : i.size = 2) (hby : i.bytes = 24) (hzs : z.cells.size = 2)
  (g : Nat) (hs : a.eval s = .slice (some ⟨g, 0, none⟩) 0 0) (hown : w.ownsRow base e 2 (.slice (some ⟨g, 0, none⟩) 0 0) 0 [])
  {ao : Option Addr} {n c B : Nat} {l : List MEntry} (hy : a.eval x = .slice ao n c) (hn : l.length = n) (hr : RdS 2 rEntry B w ao l) (h63 : n <= 1048576) (hbase : base <= w.heap.size)
  (h : ∀ r q w', ownS 2 e oEntry w' (.slice r n q) l (Value.ownBlock (.slice r n q)).toList -> Below w.heap.size w w' -> (∀ j, j ∈ (Value.ownBlock (.slice r n q)).toList -> (j = g ∨ j = w.heap.size) /\ j < w'.heap.size) -> K (a.put o.dst (.slice r n q)) w') :
  if Region.wanted o (yielded ops a.tmps) = true then Oper.wp P o a w K Q else E := by
 obtain ⟨css, sa, sb, sc, sd⟩ := Src.ents (P := P) (c := c) ht hn hr
 refine step_append_lit w hgd s x t t ho base e i z 2 24 ht hi hz hsize hby hzs g hs hown _ hy n css.flatten sd (by unfold maxLen; omega) (by omega) hbase ?_
 intro v w' hw hb hat
 obtain ⟨r, q, rfl⟩ := own_slice hw
 refine h r q w' (ownS_row hn sa sb sc hw) hb (fun j hj => ?_)
 have h1 := (hw.lt j (by simpa using hj)).2
 rcases hat with hh | hh <;> (rw [hh] at hj; simp at hj; subst hj; exact ⟨by simp, h1⟩)
theorem rowC {w : World} {g : Nat} {cs : Array Value} {t : TypeId} (h : w.heap[g]? = some (.cells cs t (0, 0))) (j : Nat) {v : Value} (hv : cs[j]? = some v) : w.cell? ⟨g, j, none⟩ = some v := by rw [cell_of_row _ _ _ _ _ (0, 0) h]; exact hv
theorem put4_row {w : World} {g : Nat} {t : TypeId} {y0 y1 y2 y3 : Value} (h : w.heap[g]? = some (.cells #[y0, y1, y2, y3] t (0, 0))) (x0 x1 x2 x3 : Value) :
  ∃ x, x = ((((w.setCell ⟨g, 0, none⟩ x0).setCell ⟨g, 1, none⟩ x1).setCell ⟨g, 2, none⟩ x2).setCell ⟨g, 3, none⟩ x3) /\ x.heap[g]? = some (.cells #[x0, x1, x2, x3] t (0, 0)) /\ Turn [g] w x :=
 ⟨_, rfl, heap_setCell_same _ g 3 _ _ _ (heap_setCell_same _ g 2 _ _ _ (heap_setCell_same _ g 1 _ _ _ (heap_setCell_same _ g 0 _ _ _ h))), Turn.setCell (Turn.setCell (Turn.setCell (Turn.setCell (Turn.refl _ _) (by simp) _) (by simp) _) (by simp) _) (by simp) _⟩
theorem copy_fin {B gb : Nat} {e : TypeId} {w3 w7 p x : World} {v3 v7 : Value} {l3 l7 : List MEntry} {F3 F7 : List Nat} (h3 : ownS 2 e oEntry w3 v3 l3 F3) (h7 : ownS 2 e oEntry w7 v7 l7 F7) (f3 : Below w3.heap.size w3 p) (f7 : Below w7.heap.size w7 p) (hT : Turn [gb] p x) (n3 : F3.Nodup) (n7 : F7.Nodup)
  (t3 : ∀ j, j ∈ F3 -> B <= j /\ j ≠ gb) (t7 : ∀ j, j ∈ F7 -> B <= j /\ j ≠ gb) (hd : ∀ a, a ∈ F3 -> ∀ b, b ∈ F7 -> a ≠ b) : ownS 2 e oEntry x v3 l3 F3 /\ ownS 2 e oEntry x v7 l7 F7 /\ (F3 ++ F7).Nodup /\ ∀ b, b ∈ F3 ++ F7 -> B <= b /\ b ≠ gb := by
 refine ⟨ownS.frame oEntry_good h3 (fun b hb => ?_), ownS.frame oEntry_good h7 (fun b hb => ?_), List.nodup_append.2 ⟨n3, n7, hd⟩, fun b hb => ?_⟩
 ·have hl := ownS.lt oEntry_good h3 b hb
  exact (hT.block b (Nat.lt_of_lt_of_le hl f3.size) (by simpa using (t3 b hb).2)).trans (f3.block b hl)
 ·have hl := ownS.lt oEntry_good h7 b hb
  exact (hT.block b (Nat.lt_of_lt_of_le hl f7.size) (by simpa using (t7 b hb).2)).trans (f7.block b hl)
 ·rcases List.mem_append.1 hb with hb | hb
  ·exact t3 b hb
  ·exact t7 b hb
end Go.Proofs.YtegonncmopecnaaGreatDoor
