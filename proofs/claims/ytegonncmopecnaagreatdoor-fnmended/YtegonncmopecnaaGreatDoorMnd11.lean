/-
  Part 12 of the texts that the proof leans on.
-/
import Derived.Test.YtegonncmopecnaaGreatDoorMnd10
import Derived.Maps.RangeWalk
import Derived.Sort.KeysCollected
import Derived.Test.YtegonncmopecnaaGreatDoorMnd0
import Derived.Test.YtegonncmopecnaaGreatDoorMnd3
import Derived.Test.YtegonncmopecnaaGreatDoorMnd7
import Derived.Test.YtegonncmopecnaaGreatDoorMnd6
import Derived.Test.YtegonncmopecnaaGreatDoorMnd1
set_option linter.unusedVariables false
set_option linter.unusedSimpArgs false
set_option maxRecDepth 10000

namespace Go.Proofs.YtegonncmopecnaaGreatDoor
open Go.RowKit Go.Maps Go.Shelf Go.Lib Go.Sort
def encE (e : MEntry) : List Value := [.string e.fName, .int .i64 e.fId]
def cmpN (a b : ByteArray) : Int := if strLt a b then -1 else if strLt b a then 1 else 0
def cmpE (a b : MEntry) : Int := cmpN a.fName b.fName
theorem ltOfE (a b : MEntry) : ltOf cmpE a b = strLt a.fName b.fName := by
 unfold ltOf cmpE cmpN
 by_cases h : strLt a.fName b.fName = true
 ·simp [h]
 ·simp only [h]
  by_cases h2 : strLt b.fName a.fName = true
  ·simp [h2]
  ·simp [h2]
@[reducible] def inhE : Inhabited MEntry := ⟨⟨ByteArray.empty, 0⟩⟩
theorem swoE : SWO (ltOf cmpE) where
 irrefl x := by rw [ltOfE]; exact strLt_irrefl _
 trans x y z h1 h2 := by rw [ltOfE] at *; exact strLt_trans h1 h2
 ntrans x y z h1 h2 := by
  rw [ltOfE] at *
  by_cases hxy : x.fName = y.fName
  ·rw [hxy]; exact h2
  ·have h3 := strLt_tri h1 hxy
   by_cases hyz : y.fName = z.fName
   ·rw [<- hyz]; exact h1
   ·exact strLt_asymm (strLt_trans (strLt_tri h2 hyz) h3)
set_option maxHeartbeats 1000000 in
theorem compareStr_any (a b : ByteArray) (w : World) :
  Calls Tryz.prog 98 #[.string a, .string b] w fun e w' => e = .returned (.int .i64 (cmpN a b)) /\ w' = w := by
 by_cases h1 : strLt a b = true
 ·have hv : cmpN a b = -1 := by unfold cmpN; rw [if_pos h1]
  rw [hv]
  obtain ⟨p1, p2, p3⟩ := strLt_facts h1
  clear hv h1
  go_enter Tryz.func98, Tryz.ntmps98
  go_wp2
  go_ret
  exact ⟨rfl, rfl⟩
 ·have h1' : strLt a b = false := Bool.eq_false_iff.2 h1
  by_cases h2 : strLt b a = true
  ·have hv : cmpN a b = 1 := by unfold cmpN; rw [if_neg h1, if_pos h2]
   rw [hv]
   obtain ⟨p1, p2, p3⟩ := strLt_facts h2
   clear hv h1 h2 h1'
   go_enter Tryz.func98, Tryz.ntmps98
   go_wp2
   go_ret
   exact ⟨rfl, rfl⟩
  ·have h2' : strLt b a = false := Bool.eq_false_iff.2 h2
   have hv : cmpN a b = 0 := by unfold cmpN; rw [if_neg h1, if_neg h2]
   rw [hv]
   have p1 : Op.bytesLess a.toList b.toList = false := h1'
   have p2 : Op.bytesLess b.toList a.toList = false := h2'
   have hab : a.toList = b.toList := by
    by_cases h : a.toList = b.toList
    ·exact h
    ·have := bl_total p1 h; rw [p2] at this; cases this
   have p3 : (a.toList == b.toList) = true := by rw [hab]; simp
   have p4 : (b.toList == a.toList) = true := by rw [hab]; simp
   clear hab hv h1 h2 h1' h2'
   go_enter Tryz.func98, Tryz.ntmps98
   go_wp2
   go_ret
   exact ⟨rfl, rfl⟩
set_option maxHeartbeats 1000000 in
theorem closureE (x y : MEntry) (w : World) : Calls Tryz.prog 97 #[.agg (encE x).toArray, .agg (encE y).toArray] w fun e w' => e = .returned (.int .i64 (cmpE x y)) /\ ∃ q os', w' = grow (w.drewN q) os' := by
 have hcon := fun W' => compareStr_any x.fName y.fName W'
 have hv : cmpE x y = cmpN x.fName y.fName := rfl
 rw [hv]
 clear hv
 generalize cmpN x.fName y.fName = r at hcon ⊢
 unfold encE
 go_enter Tryz.func97, Tryz.ntmps97
 go_wp2_with (go_at_call 98; refine (hcon _).mono ?_; rintro e w' ⟨rfl, rfl⟩)
 go_ret
 exact ⟨rfl, 0, _, by rw [alloc_eq_grow, alloc_eq_grow, grow_grow]; rfl⟩
theorem isAggE (w : World) : (isAgg 74).run Tryz.prog w = .ok true w := by kernel_rfl
theorem sizeOfE (w : World) : (Go.sizeOf 74).run Tryz.prog w = .ok 2 w := by kernel_rfl
section
variable [Inhabited MEntry]
theorem cmpLaysE (blk off size : Nat) (w : World) : CmpLays Tryz.prog 97 #[] encE 2 cmpE blk off size w :=
 fun _ _ _ _ x y => closureE x y _
theorem sortE_any (blk cap : Nat) (d : Array MEntry) (w : World) (hH : HoldsK encE 2 w blk 0 d) (hblk : blk < w.heap.size) (hsz : d.size < 4611686018427387904) :
  Calls Tryz.prog 96 #[.slice (some ⟨blk, 0, none⟩) d.size cap, .func (.func 97) #[] #[]] w fun e w' => e = .returned (.tuple #[]) /\ ∃ d' n os, PermIn 0 d.size d d' /\ SortedIn (ltOf cmpE) 0 d.size d' /\ w' = sortWorldK encE 2 w blk 0 n d' os := by
 have eg : ∀ args w, (callFunc 97 args).run Tryz.prog w = .ok (.enter 97 args) w := enters_of Tryz.func97 (by kernel_rfl) rfl
 exact AnyQ.slices_SortFunc sortEnt 2 isAggE sizeOfE encE (fun _ => rfl) (fun x v hv => by simp [encE] at hv; rcases hv with rfl | rfl <;> rfl) cmpE swoE 97 #[] blk 0 cap d w eg (cmpLaysE blk 0 d.size w) hH hblk hsz
end
end Go.Proofs.YtegonncmopecnaaGreatDoor

namespace Go.Proofs.YtegonncmopecnaaGreatDoor
open Go.RowKit Go.Maps
abbrev q00d_72_6_0 : Oper := ⟨some 15, .move (.tmp 6), 4, "l02_files.go:100", #[], none⟩
abbrev q00d_72_6_1 : Oper := ⟨some 16, .unOp .not 4 (.tmp 15), 4, "l02_files.go:100", #[⟨0, .data⟩], none⟩
abbrev q00d_72_6_2 : Oper := ⟨some 17, .move (.tmp 16), 4, "l02_files.go:100", #[⟨1, .data⟩], none⟩
abbrev q00d_72_6_3 : Oper := ⟨some 18, .move (.tmp 0), 25, "l02_files.go:100", #[⟨2, .guard⟩], some (2, true)⟩
abbrev q00d_72_6_4 : Oper := ⟨some 19, .move (.tmp 7), 3, "l02_files.go:100", #[⟨2, .guard⟩], some (2, true)⟩
abbrev q00d_72_6_5 : Oper := ⟨some 20, .indexAddr 25 (.tmp 18) (.tmp 19), 0, "l02_files.go:100", #[⟨3, .data⟩, ⟨4, .data⟩, ⟨2, .guard⟩], some (2, true)⟩
abbrev q00d_72_6_6 : Oper := ⟨some 21, .fieldAddr 74 (.tmp 20) 0, 0, "l02_files.go:100", #[⟨5, .data⟩, ⟨2, .guard⟩], some (2, true)⟩
abbrev q00d_72_6_7 : Oper := ⟨some 22, .load 9 (.tmp 21), 9, "l02_files.go:100", #[⟨6, .data⟩, ⟨2, .guard⟩], some (2, true)⟩
abbrev q00d_72_6_8 : Oper := ⟨some 23, .fieldAddr 74 (.tmp 3) 0, 0, "l02_files.go:100", #[⟨2, .guard⟩], some (2, true)⟩
abbrev q00d_72_6_9 : Oper := ⟨some 24, .load 9 (.tmp 23), 9, "l02_files.go:100", #[⟨8, .data⟩, ⟨2, .guard⟩], some (2, true)⟩
abbrev q00d_72_6_10 : Oper := ⟨some 25, .binOp .geq 9 (.tmp 22) (.tmp 24) 9, 4, "l02_files.go:100", #[⟨7, .data⟩, ⟨9, .data⟩, ⟨2, .guard⟩], some (2, true)⟩
abbrev q00d_72_6_11 : Oper := ⟨some 26, .pick (.tmp 17) (.tmp 25) (.const (.bool false)), 4, "l02_files.go:100", #[⟨2, .data⟩, ⟨10, .data⟩], none⟩
abbrev q00d_72_9_0 : Oper := ⟨some 31, .move (.tmp 0), 25, "l02_files.go:104", #[], none⟩
abbrev q00d_72_9_1 : Oper := ⟨some 32, .move (.tmp 7), 3, "l02_files.go:104", #[], none⟩
abbrev q00d_72_9_2 : Oper := ⟨some 33, .indexAddr 25 (.tmp 31) (.tmp 32), 0, "l02_files.go:104", #[⟨0, .data⟩, ⟨1, .data⟩], none⟩
abbrev q00d_72_9_3 : Oper := ⟨some 34, .fieldAddr 74 (.tmp 33) 0, 0, "l02_files.go:104", #[⟨2, .data⟩], none⟩
abbrev q00d_72_9_4 : Oper := ⟨some 35, .load 9 (.tmp 34), 9, "l02_files.go:104", #[⟨3, .data⟩], none⟩
abbrev q00d_72_9_5 : Oper := ⟨some 36, .fieldAddr 74 (.tmp 3) 0, 0, "l02_files.go:104", #[], none⟩
abbrev q00d_72_9_6 : Oper := ⟨some 37, .load 9 (.tmp 36), 9, "l02_files.go:104", #[⟨5, .data⟩], none⟩
abbrev q00d_72_9_7 : Oper := ⟨some 38, .binOp .neq 9 (.tmp 35) (.tmp 37) 9, 4, "l02_files.go:104", #[⟨4, .data⟩, ⟨6, .data⟩], none⟩
set_option maxHeartbeats 4000000 in
theorem l2With_any (a : Option Addr) (n c : Nat) (l : List MEntry) (e : MEntry) (w : World) (hx : l.length = n) (hn : n <= 1048576) (hl : LeafL 2 rEntry w.heap.size w a c l) (hRi : Rise l) (he1 : e.fName.size <= 9223372036854775807) (he2 : (Lit.int .i64 e.fId).wf = true) :
  Calls Tryz.prog 72 #[.slice a n c, .agg #[.string e.fName, .int .i64 e.fId]] w fun r w' => ∃ (a' : Option Addr) (c' : Nat) (F : List Nat), r = .returned (.slice a' (withE l e).length c') /\ ownS 2 74 oEntry w' (.slice a' (withE l e).length c') (withE l e) F /\ (∀ b, b ∈ F -> w.heap.size <= b) /\ Below w.heap.size w w' := by
 obtain ⟨iE, hiE, hzE0, hzE1, hzE2⟩ := info_parts Tryz.infoOfEntry
 have HX := Hm hx
 have HRS := Hm hl.2.2
 have HEE : Hid (∀ W : World, rEntry w.heap.size W [.string e.fName, .int .i64 e.fId] e) := fun W => ⟨rfl, he1, he2, trivial⟩
 have HWL := Hm (withL_false (e := e) hRi)
 clear hx hl hRi he1 he2
 go_enter Tryz.func72, Tryz.ntmps72
 go_wp2_with fail
 go_loopw [5, 6, 7] (fun v pv i wr => ∃ (k : Nat) (o : List MEntry) (p : Bool), k <= n /\ pv = .bool p /\ i = .int .i64 k /\ o.length <= 2 * k /\ o ++ withL e p (l.drop k) = withE l e /\ RowR 2 74 rEntry w.heap.size wr (w.heap.size + 1) v o /\ Below w.heap.size w wr /\ Bw wr w.heap.size 74 [.string e.fName, .int .i64 e.fId]) (fun _ _ i _ => n - (intOf i).toNat)
 case atStart =>
  refine ⟨0, [], false, Nat.zero_le _, rfl, rfl, by simp, by simpa using HWL.out, ⟨[], rfl, (fun _ h => by cases h), (fun _ h => by simp at h), ?_⟩, Below.alloc (Below.alloc rB rN _) (by simp) _, Bw.alloc (Bw.new _ _ _) _⟩
  have h := own_lit0 (w.alloc (.cells #[.string e.fName, .int .i64 e.fId] 74)) (w.heap.size + 1) 74 2 (by simp)
  simpa using h
 case round =>
  obtain ⟨k, o, p, hk, rfl, rfl, hol0, hE, hrow, hbk, hbw⟩ := hrel
  have HE := Hm hE
  have HBW := Hm hbw
  have hbz := hbk.size
  have hlw := hbw.lt
  have hbz1 : w.heap.size + 1 <= wr.heap.size := hlw
  have c0' := hbw.cell 0 _ rfl
  have c1' := hbw.cell 1 _ rfl
  have HRow := Hm hrow
  clear hE hbw hrow
  by_cases hlt0 : k < n
  ·have hkl : k < l.length := by rw [HX.out]; exact hlt0
   obtain ⟨b1, o1, rfl, hB, cs, hcl, hcell, hrE⟩ := (HRS.out.below rEntry_good hbk) k hkl
   have HD : Hid (l.drop k = l[k] :: l.drop (k + 1)) := List.drop_eq_getElem_cons hkl
   have HRE0 := Hm hrE
   obtain ⟨rfl, hsz, hwf, _⟩ := hrE
   have HRE : Hid (rEntry w.heap.size wr [.string l[k].fName, .int .i64 l[k].fId] l[k]) := HRE0.out
   have k0 := hcell 0 _ rfl
   have k1 := hcell 1 _ rfl
   rw [Nat.add_zero] at k0
   have HBL : Hid (b1 < w.heap.size) := hB
   have hB1 : b1 < wr.heap.size := by omega
   clear hcell hcl HRE0
   obtain ⟨x, hx⟩ : ∃ x, l[k] = x := ⟨_, rfl⟩
   rw [hx] at HRE HD k0 k1
   clear hx hsz hwf hB
   cases p
   ·by_cases hlt : strLt x.fName e.fName = true
    ·obtain ⟨p1, p2, p3⟩ := strLt_facts hlt
     have p4 : (x.fName.toList == e.fName.toList) = false := str_ne (fun h => by rw [h, strLt_irrefl] at hlt; cases hlt)
     have HEQ : Hid (o ++ [x] ++ withL e false (l.drop (k + 1)) = withE l e) := by
      show _ = _
      have h := HE.out
      rw [HD.out] at h
      have hl : strLt x.fName e.fName = true := hlt
      have hn2 : ¬ x.fName = e.fName := (fun h => by rw [h, strLt_irrefl] at hlt; cases hlt)
      simpa [withL, hl, hn2] using h
     clear HE HD hlt
     have hkn0 : (0 : Int) <= (k : Int) := by omega
     have hkn1 : (k : Int) < (n : Int) := by omega
     have hp0 : ∀ W, Below wr.heap.size wr W -> W.cell? ⟨b1, o1 + k * 2, none⟩ = some (.string x.fName) := fun W hb => (hb.cell (p := ⟨b1, o1 + k * 2, none⟩) hB1).trans k0
     have hp1 : ∀ W, Below wr.heap.size wr W -> W.cell? ⟨w.heap.size, 0, none⟩ = some (.string e.fName) := fun W hb => (HBW.out.under hb).cell 0 _ rfl
     go_wp2_with fail
     refine wp_region_held_drew (S := fun W => Below wr.heap.size wr W) (by kernel_rfl) (Below.drew rB) (fun hZ => ?_)
     refine uq 0 q00d_72_6_0 15 hZ ?_
     refine uq 1 q00d_72_6_1 16 hZ ?_
     refine uq 2 q00d_72_6_2 17 hZ ?_
     refine uq 3 q00d_72_6_3 18 hZ ?_
     refine uq 4 q00d_72_6_4 19 hZ ?_
     refine uq 5 q00d_72_6_5 20 hZ ?_
     refine uq 6 q00d_72_6_6 21 hZ ?_
     refine uq 7 q00d_72_6_7 22 hZ ?_
     refine uq 8 q00d_72_6_8 23 hZ ?_
     refine uq 9 q00d_72_6_9 24 hZ ?_
     refine uq 10 q00d_72_6_10 25 hZ ?_
     refine uq 11 q00d_72_6_11 26 hZ ?_
     refine wpAnyH_done (by kernel_rfl) ?_ _
     obtain ⟨wd, hwd⟩ : ∃ W9, W9 = wr.drew := ⟨_, rfl⟩
     rw [<- hwd] at hZ ⊢
     have HRowd := Hm (RowR.keep rEntry_good HRow.out hZ hbz)
     have hbkd := bthen hbk hZ
     have HBWd := Hm (HBW.out.under hZ)
     have HREd := Hm (rEntry_good.below HRE.out (hZ.mono hbz))
     have hzd := hZ.size
     have k0d := (hZ.cell (p := ⟨b1, o1 + k * 2, none⟩) hB1).trans k0
     have k1d := (hZ.cell (p := ⟨b1, o1 + k * 2 + 1, none⟩) hB1).trans k1
     have c0d := HBWd.out.cell 0 _ rfl
     have c1d := HBWd.out.cell 1 _ rfl
     have hB1d : b1 < wd.heap.size := Nat.lt_of_lt_of_le hB1 hzd
     have hbzd : w.heap.size <= wd.heap.size := Nat.le_trans hbz hzd
     have hbz1d : w.heap.size + 1 <= wd.heap.size := Nat.le_trans hbz1 hzd
     clear k0 k1 c0' c1' hB1 hbz hbz1 hbk HBW HRE HRow hwd hZ hp0 hp1 hzd
     have k0 := k0d
     have k1 := k1d
     have c0' := c0d
     have c1' := c1d
     have hB1 := hB1d
     have hbz := hbzd
     have hbz1 := hbz1d
     have hbk := hbkd
     have HBW := HBWd
     have HRE := HREd
     have HRow := HRowd
     clear k0d k1d c0d c1d hB1d hbzd hbz1d hbkd HBWd HREd HRowd
     have hp0 : ∀ W, Below wd.heap.size wd W -> W.cell? ⟨b1, o1 + k * 2, none⟩ = some (.string x.fName) := fun W hb => (hb.cell (p := ⟨b1, o1 + k * 2, none⟩) hB1).trans k0
     have hp1 : ∀ W, Below wd.heap.size wd W -> W.cell? ⟨w.heap.size, 0, none⟩ = some (.string e.fName) := fun W hb => (HBW.out.under hb).cell 0 _ rfl
     go_wp2_with fail
     refine wp_region_held_drew (S := fun W => Below wd.heap.size wd W) (by kernel_rfl) (Below.drew rB) (fun hZ => ?_)
     refine uq 0 q00d_72_9_0 31 hZ ?_
     refine uq 1 q00d_72_9_1 32 hZ ?_
     refine uq 2 q00d_72_9_2 33 hZ ?_
     refine uq 3 q00d_72_9_3 34 hZ ?_
     refine uq 4 q00d_72_9_4 35 hZ ?_
     refine uq 5 q00d_72_9_5 36 hZ ?_
     refine uq 6 q00d_72_9_6 37 hZ ?_
     refine uq 7 q00d_72_9_7 38 hZ ?_
     refine wpAnyH_done (by kernel_rfl) ?_ _
     obtain ⟨we, hwd⟩ : ∃ W9, W9 = wd.drew := ⟨_, rfl⟩
     rw [<- hwd] at hZ ⊢
     have HRowd := Hm (RowR.keep rEntry_good HRow.out hZ hbz)
     have hbkd := bthen hbk hZ
     have HBWd := Hm (HBW.out.under hZ)
     have HREd := Hm (rEntry_good.below HRE.out (hZ.mono hbz))
     have hzd := hZ.size
     have k0d := (hZ.cell (p := ⟨b1, o1 + k * 2, none⟩) hB1).trans k0
     have k1d := (hZ.cell (p := ⟨b1, o1 + k * 2 + 1, none⟩) hB1).trans k1
     have c0d := HBWd.out.cell 0 _ rfl
     have c1d := HBWd.out.cell 1 _ rfl
     have hB1d : b1 < we.heap.size := Nat.lt_of_lt_of_le hB1 hzd
     have hbzd : w.heap.size <= we.heap.size := Nat.le_trans hbz hzd
     have hbz1d : w.heap.size + 1 <= we.heap.size := Nat.le_trans hbz1 hzd
     clear k0 k1 c0' c1' hB1 hbz hbz1 hbk HBW HRE HRow hwd hZ hp0 hp1 hzd
     have k0 := k0d
     have k1 := k1d
     have c0' := c0d
     have c1' := c1d
     have hB1 := hB1d
     have hbz := hbzd
     have hbz1 := hbz1d
     have hbk := hbkd
     have HBW := HBWd
     have HRE := HREd
     have HRow := HRowd
     clear k0d k1d c0d c1d hB1d hbzd hbz1d hbkd HBWd HREd HRowd
     obtain ⟨css5, r1, r2, r3, r4⟩ := HRow.out
     go_wp2_with (at_builtin; refine wpList_append_own_at _ rfl _ _ 25 rfl (w.heap.size + 1) 74 iE (.agg #[.string ⟨#[]⟩, .int .i64 0]) 2 24 Tryz.underlying25 hiE hzE0 hzE1 hzE2 rfl (by decide) _ _ _ rfl (own_below r4 (rB.alloc rN _)) ⟨we.heap.size, 0, none⟩ 1 1 [.string x.fName, .int .i64 x.fId] rfl rfl (bx_news (Bx.new we _ _)) (by intro u hu; simp at hu; rcases hu with rfl | rfl <;> rfl) (by unfold maxLen; omega) (by omega) (by simp; omega) ?_; intro v5 w5 hown5 hgrow5 hnil5 hloc5)
     have hT5 := Turn.after ((Below.refl we.heap.size we).alloc rN _) (turnOwn hgrow5)
     have hge5 : ∀ k, k ∈ (Value.ownBlock _).toList -> w.heap.size + 1 <= k := fun k hk => (r4.lt k (by simpa using hk)).1
     have hBl5 : Below w.heap.size we w5 := Turn.below hT5 (fun k hk => by have := hge5 k hk; omega) hbz
     have HRowd := Hm (RowR.push rEntry_good r1 r2 r3 hBl5 rfl (rEntry_good.below HRE.out hBl5) hown5)
     have hbkd := hbk.trans hBl5
     have HBWd := Hm (HBW.out.turn hT5 (fun h => by have := hge5 _ h; omega))
     have HREd := Hm (rEntry_good.below HRE.out hBl5)
     have hzd := hT5.size
     have k0d := (hT5.cell (p := ⟨b1, o1 + k * 2, none⟩) hB1 (fun h => by have := hge5 _ h; have := HBL.out; simp at *; omega)).trans k0
     have k1d := (hT5.cell (p := ⟨b1, o1 + k * 2 + 1, none⟩) hB1 (fun h => by have := hge5 _ h; have := HBL.out; simp at *; omega)).trans k1
     have c0d := HBWd.out.cell 0 _ rfl
     have c1d := HBWd.out.cell 1 _ rfl
     have hB1d : b1 < w5.heap.size := Nat.lt_of_lt_of_le hB1 hzd
     have hbzd : w.heap.size <= w5.heap.size := Nat.le_trans hbz hzd
     have hbz1d : w.heap.size + 1 <= w5.heap.size := Nat.le_trans hbz1 hzd
     clear k0 k1 c0' c1' hB1 hbz hbz1 hbk HBW HRE HRow hzd r1 r2 r3 r4 hT5 hge5 hBl5 hown5 hgrow5 hnil5 hloc5
     have k0 := k0d
     have k1 := k1d
     have c0' := c0d
     have c1' := c1d
     have hB1 := hB1d
     have hbz := hbzd
     have hbz1 := hbz1d
     have hbk := hbkd
     have HBW := HBWd
     have HRE := HREd
     have HRow := HRowd
     clear k0d k1d c0d c1d hB1d hbzd hbz1d hbkd HBWd HREd HRowd
     go_roundw
     case rel => exact ⟨k + 1, o ++ [x], false, by omega, rfl, by go_num, by simp; omega, HEQ.out, HRow.out, hbk, HBW.out⟩
     case measure => simp [intOf]; omega
    ·by_cases heq : x.fName = e.fName
     ·clear hlt
      have p1 : Op.bytesLess x.fName.toList e.fName.toList = false := by rw [heq]; exact strLt_irrefl _
      have p2 : Op.bytesLess e.fName.toList x.fName.toList = false := by rw [heq]; exact strLt_irrefl _
      have p3 := str_same heq
      have p4 := str_same heq.symm
      have HEQ : Hid (o ++ [e] ++ withL e true (l.drop (k + 1)) = withE l e) := by
       show _ = _
       have h := HE.out
       rw [HD.out] at h
       have hl : strLt x.fName e.fName = false := (show strLt x.fName e.fName = false from by rw [heq]; exact strLt_irrefl _)
       have hn2 : x.fName = e.fName := heq
       simpa [withL, hl, hn2, strLt_irrefl] using h
      clear HE HD heq
      have hkn0 : (0 : Int) <= (k : Int) := by omega
      have hkn1 : (k : Int) < (n : Int) := by omega
      have hp0 : ∀ W, Below wr.heap.size wr W -> W.cell? ⟨b1, o1 + k * 2, none⟩ = some (.string x.fName) := fun W hb => (hb.cell (p := ⟨b1, o1 + k * 2, none⟩) hB1).trans k0
      have hp1 : ∀ W, Below wr.heap.size wr W -> W.cell? ⟨w.heap.size, 0, none⟩ = some (.string e.fName) := fun W hb => (HBW.out.under hb).cell 0 _ rfl
      go_wp2_with fail
      refine wp_region_held_drew (S := fun W => Below wr.heap.size wr W) (by kernel_rfl) (Below.drew rB) (fun hZ => ?_)
      refine uq 0 q00d_72_6_0 15 hZ ?_
      refine uq 1 q00d_72_6_1 16 hZ ?_
      refine uq 2 q00d_72_6_2 17 hZ ?_
      refine uq 3 q00d_72_6_3 18 hZ ?_
      refine uq 4 q00d_72_6_4 19 hZ ?_
      refine uq 5 q00d_72_6_5 20 hZ ?_
      refine uq 6 q00d_72_6_6 21 hZ ?_
      refine uq 7 q00d_72_6_7 22 hZ ?_
      refine uq 8 q00d_72_6_8 23 hZ ?_
      refine uq 9 q00d_72_6_9 24 hZ ?_
      refine uq 10 q00d_72_6_10 25 hZ ?_
      refine uq 11 q00d_72_6_11 26 hZ ?_
      refine wpAnyH_done (by kernel_rfl) ?_ _
      obtain ⟨wd, hwd⟩ : ∃ W9, W9 = wr.drew := ⟨_, rfl⟩
      rw [<- hwd] at hZ ⊢
      have HRowd := Hm (RowR.keep rEntry_good HRow.out hZ hbz)
      have hbkd := bthen hbk hZ
      have HBWd := Hm (HBW.out.under hZ)
      have HREd := Hm (rEntry_good.below HRE.out (hZ.mono hbz))
      have hzd := hZ.size
      have k0d := (hZ.cell (p := ⟨b1, o1 + k * 2, none⟩) hB1).trans k0
      have k1d := (hZ.cell (p := ⟨b1, o1 + k * 2 + 1, none⟩) hB1).trans k1
      have c0d := HBWd.out.cell 0 _ rfl
      have c1d := HBWd.out.cell 1 _ rfl
      have hB1d : b1 < wd.heap.size := Nat.lt_of_lt_of_le hB1 hzd
      have hbzd : w.heap.size <= wd.heap.size := Nat.le_trans hbz hzd
      have hbz1d : w.heap.size + 1 <= wd.heap.size := Nat.le_trans hbz1 hzd
      clear k0 k1 c0' c1' hB1 hbz hbz1 hbk HBW HRE HRow hwd hZ hp0 hp1 hzd
      have k0 := k0d
      have k1 := k1d
      have c0' := c0d
      have c1' := c1d
      have hB1 := hB1d
      have hbz := hbzd
      have hbz1 := hbz1d
      have hbk := hbkd
      have HBW := HBWd
      have HRE := HREd
      have HRow := HRowd
      clear k0d k1d c0d c1d hB1d hbzd hbz1d hbkd HBWd HREd HRowd
      obtain ⟨css3, r1, r2, r3, r4⟩ := HRow.out
      go_wp2_with (at_builtin; refine wpList_append_own_at _ rfl _ _ 25 rfl (w.heap.size + 1) 74 iE (.agg #[.string ⟨#[]⟩, .int .i64 0]) 2 24 Tryz.underlying25 hiE hzE0 hzE1 hzE2 rfl (by decide) _ _ _ rfl (own_below r4 (rB.alloc rN _)) ⟨wd.heap.size, 0, none⟩ 1 1 [.string e.fName, .int .i64 e.fId] rfl rfl (bx_news (Bx.new wd _ _)) (by intro u hu; simp at hu; rcases hu with rfl | rfl <;> rfl) (by unfold maxLen; omega) (by omega) (by simp; omega) ?_; intro v3 w3 hown3 hgrow3 hnil3 hloc3)
      have hT3 := Turn.after ((Below.refl wd.heap.size wd).alloc rN _) (turnOwn hgrow3)
      have hge3 : ∀ k, k ∈ (Value.ownBlock _).toList -> w.heap.size + 1 <= k := fun k hk => (r4.lt k (by simpa using hk)).1
      have hBl3 : Below w.heap.size wd w3 := Turn.below hT3 (fun k hk => by have := hge3 k hk; omega) hbz
      have HRowd := Hm (RowR.push rEntry_good r1 r2 r3 hBl3 rfl (rEntry_good.below (HEE.out wd) hBl3) hown3)
      have hbkd := hbk.trans hBl3
      have HBWd := Hm (HBW.out.turn hT3 (fun h => by have := hge3 _ h; omega))
      have HREd := Hm (rEntry_good.below HRE.out hBl3)
      have hzd := hT3.size
      have k0d := (hT3.cell (p := ⟨b1, o1 + k * 2, none⟩) hB1 (fun h => by have := hge3 _ h; have := HBL.out; simp at *; omega)).trans k0
      have k1d := (hT3.cell (p := ⟨b1, o1 + k * 2 + 1, none⟩) hB1 (fun h => by have := hge3 _ h; have := HBL.out; simp at *; omega)).trans k1
      have c0d := HBWd.out.cell 0 _ rfl
      have c1d := HBWd.out.cell 1 _ rfl
      have hB1d : b1 < w3.heap.size := Nat.lt_of_lt_of_le hB1 hzd
      have hbzd : w.heap.size <= w3.heap.size := Nat.le_trans hbz hzd
      have hbz1d : w.heap.size + 1 <= w3.heap.size := Nat.le_trans hbz1 hzd
      clear k0 k1 c0' c1' hB1 hbz hbz1 hbk HBW HRE HRow hzd r1 r2 r3 r4 hT3 hge3 hBl3 hown3 hgrow3 hnil3 hloc3
      have k0 := k0d
      have k1 := k1d
      have c0' := c0d
      have c1' := c1d
      have hB1 := hB1d
      have hbz := hbzd
      have hbz1 := hbz1d
      have hbk := hbkd
      have HBW := HBWd
      have HRE := HREd
      have HRow := HRowd
      clear k0d k1d c0d c1d hB1d hbzd hbz1d hbkd HBWd HREd HRowd
      have hol1 : (o ++ [e]).length <= 2 * k + 1 := by simp; omega
      have hp0 : ∀ W, Below w3.heap.size w3 W -> W.cell? ⟨b1, o1 + k * 2, none⟩ = some (.string x.fName) := fun W hb => (hb.cell (p := ⟨b1, o1 + k * 2, none⟩) hB1).trans k0
      have hp1 : ∀ W, Below w3.heap.size w3 W -> W.cell? ⟨w.heap.size, 0, none⟩ = some (.string e.fName) := fun W hb => (HBW.out.under hb).cell 0 _ rfl
      go_wp2_with fail
      refine wp_region_held_drew (S := fun W => Below w3.heap.size w3 W) (by kernel_rfl) (Below.drew rB) (fun hZ => ?_)
      refine uq 0 q00d_72_9_0 31 hZ ?_
      refine uq 1 q00d_72_9_1 32 hZ ?_
      refine uq 2 q00d_72_9_2 33 hZ ?_
      refine uq 3 q00d_72_9_3 34 hZ ?_
      refine uq 4 q00d_72_9_4 35 hZ ?_
      refine uq 5 q00d_72_9_5 36 hZ ?_
      refine uq 6 q00d_72_9_6 37 hZ ?_
      refine uq 7 q00d_72_9_7 38 hZ ?_
      refine wpAnyH_done (by kernel_rfl) ?_ _
      obtain ⟨we, hwd⟩ : ∃ W9, W9 = w3.drew := ⟨_, rfl⟩
      rw [<- hwd] at hZ ⊢
      have HRowd := Hm (RowR.keep rEntry_good HRow.out hZ hbz)
      have hbkd := bthen hbk hZ
      have HBWd := Hm (HBW.out.under hZ)
      have HREd := Hm (rEntry_good.below HRE.out (hZ.mono hbz))
      have hzd := hZ.size
      have k0d := (hZ.cell (p := ⟨b1, o1 + k * 2, none⟩) hB1).trans k0
      have k1d := (hZ.cell (p := ⟨b1, o1 + k * 2 + 1, none⟩) hB1).trans k1
      have c0d := HBWd.out.cell 0 _ rfl
      have c1d := HBWd.out.cell 1 _ rfl
      have hB1d : b1 < we.heap.size := Nat.lt_of_lt_of_le hB1 hzd
      have hbzd : w.heap.size <= we.heap.size := Nat.le_trans hbz hzd
      have hbz1d : w.heap.size + 1 <= we.heap.size := Nat.le_trans hbz1 hzd
      clear k0 k1 c0' c1' hB1 hbz hbz1 hbk HBW HRE HRow hwd hZ hp0 hp1 hzd
      have k0 := k0d
      have k1 := k1d
      have c0' := c0d
      have c1' := c1d
      have hB1 := hB1d
      have hbz := hbzd
      have hbz1 := hbz1d
      have hbk := hbkd
      have HBW := HBWd
      have HRE := HREd
      have HRow := HRowd
      clear k0d k1d c0d c1d hB1d hbzd hbz1d hbkd HBWd HREd HRowd
      go_wp2_with fail
      go_roundw
      case rel => exact ⟨k + 1, o ++ [e], true, by omega, rfl, by go_num, by simp; omega, HEQ.out, HRow.out, hbk, HBW.out⟩
      case measure => simp [intOf]; omega
     ·have hgt := strLt_tri (Bool.eq_false_iff.2 hlt) heq
      clear hlt heq
      obtain ⟨p1, p2, p3⟩ := strLt_facts hgt
      have p4 : (x.fName.toList == e.fName.toList) = false := str_ne (fun h => by rw [h, strLt_irrefl] at hgt; cases hgt)
      have HEQ : Hid ((o ++ [e]) ++ [x] ++ withL e true (l.drop (k + 1)) = withE l e) := by
       show _ = _
       have h := HE.out
       rw [HD.out] at h
       have hl : strLt x.fName e.fName = false := strLt_asymm hgt
       have hn2 : ¬ x.fName = e.fName := (fun h => by rw [h, strLt_irrefl] at hgt; cases hgt)
       simpa [withL, hl, hn2] using h
      clear HE HD hgt
      have hkn0 : (0 : Int) <= (k : Int) := by omega
      have hkn1 : (k : Int) < (n : Int) := by omega
      have hp0 : ∀ W, Below wr.heap.size wr W -> W.cell? ⟨b1, o1 + k * 2, none⟩ = some (.string x.fName) := fun W hb => (hb.cell (p := ⟨b1, o1 + k * 2, none⟩) hB1).trans k0
      have hp1 : ∀ W, Below wr.heap.size wr W -> W.cell? ⟨w.heap.size, 0, none⟩ = some (.string e.fName) := fun W hb => (HBW.out.under hb).cell 0 _ rfl
      go_wp2_with fail
      refine wp_region_held_drew (S := fun W => Below wr.heap.size wr W) (by kernel_rfl) (Below.drew rB) (fun hZ => ?_)
      refine uq 0 q00d_72_6_0 15 hZ ?_
      refine uq 1 q00d_72_6_1 16 hZ ?_
      refine uq 2 q00d_72_6_2 17 hZ ?_
      refine uq 3 q00d_72_6_3 18 hZ ?_
      refine uq 4 q00d_72_6_4 19 hZ ?_
      refine uq 5 q00d_72_6_5 20 hZ ?_
      refine uq 6 q00d_72_6_6 21 hZ ?_
      refine uq 7 q00d_72_6_7 22 hZ ?_
      refine uq 8 q00d_72_6_8 23 hZ ?_
      refine uq 9 q00d_72_6_9 24 hZ ?_
      refine uq 10 q00d_72_6_10 25 hZ ?_
      refine uq 11 q00d_72_6_11 26 hZ ?_
      refine wpAnyH_done (by kernel_rfl) ?_ _
      obtain ⟨wd, hwd⟩ : ∃ W9, W9 = wr.drew := ⟨_, rfl⟩
      rw [<- hwd] at hZ ⊢
      have HRowd := Hm (RowR.keep rEntry_good HRow.out hZ hbz)
      have hbkd := bthen hbk hZ
      have HBWd := Hm (HBW.out.under hZ)
      have HREd := Hm (rEntry_good.below HRE.out (hZ.mono hbz))
      have hzd := hZ.size
      have k0d := (hZ.cell (p := ⟨b1, o1 + k * 2, none⟩) hB1).trans k0
      have k1d := (hZ.cell (p := ⟨b1, o1 + k * 2 + 1, none⟩) hB1).trans k1
      have c0d := HBWd.out.cell 0 _ rfl
      have c1d := HBWd.out.cell 1 _ rfl
      have hB1d : b1 < wd.heap.size := Nat.lt_of_lt_of_le hB1 hzd
      have hbzd : w.heap.size <= wd.heap.size := Nat.le_trans hbz hzd
      have hbz1d : w.heap.size + 1 <= wd.heap.size := Nat.le_trans hbz1 hzd
      clear k0 k1 c0' c1' hB1 hbz hbz1 hbk HBW HRE HRow hwd hZ hp0 hp1 hzd
      have k0 := k0d
      have k1 := k1d
      have c0' := c0d
      have c1' := c1d
      have hB1 := hB1d
      have hbz := hbzd
      have hbz1 := hbz1d
      have hbk := hbkd
      have HBW := HBWd
      have HRE := HREd
      have HRow := HRowd
      clear k0d k1d c0d c1d hB1d hbzd hbz1d hbkd HBWd HREd HRowd
      obtain ⟨css3, r1, r2, r3, r4⟩ := HRow.out
      go_wp2_with (at_builtin; refine wpList_append_own_at _ rfl _ _ 25 rfl (w.heap.size + 1) 74 iE (.agg #[.string ⟨#[]⟩, .int .i64 0]) 2 24 Tryz.underlying25 hiE hzE0 hzE1 hzE2 rfl (by decide) _ _ _ rfl (own_below r4 (rB.alloc rN _)) ⟨wd.heap.size, 0, none⟩ 1 1 [.string e.fName, .int .i64 e.fId] rfl rfl (bx_news (Bx.new wd _ _)) (by intro u hu; simp at hu; rcases hu with rfl | rfl <;> rfl) (by unfold maxLen; omega) (by omega) (by simp; omega) ?_; intro v3 w3 hown3 hgrow3 hnil3 hloc3)
      have hT3 := Turn.after ((Below.refl wd.heap.size wd).alloc rN _) (turnOwn hgrow3)
      have hge3 : ∀ k, k ∈ (Value.ownBlock _).toList -> w.heap.size + 1 <= k := fun k hk => (r4.lt k (by simpa using hk)).1
      have hBl3 : Below w.heap.size wd w3 := Turn.below hT3 (fun k hk => by have := hge3 k hk; omega) hbz
      have HRowd := Hm (RowR.push rEntry_good r1 r2 r3 hBl3 rfl (rEntry_good.below (HEE.out wd) hBl3) hown3)
      have hbkd := hbk.trans hBl3
      have HBWd := Hm (HBW.out.turn hT3 (fun h => by have := hge3 _ h; omega))
      have HREd := Hm (rEntry_good.below HRE.out hBl3)
      have hzd := hT3.size
      have k0d := (hT3.cell (p := ⟨b1, o1 + k * 2, none⟩) hB1 (fun h => by have := hge3 _ h; have := HBL.out; simp at *; omega)).trans k0
      have k1d := (hT3.cell (p := ⟨b1, o1 + k * 2 + 1, none⟩) hB1 (fun h => by have := hge3 _ h; have := HBL.out; simp at *; omega)).trans k1
      have c0d := HBWd.out.cell 0 _ rfl
      have c1d := HBWd.out.cell 1 _ rfl
      have hB1d : b1 < w3.heap.size := Nat.lt_of_lt_of_le hB1 hzd
      have hbzd : w.heap.size <= w3.heap.size := Nat.le_trans hbz hzd
      have hbz1d : w.heap.size + 1 <= w3.heap.size := Nat.le_trans hbz1 hzd
      clear k0 k1 c0' c1' hB1 hbz hbz1 hbk HBW HRE HRow hzd r1 r2 r3 r4 hT3 hge3 hBl3 hown3 hgrow3 hnil3 hloc3
      have k0 := k0d
      have k1 := k1d
      have c0' := c0d
      have c1' := c1d
      have hB1 := hB1d
      have hbz := hbzd
      have hbz1 := hbz1d
      have hbk := hbkd
      have HBW := HBWd
      have HRE := HREd
      have HRow := HRowd
      clear k0d k1d c0d c1d hB1d hbzd hbz1d hbkd HBWd HREd HRowd
      have hol1 : (o ++ [e]).length <= 2 * k + 1 := by simp; omega
      have hp0 : ∀ W, Below w3.heap.size w3 W -> W.cell? ⟨b1, o1 + k * 2, none⟩ = some (.string x.fName) := fun W hb => (hb.cell (p := ⟨b1, o1 + k * 2, none⟩) hB1).trans k0
      have hp1 : ∀ W, Below w3.heap.size w3 W -> W.cell? ⟨w.heap.size, 0, none⟩ = some (.string e.fName) := fun W hb => (HBW.out.under hb).cell 0 _ rfl
      go_wp2_with fail
      refine wp_region_held_drew (S := fun W => Below w3.heap.size w3 W) (by kernel_rfl) (Below.drew rB) (fun hZ => ?_)
      refine uq 0 q00d_72_9_0 31 hZ ?_
      refine uq 1 q00d_72_9_1 32 hZ ?_
      refine uq 2 q00d_72_9_2 33 hZ ?_
      refine uq 3 q00d_72_9_3 34 hZ ?_
      refine uq 4 q00d_72_9_4 35 hZ ?_
      refine uq 5 q00d_72_9_5 36 hZ ?_
      refine uq 6 q00d_72_9_6 37 hZ ?_
      refine uq 7 q00d_72_9_7 38 hZ ?_
      refine wpAnyH_done (by kernel_rfl) ?_ _
      obtain ⟨we, hwd⟩ : ∃ W9, W9 = w3.drew := ⟨_, rfl⟩
      rw [<- hwd] at hZ ⊢
      have HRowd := Hm (RowR.keep rEntry_good HRow.out hZ hbz)
      have hbkd := bthen hbk hZ
      have HBWd := Hm (HBW.out.under hZ)
      have HREd := Hm (rEntry_good.below HRE.out (hZ.mono hbz))
      have hzd := hZ.size
      have k0d := (hZ.cell (p := ⟨b1, o1 + k * 2, none⟩) hB1).trans k0
      have k1d := (hZ.cell (p := ⟨b1, o1 + k * 2 + 1, none⟩) hB1).trans k1
      have c0d := HBWd.out.cell 0 _ rfl
      have c1d := HBWd.out.cell 1 _ rfl
      have hB1d : b1 < we.heap.size := Nat.lt_of_lt_of_le hB1 hzd
      have hbzd : w.heap.size <= we.heap.size := Nat.le_trans hbz hzd
      have hbz1d : w.heap.size + 1 <= we.heap.size := Nat.le_trans hbz1 hzd
      clear k0 k1 c0' c1' hB1 hbz hbz1 hbk HBW HRE HRow hwd hZ hp0 hp1 hzd
      have k0 := k0d
      have k1 := k1d
      have c0' := c0d
      have c1' := c1d
      have hB1 := hB1d
      have hbz := hbzd
      have hbz1 := hbz1d
      have hbk := hbkd
      have HBW := HBWd
      have HRE := HREd
      have HRow := HRowd
      clear k0d k1d c0d c1d hB1d hbzd hbz1d hbkd HBWd HREd HRowd
      obtain ⟨css5, r1, r2, r3, r4⟩ := HRow.out
      go_wp2_with (at_builtin; refine wpList_append_own_at _ rfl _ _ 25 rfl (w.heap.size + 1) 74 iE (.agg #[.string ⟨#[]⟩, .int .i64 0]) 2 24 Tryz.underlying25 hiE hzE0 hzE1 hzE2 rfl (by decide) _ _ _ rfl (own_below r4 (rB.alloc rN _)) ⟨we.heap.size, 0, none⟩ 1 1 [.string x.fName, .int .i64 x.fId] rfl rfl (bx_news (Bx.new we _ _)) (by intro u hu; simp at hu; rcases hu with rfl | rfl <;> rfl) (by unfold maxLen; omega) (by omega) (by simp; omega) ?_; intro v5 w5 hown5 hgrow5 hnil5 hloc5)
      have hT5 := Turn.after ((Below.refl we.heap.size we).alloc rN _) (turnOwn hgrow5)
      have hge5 : ∀ k, k ∈ (Value.ownBlock _).toList -> w.heap.size + 1 <= k := fun k hk => (r4.lt k (by simpa using hk)).1
      have hBl5 : Below w.heap.size we w5 := Turn.below hT5 (fun k hk => by have := hge5 k hk; omega) hbz
      have HRowd := Hm (RowR.push rEntry_good r1 r2 r3 hBl5 rfl (rEntry_good.below HRE.out hBl5) hown5)
      have hbkd := hbk.trans hBl5
      have HBWd := Hm (HBW.out.turn hT5 (fun h => by have := hge5 _ h; omega))
      have HREd := Hm (rEntry_good.below HRE.out hBl5)
      have hzd := hT5.size
      have k0d := (hT5.cell (p := ⟨b1, o1 + k * 2, none⟩) hB1 (fun h => by have := hge5 _ h; have := HBL.out; simp at *; omega)).trans k0
      have k1d := (hT5.cell (p := ⟨b1, o1 + k * 2 + 1, none⟩) hB1 (fun h => by have := hge5 _ h; have := HBL.out; simp at *; omega)).trans k1
      have c0d := HBWd.out.cell 0 _ rfl
      have c1d := HBWd.out.cell 1 _ rfl
      have hB1d : b1 < w5.heap.size := Nat.lt_of_lt_of_le hB1 hzd
      have hbzd : w.heap.size <= w5.heap.size := Nat.le_trans hbz hzd
      have hbz1d : w.heap.size + 1 <= w5.heap.size := Nat.le_trans hbz1 hzd
      clear k0 k1 c0' c1' hB1 hbz hbz1 hbk HBW HRE HRow hzd r1 r2 r3 r4 hT5 hge5 hBl5 hown5 hgrow5 hnil5 hloc5
      have k0 := k0d
      have k1 := k1d
      have c0' := c0d
      have c1' := c1d
      have hB1 := hB1d
      have hbz := hbzd
      have hbz1 := hbz1d
      have hbk := hbkd
      have HBW := HBWd
      have HRE := HREd
      have HRow := HRowd
      clear k0d k1d c0d c1d hB1d hbzd hbz1d hbkd HBWd HREd HRowd
      go_roundw
      case rel => exact ⟨k + 1, (o ++ [e]) ++ [x], true, by omega, rfl, by go_num, by simp; omega, HEQ.out, HRow.out, hbk, HBW.out⟩
      case measure => simp [intOf]; omega
   ·by_cases hlt : strLt x.fName e.fName = true
    ·obtain ⟨p1, p2, p3⟩ := strLt_facts hlt
     have p4 : (x.fName.toList == e.fName.toList) = false := str_ne (fun h => by rw [h, strLt_irrefl] at hlt; cases hlt)
     have HEQ : Hid (o ++ [x] ++ withL e true (l.drop (k + 1)) = withE l e) := by
      show _ = _
      have h := HE.out
      rw [HD.out] at h
      have hl : strLt x.fName e.fName = true := hlt
      have hn2 : ¬ x.fName = e.fName := (fun h => by rw [h, strLt_irrefl] at hlt; cases hlt)
      simpa [withL, hl, hn2] using h
     clear HE HD hlt
     have hkn0 : (0 : Int) <= (k : Int) := by omega
     have hkn1 : (k : Int) < (n : Int) := by omega
     have hp0 : ∀ W, Below wr.heap.size wr W -> W.cell? ⟨b1, o1 + k * 2, none⟩ = some (.string x.fName) := fun W hb => (hb.cell (p := ⟨b1, o1 + k * 2, none⟩) hB1).trans k0
     have hp1 : ∀ W, Below wr.heap.size wr W -> W.cell? ⟨w.heap.size, 0, none⟩ = some (.string e.fName) := fun W hb => (HBW.out.under hb).cell 0 _ rfl
     go_wp2_with fail
     refine wp_region_held_drew (S := fun W => Below wr.heap.size wr W) (by kernel_rfl) (Below.drew rB) (fun hZ => ?_)
     refine uq 0 q00d_72_6_0 15 hZ ?_
     refine uq 1 q00d_72_6_1 16 hZ ?_
     refine uq 2 q00d_72_6_2 17 hZ ?_
     refine um 3 q00d_72_6_3 18 hZ ?_
     refine um 4 q00d_72_6_4 19 hZ ?_
     refine um 5 q00d_72_6_5 20 hZ ?_
     refine um 6 q00d_72_6_6 21 hZ ?_
     refine um 7 q00d_72_6_7 22 hZ ?_
     refine um 8 q00d_72_6_8 23 hZ ?_
     refine um 9 q00d_72_6_9 24 hZ ?_
     refine um 10 q00d_72_6_10 25 hZ ?_
     refine uq 11 q00d_72_6_11 26 hZ ?_
     refine wpAnyH_done (by kernel_rfl) ?_ _
     obtain ⟨wd, hwd⟩ : ∃ W9, W9 = wr.drew := ⟨_, rfl⟩
     rw [<- hwd] at hZ ⊢
     have HRowd := Hm (RowR.keep rEntry_good HRow.out hZ hbz)
     have hbkd := bthen hbk hZ
     have HBWd := Hm (HBW.out.under hZ)
     have HREd := Hm (rEntry_good.below HRE.out (hZ.mono hbz))
     have hzd := hZ.size
     have k0d := (hZ.cell (p := ⟨b1, o1 + k * 2, none⟩) hB1).trans k0
     have k1d := (hZ.cell (p := ⟨b1, o1 + k * 2 + 1, none⟩) hB1).trans k1
     have c0d := HBWd.out.cell 0 _ rfl
     have c1d := HBWd.out.cell 1 _ rfl
     have hB1d : b1 < wd.heap.size := Nat.lt_of_lt_of_le hB1 hzd
     have hbzd : w.heap.size <= wd.heap.size := Nat.le_trans hbz hzd
     have hbz1d : w.heap.size + 1 <= wd.heap.size := Nat.le_trans hbz1 hzd
     clear k0 k1 c0' c1' hB1 hbz hbz1 hbk HBW HRE HRow hwd hZ hp0 hp1 hzd
     have k0 := k0d
     have k1 := k1d
     have c0' := c0d
     have c1' := c1d
     have hB1 := hB1d
     have hbz := hbzd
     have hbz1 := hbz1d
     have hbk := hbkd
     have HBW := HBWd
     have HRE := HREd
     have HRow := HRowd
     clear k0d k1d c0d c1d hB1d hbzd hbz1d hbkd HBWd HREd HRowd
     have hp0 : ∀ W, Below wd.heap.size wd W -> W.cell? ⟨b1, o1 + k * 2, none⟩ = some (.string x.fName) := fun W hb => (hb.cell (p := ⟨b1, o1 + k * 2, none⟩) hB1).trans k0
     have hp1 : ∀ W, Below wd.heap.size wd W -> W.cell? ⟨w.heap.size, 0, none⟩ = some (.string e.fName) := fun W hb => (HBW.out.under hb).cell 0 _ rfl
     go_wp2_with fail
     refine wp_region_held_drew (S := fun W => Below wd.heap.size wd W) (by kernel_rfl) (Below.drew rB) (fun hZ => ?_)
     refine uq 0 q00d_72_9_0 31 hZ ?_
     refine uq 1 q00d_72_9_1 32 hZ ?_
     refine uq 2 q00d_72_9_2 33 hZ ?_
     refine uq 3 q00d_72_9_3 34 hZ ?_
     refine uq 4 q00d_72_9_4 35 hZ ?_
     refine uq 5 q00d_72_9_5 36 hZ ?_
     refine uq 6 q00d_72_9_6 37 hZ ?_
     refine uq 7 q00d_72_9_7 38 hZ ?_
     refine wpAnyH_done (by kernel_rfl) ?_ _
     obtain ⟨we, hwd⟩ : ∃ W9, W9 = wd.drew := ⟨_, rfl⟩
     rw [<- hwd] at hZ ⊢
     have HRowd := Hm (RowR.keep rEntry_good HRow.out hZ hbz)
     have hbkd := bthen hbk hZ
     have HBWd := Hm (HBW.out.under hZ)
     have HREd := Hm (rEntry_good.below HRE.out (hZ.mono hbz))
     have hzd := hZ.size
     have k0d := (hZ.cell (p := ⟨b1, o1 + k * 2, none⟩) hB1).trans k0
     have k1d := (hZ.cell (p := ⟨b1, o1 + k * 2 + 1, none⟩) hB1).trans k1
     have c0d := HBWd.out.cell 0 _ rfl
     have c1d := HBWd.out.cell 1 _ rfl
     have hB1d : b1 < we.heap.size := Nat.lt_of_lt_of_le hB1 hzd
     have hbzd : w.heap.size <= we.heap.size := Nat.le_trans hbz hzd
     have hbz1d : w.heap.size + 1 <= we.heap.size := Nat.le_trans hbz1 hzd
     clear k0 k1 c0' c1' hB1 hbz hbz1 hbk HBW HRE HRow hwd hZ hp0 hp1 hzd
     have k0 := k0d
     have k1 := k1d
     have c0' := c0d
     have c1' := c1d
     have hB1 := hB1d
     have hbz := hbzd
     have hbz1 := hbz1d
     have hbk := hbkd
     have HBW := HBWd
     have HRE := HREd
     have HRow := HRowd
     clear k0d k1d c0d c1d hB1d hbzd hbz1d hbkd HBWd HREd HRowd
     obtain ⟨css5, r1, r2, r3, r4⟩ := HRow.out
     go_wp2_with (at_builtin; refine wpList_append_own_at _ rfl _ _ 25 rfl (w.heap.size + 1) 74 iE (.agg #[.string ⟨#[]⟩, .int .i64 0]) 2 24 Tryz.underlying25 hiE hzE0 hzE1 hzE2 rfl (by decide) _ _ _ rfl (own_below r4 (rB.alloc rN _)) ⟨we.heap.size, 0, none⟩ 1 1 [.string x.fName, .int .i64 x.fId] rfl rfl (bx_news (Bx.new we _ _)) (by intro u hu; simp at hu; rcases hu with rfl | rfl <;> rfl) (by unfold maxLen; omega) (by omega) (by simp; omega) ?_; intro v5 w5 hown5 hgrow5 hnil5 hloc5)
     have hT5 := Turn.after ((Below.refl we.heap.size we).alloc rN _) (turnOwn hgrow5)
     have hge5 : ∀ k, k ∈ (Value.ownBlock _).toList -> w.heap.size + 1 <= k := fun k hk => (r4.lt k (by simpa using hk)).1
     have hBl5 : Below w.heap.size we w5 := Turn.below hT5 (fun k hk => by have := hge5 k hk; omega) hbz
     have HRowd := Hm (RowR.push rEntry_good r1 r2 r3 hBl5 rfl (rEntry_good.below HRE.out hBl5) hown5)
     have hbkd := hbk.trans hBl5
     have HBWd := Hm (HBW.out.turn hT5 (fun h => by have := hge5 _ h; omega))
     have HREd := Hm (rEntry_good.below HRE.out hBl5)
     have hzd := hT5.size
     have k0d := (hT5.cell (p := ⟨b1, o1 + k * 2, none⟩) hB1 (fun h => by have := hge5 _ h; have := HBL.out; simp at *; omega)).trans k0
     have k1d := (hT5.cell (p := ⟨b1, o1 + k * 2 + 1, none⟩) hB1 (fun h => by have := hge5 _ h; have := HBL.out; simp at *; omega)).trans k1
     have c0d := HBWd.out.cell 0 _ rfl
     have c1d := HBWd.out.cell 1 _ rfl
     have hB1d : b1 < w5.heap.size := Nat.lt_of_lt_of_le hB1 hzd
     have hbzd : w.heap.size <= w5.heap.size := Nat.le_trans hbz hzd
     have hbz1d : w.heap.size + 1 <= w5.heap.size := Nat.le_trans hbz1 hzd
     clear k0 k1 c0' c1' hB1 hbz hbz1 hbk HBW HRE HRow hzd r1 r2 r3 r4 hT5 hge5 hBl5 hown5 hgrow5 hnil5 hloc5
     have k0 := k0d
     have k1 := k1d
     have c0' := c0d
     have c1' := c1d
     have hB1 := hB1d
     have hbz := hbzd
     have hbz1 := hbz1d
     have hbk := hbkd
     have HBW := HBWd
     have HRE := HREd
     have HRow := HRowd
     clear k0d k1d c0d c1d hB1d hbzd hbz1d hbkd HBWd HREd HRowd
     go_roundw
     case rel => exact ⟨k + 1, o ++ [x], true, by omega, rfl, by go_num, by simp; omega, HEQ.out, HRow.out, hbk, HBW.out⟩
     case measure => simp [intOf]; omega
    ·by_cases heq : x.fName = e.fName
     ·clear hlt
      have p1 : Op.bytesLess x.fName.toList e.fName.toList = false := by rw [heq]; exact strLt_irrefl _
      have p2 : Op.bytesLess e.fName.toList x.fName.toList = false := by rw [heq]; exact strLt_irrefl _
      have p3 := str_same heq
      have p4 := str_same heq.symm
      have HEQ : Hid (o ++ withL e true (l.drop (k + 1)) = withE l e) := by
       show _ = _
       have h := HE.out
       rw [HD.out] at h
       have hl : strLt x.fName e.fName = false := (show strLt x.fName e.fName = false from by rw [heq]; exact strLt_irrefl _)
       have hn2 : x.fName = e.fName := heq
       simpa [withL, hl, hn2, strLt_irrefl] using h
      clear HE HD heq
      have hkn0 : (0 : Int) <= (k : Int) := by omega
      have hkn1 : (k : Int) < (n : Int) := by omega
      have hp0 : ∀ W, Below wr.heap.size wr W -> W.cell? ⟨b1, o1 + k * 2, none⟩ = some (.string x.fName) := fun W hb => (hb.cell (p := ⟨b1, o1 + k * 2, none⟩) hB1).trans k0
      have hp1 : ∀ W, Below wr.heap.size wr W -> W.cell? ⟨w.heap.size, 0, none⟩ = some (.string e.fName) := fun W hb => (HBW.out.under hb).cell 0 _ rfl
      go_wp2_with fail
      refine wp_region_held_drew (S := fun W => Below wr.heap.size wr W) (by kernel_rfl) (Below.drew rB) (fun hZ => ?_)
      refine uq 0 q00d_72_6_0 15 hZ ?_
      refine uq 1 q00d_72_6_1 16 hZ ?_
      refine uq 2 q00d_72_6_2 17 hZ ?_
      refine um 3 q00d_72_6_3 18 hZ ?_
      refine um 4 q00d_72_6_4 19 hZ ?_
      refine um 5 q00d_72_6_5 20 hZ ?_
      refine um 6 q00d_72_6_6 21 hZ ?_
      refine um 7 q00d_72_6_7 22 hZ ?_
      refine um 8 q00d_72_6_8 23 hZ ?_
      refine um 9 q00d_72_6_9 24 hZ ?_
      refine um 10 q00d_72_6_10 25 hZ ?_
      refine uq 11 q00d_72_6_11 26 hZ ?_
      refine wpAnyH_done (by kernel_rfl) ?_ _
      obtain ⟨wd, hwd⟩ : ∃ W9, W9 = wr.drew := ⟨_, rfl⟩
      rw [<- hwd] at hZ ⊢
      have HRowd := Hm (RowR.keep rEntry_good HRow.out hZ hbz)
      have hbkd := bthen hbk hZ
      have HBWd := Hm (HBW.out.under hZ)
      have HREd := Hm (rEntry_good.below HRE.out (hZ.mono hbz))
      have hzd := hZ.size
      have k0d := (hZ.cell (p := ⟨b1, o1 + k * 2, none⟩) hB1).trans k0
      have k1d := (hZ.cell (p := ⟨b1, o1 + k * 2 + 1, none⟩) hB1).trans k1
      have c0d := HBWd.out.cell 0 _ rfl
      have c1d := HBWd.out.cell 1 _ rfl
      have hB1d : b1 < wd.heap.size := Nat.lt_of_lt_of_le hB1 hzd
      have hbzd : w.heap.size <= wd.heap.size := Nat.le_trans hbz hzd
      have hbz1d : w.heap.size + 1 <= wd.heap.size := Nat.le_trans hbz1 hzd
      clear k0 k1 c0' c1' hB1 hbz hbz1 hbk HBW HRE HRow hwd hZ hp0 hp1 hzd
      have k0 := k0d
      have k1 := k1d
      have c0' := c0d
      have c1' := c1d
      have hB1 := hB1d
      have hbz := hbzd
      have hbz1 := hbz1d
      have hbk := hbkd
      have HBW := HBWd
      have HRE := HREd
      have HRow := HRowd
      clear k0d k1d c0d c1d hB1d hbzd hbz1d hbkd HBWd HREd HRowd
      have hp0 : ∀ W, Below wd.heap.size wd W -> W.cell? ⟨b1, o1 + k * 2, none⟩ = some (.string x.fName) := fun W hb => (hb.cell (p := ⟨b1, o1 + k * 2, none⟩) hB1).trans k0
      have hp1 : ∀ W, Below wd.heap.size wd W -> W.cell? ⟨w.heap.size, 0, none⟩ = some (.string e.fName) := fun W hb => (HBW.out.under hb).cell 0 _ rfl
      go_wp2_with fail
      refine wp_region_held_drew (S := fun W => Below wd.heap.size wd W) (by kernel_rfl) (Below.drew rB) (fun hZ => ?_)
      refine uq 0 q00d_72_9_0 31 hZ ?_
      refine uq 1 q00d_72_9_1 32 hZ ?_
      refine uq 2 q00d_72_9_2 33 hZ ?_
      refine uq 3 q00d_72_9_3 34 hZ ?_
      refine uq 4 q00d_72_9_4 35 hZ ?_
      refine uq 5 q00d_72_9_5 36 hZ ?_
      refine uq 6 q00d_72_9_6 37 hZ ?_
      refine uq 7 q00d_72_9_7 38 hZ ?_
      refine wpAnyH_done (by kernel_rfl) ?_ _
      obtain ⟨we, hwd⟩ : ∃ W9, W9 = wd.drew := ⟨_, rfl⟩
      rw [<- hwd] at hZ ⊢
      have HRowd := Hm (RowR.keep rEntry_good HRow.out hZ hbz)
      have hbkd := bthen hbk hZ
      have HBWd := Hm (HBW.out.under hZ)
      have HREd := Hm (rEntry_good.below HRE.out (hZ.mono hbz))
      have hzd := hZ.size
      have k0d := (hZ.cell (p := ⟨b1, o1 + k * 2, none⟩) hB1).trans k0
      have k1d := (hZ.cell (p := ⟨b1, o1 + k * 2 + 1, none⟩) hB1).trans k1
      have c0d := HBWd.out.cell 0 _ rfl
      have c1d := HBWd.out.cell 1 _ rfl
      have hB1d : b1 < we.heap.size := Nat.lt_of_lt_of_le hB1 hzd
      have hbzd : w.heap.size <= we.heap.size := Nat.le_trans hbz hzd
      have hbz1d : w.heap.size + 1 <= we.heap.size := Nat.le_trans hbz1 hzd
      clear k0 k1 c0' c1' hB1 hbz hbz1 hbk HBW HRE HRow hwd hZ hp0 hp1 hzd
      have k0 := k0d
      have k1 := k1d
      have c0' := c0d
      have c1' := c1d
      have hB1 := hB1d
      have hbz := hbzd
      have hbz1 := hbz1d
      have hbk := hbkd
      have HBW := HBWd
      have HRE := HREd
      have HRow := HRowd
      clear k0d k1d c0d c1d hB1d hbzd hbz1d hbkd HBWd HREd HRowd
      go_wp2_with fail
      go_roundw
      case rel => exact ⟨k + 1, o, true, by omega, rfl, by go_num, by omega, HEQ.out, HRow.out, hbk, HBW.out⟩
      case measure => simp [intOf]; omega
     ·have hgt := strLt_tri (Bool.eq_false_iff.2 hlt) heq
      clear hlt heq
      obtain ⟨p1, p2, p3⟩ := strLt_facts hgt
      have p4 : (x.fName.toList == e.fName.toList) = false := str_ne (fun h => by rw [h, strLt_irrefl] at hgt; cases hgt)
      have HEQ : Hid (o ++ [x] ++ withL e true (l.drop (k + 1)) = withE l e) := by
       show _ = _
       have h := HE.out
       rw [HD.out] at h
       have hl : strLt x.fName e.fName = false := strLt_asymm hgt
       have hn2 : ¬ x.fName = e.fName := (fun h => by rw [h, strLt_irrefl] at hgt; cases hgt)
       simpa [withL, hl, hn2] using h
      clear HE HD hgt
      have hkn0 : (0 : Int) <= (k : Int) := by omega
      have hkn1 : (k : Int) < (n : Int) := by omega
      have hp0 : ∀ W, Below wr.heap.size wr W -> W.cell? ⟨b1, o1 + k * 2, none⟩ = some (.string x.fName) := fun W hb => (hb.cell (p := ⟨b1, o1 + k * 2, none⟩) hB1).trans k0
      have hp1 : ∀ W, Below wr.heap.size wr W -> W.cell? ⟨w.heap.size, 0, none⟩ = some (.string e.fName) := fun W hb => (HBW.out.under hb).cell 0 _ rfl
      go_wp2_with fail
      refine wp_region_held_drew (S := fun W => Below wr.heap.size wr W) (by kernel_rfl) (Below.drew rB) (fun hZ => ?_)
      refine uq 0 q00d_72_6_0 15 hZ ?_
      refine uq 1 q00d_72_6_1 16 hZ ?_
      refine uq 2 q00d_72_6_2 17 hZ ?_
      refine um 3 q00d_72_6_3 18 hZ ?_
      refine um 4 q00d_72_6_4 19 hZ ?_
      refine um 5 q00d_72_6_5 20 hZ ?_
      refine um 6 q00d_72_6_6 21 hZ ?_
      refine um 7 q00d_72_6_7 22 hZ ?_
      refine um 8 q00d_72_6_8 23 hZ ?_
      refine um 9 q00d_72_6_9 24 hZ ?_
      refine um 10 q00d_72_6_10 25 hZ ?_
      refine uq 11 q00d_72_6_11 26 hZ ?_
      refine wpAnyH_done (by kernel_rfl) ?_ _
      obtain ⟨wd, hwd⟩ : ∃ W9, W9 = wr.drew := ⟨_, rfl⟩
      rw [<- hwd] at hZ ⊢
      have HRowd := Hm (RowR.keep rEntry_good HRow.out hZ hbz)
      have hbkd := bthen hbk hZ
      have HBWd := Hm (HBW.out.under hZ)
      have HREd := Hm (rEntry_good.below HRE.out (hZ.mono hbz))
      have hzd := hZ.size
      have k0d := (hZ.cell (p := ⟨b1, o1 + k * 2, none⟩) hB1).trans k0
      have k1d := (hZ.cell (p := ⟨b1, o1 + k * 2 + 1, none⟩) hB1).trans k1
      have c0d := HBWd.out.cell 0 _ rfl
      have c1d := HBWd.out.cell 1 _ rfl
      have hB1d : b1 < wd.heap.size := Nat.lt_of_lt_of_le hB1 hzd
      have hbzd : w.heap.size <= wd.heap.size := Nat.le_trans hbz hzd
      have hbz1d : w.heap.size + 1 <= wd.heap.size := Nat.le_trans hbz1 hzd
      clear k0 k1 c0' c1' hB1 hbz hbz1 hbk HBW HRE HRow hwd hZ hp0 hp1 hzd
      have k0 := k0d
      have k1 := k1d
      have c0' := c0d
      have c1' := c1d
      have hB1 := hB1d
      have hbz := hbzd
      have hbz1 := hbz1d
      have hbk := hbkd
      have HBW := HBWd
      have HRE := HREd
      have HRow := HRowd
      clear k0d k1d c0d c1d hB1d hbzd hbz1d hbkd HBWd HREd HRowd
      have hp0 : ∀ W, Below wd.heap.size wd W -> W.cell? ⟨b1, o1 + k * 2, none⟩ = some (.string x.fName) := fun W hb => (hb.cell (p := ⟨b1, o1 + k * 2, none⟩) hB1).trans k0
      have hp1 : ∀ W, Below wd.heap.size wd W -> W.cell? ⟨w.heap.size, 0, none⟩ = some (.string e.fName) := fun W hb => (HBW.out.under hb).cell 0 _ rfl
      go_wp2_with fail
      refine wp_region_held_drew (S := fun W => Below wd.heap.size wd W) (by kernel_rfl) (Below.drew rB) (fun hZ => ?_)
      refine uq 0 q00d_72_9_0 31 hZ ?_
      refine uq 1 q00d_72_9_1 32 hZ ?_
      refine uq 2 q00d_72_9_2 33 hZ ?_
      refine uq 3 q00d_72_9_3 34 hZ ?_
      refine uq 4 q00d_72_9_4 35 hZ ?_
      refine uq 5 q00d_72_9_5 36 hZ ?_
      refine uq 6 q00d_72_9_6 37 hZ ?_
      refine uq 7 q00d_72_9_7 38 hZ ?_
      refine wpAnyH_done (by kernel_rfl) ?_ _
      obtain ⟨we, hwd⟩ : ∃ W9, W9 = wd.drew := ⟨_, rfl⟩
      rw [<- hwd] at hZ ⊢
      have HRowd := Hm (RowR.keep rEntry_good HRow.out hZ hbz)
      have hbkd := bthen hbk hZ
      have HBWd := Hm (HBW.out.under hZ)
      have HREd := Hm (rEntry_good.below HRE.out (hZ.mono hbz))
      have hzd := hZ.size
      have k0d := (hZ.cell (p := ⟨b1, o1 + k * 2, none⟩) hB1).trans k0
      have k1d := (hZ.cell (p := ⟨b1, o1 + k * 2 + 1, none⟩) hB1).trans k1
      have c0d := HBWd.out.cell 0 _ rfl
      have c1d := HBWd.out.cell 1 _ rfl
      have hB1d : b1 < we.heap.size := Nat.lt_of_lt_of_le hB1 hzd
      have hbzd : w.heap.size <= we.heap.size := Nat.le_trans hbz hzd
      have hbz1d : w.heap.size + 1 <= we.heap.size := Nat.le_trans hbz1 hzd
      clear k0 k1 c0' c1' hB1 hbz hbz1 hbk HBW HRE HRow hwd hZ hp0 hp1 hzd
      have k0 := k0d
      have k1 := k1d
      have c0' := c0d
      have c1' := c1d
      have hB1 := hB1d
      have hbz := hbzd
      have hbz1 := hbz1d
      have hbk := hbkd
      have HBW := HBWd
      have HRE := HREd
      have HRow := HRowd
      clear k0d k1d c0d c1d hB1d hbzd hbz1d hbkd HBWd HREd HRowd
      obtain ⟨css5, r1, r2, r3, r4⟩ := HRow.out
      go_wp2_with (at_builtin; refine wpList_append_own_at _ rfl _ _ 25 rfl (w.heap.size + 1) 74 iE (.agg #[.string ⟨#[]⟩, .int .i64 0]) 2 24 Tryz.underlying25 hiE hzE0 hzE1 hzE2 rfl (by decide) _ _ _ rfl (own_below r4 (rB.alloc rN _)) ⟨we.heap.size, 0, none⟩ 1 1 [.string x.fName, .int .i64 x.fId] rfl rfl (bx_news (Bx.new we _ _)) (by intro u hu; simp at hu; rcases hu with rfl | rfl <;> rfl) (by unfold maxLen; omega) (by omega) (by simp; omega) ?_; intro v5 w5 hown5 hgrow5 hnil5 hloc5)
      have hT5 := Turn.after ((Below.refl we.heap.size we).alloc rN _) (turnOwn hgrow5)
      have hge5 : ∀ k, k ∈ (Value.ownBlock _).toList -> w.heap.size + 1 <= k := fun k hk => (r4.lt k (by simpa using hk)).1
      have hBl5 : Below w.heap.size we w5 := Turn.below hT5 (fun k hk => by have := hge5 k hk; omega) hbz
      have HRowd := Hm (RowR.push rEntry_good r1 r2 r3 hBl5 rfl (rEntry_good.below HRE.out hBl5) hown5)
      have hbkd := hbk.trans hBl5
      have HBWd := Hm (HBW.out.turn hT5 (fun h => by have := hge5 _ h; omega))
      have HREd := Hm (rEntry_good.below HRE.out hBl5)
      have hzd := hT5.size
      have k0d := (hT5.cell (p := ⟨b1, o1 + k * 2, none⟩) hB1 (fun h => by have := hge5 _ h; have := HBL.out; simp at *; omega)).trans k0
      have k1d := (hT5.cell (p := ⟨b1, o1 + k * 2 + 1, none⟩) hB1 (fun h => by have := hge5 _ h; have := HBL.out; simp at *; omega)).trans k1
      have c0d := HBWd.out.cell 0 _ rfl
      have c1d := HBWd.out.cell 1 _ rfl
      have hB1d : b1 < w5.heap.size := Nat.lt_of_lt_of_le hB1 hzd
      have hbzd : w.heap.size <= w5.heap.size := Nat.le_trans hbz hzd
      have hbz1d : w.heap.size + 1 <= w5.heap.size := Nat.le_trans hbz1 hzd
      clear k0 k1 c0' c1' hB1 hbz hbz1 hbk HBW HRE HRow hzd r1 r2 r3 r4 hT5 hge5 hBl5 hown5 hgrow5 hnil5 hloc5
      have k0 := k0d
      have k1 := k1d
      have c0' := c0d
      have c1' := c1d
      have hB1 := hB1d
      have hbz := hbzd
      have hbz1 := hbz1d
      have hbk := hbkd
      have HBW := HBWd
      have HRE := HREd
      have HRow := HRowd
      clear k0d k1d c0d c1d hB1d hbzd hbz1d hbkd HBWd HREd HRowd
      go_roundw
      case rel => exact ⟨k + 1, o ++ [x], true, by omega, rfl, by go_num, by simp; omega, HEQ.out, HRow.out, hbk, HBW.out⟩
      case measure => simp [intOf]; omega
  ·obtain ⟨css, r1, r2, r3, r4⟩ := HRow.out
   have hkn : k = n := by omega
   have HDN : Hid (l.drop k = []) := by show _ = _; rw [hkn, <- HX.out]; exact List.drop_length
   cases p
   ·have HEQ : Hid (o ++ [e] = withE l e) := by show _ = _; have h := HE.out; rw [HDN.out] at h; simpa [withL] using h
    clear HE HDN
    go_wp2_with (at_builtin; refine wpList_append_own_at _ rfl _ _ 25 rfl (w.heap.size + 1) 74 iE (.agg #[.string ⟨#[]⟩, .int .i64 0]) 2 24 Tryz.underlying25 hiE hzE0 hzE1 hzE2 rfl (by decide) _ _ _ rfl (own_below r4 (rB.alloc rN _)) ⟨wr.heap.size, 0, none⟩ 1 1 [.string e.fName, .int .i64 e.fId] rfl rfl (bx_news (Bx.new wr _ _)) (by intro u hu; simp at hu; rcases hu with rfl | rfl <;> rfl) (by unfold maxLen; omega) (by omega) (by simp; omega) ?_; intro v1 w3 hown3 hgrow3 hnil3 hloc3)
    have hT3 := Turn.after ((Below.refl wr.heap.size wr).alloc rN _) (turnOwn hgrow3)
    have hge3 : ∀ k, k ∈ (Value.ownBlock _).toList -> w.heap.size + 1 <= k := fun k hk => (r4.lt k (by simpa using hk)).1
    have hBl3 : Below w.heap.size wr w3 := Turn.below hT3 (fun k hk => by have := hge3 k hk; omega) hbz
    have hr3 := RowR.push rEntry_good r1 r2 r3 hBl3 rfl (rEntry_good.below (HEE.out wr) hBl3) hown3
    rw [HEQ.out] at hr3
    obtain ⟨css3, s1, s2, s3, s4⟩ := hr3
    obtain ⟨a', c', rfl⟩ := own_slice s4
    have ho := ownS_row rfl s1 s2 s3 s4
    go_ret
    exact ⟨a', c', _, rfl, ho, (fun b hb => by have := (s4.lt b (by simpa using hb)).1; omega), hbk.trans hBl3⟩
   ·have HEQ : Hid (o = withE l e) := by show _ = _; have h := HE.out; rw [HDN.out] at h; simpa [withL] using h
    rw [HEQ.out] at r1 r3 r4
    clear HE HDN
    obtain ⟨a', c', rfl⟩ := own_slice r4
    have ho := ownS_row rfl r1 r2 r3 r4
    have HO := Hm ho
    have HGE : Hid (∀ b, b ∈ (Value.ownBlock (.slice a' (withE l e).length c')).toList -> w.heap.size <= b) := fun b hb => by have := (r4.lt b (by simpa using hb)).1; omega
    clear ho r1 r2 r3 r4
    go_wp2_with fail
    go_ret
    exact ⟨a', c', _, rfl, HO.out, HGE.out, hbk⟩
end Go.Proofs.YtegonncmopecnaaGreatDoor
