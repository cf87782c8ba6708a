/-
  Part 12 of the texts that the proof leans on.
-/
import Derived.Test.YtmedljankefhbaaDoorTbf0
import Derived.Test.YtmedljankefhbaaDoorTbf10
import Derived.Test.YtmedljankefhbaaDoorTbf2
import Derived.Deep.DeepCutAuto
set_option linter.unusedVariables false
set_option linter.unusedSimpArgs false
set_option maxRecDepth 10000

namespace Go.Proofs.YtmedljankefhbaaDoor
open Go.RowKit Go.Maps Go.Shelf
abbrev q6e0_43_1_0 : Oper := ⟨some 12, .build 32 #[], 32, "l05_table.go:204", #[], none⟩
abbrev q6e0_43_1_1 : Oper := ⟨some 13, .load 55 (.global 1), 55, "l05_table.go:204", #[], none⟩
abbrev q6e0_43_1_3 : Oper := ⟨some 9, .alloc 55, 0, "l05_table.go:204", #[], none⟩
abbrev q6e0_43_1_2 : Oper := ⟨some 8, .alloc 32, 0, "l05_table.go:204", #[], none⟩
abbrev q6e0_43_1_4 : Oper := ⟨none, .store 32 (.tmp 8) (.tmp 12), 0, "l05_table.go:204", #[⟨2, .data⟩, ⟨0, .data⟩, ⟨0, .phase⟩, { on := 1, ground := Ground.textOnly Departure.inlinedCapture }, ⟨2, .phase⟩, ⟨3, .phase⟩], none⟩
abbrev q6e0_43_1_5 : Oper := ⟨none, .store 55 (.tmp 9) (.tmp 13), 0, "l05_table.go:204", #[⟨3, .data⟩, ⟨1, .data⟩, ⟨4, .chain⟩, ⟨0, .phase⟩, ⟨1, .phase⟩, ⟨2, .phase⟩, ⟨3, .phase⟩, ⟨4, .phase⟩], none⟩
abbrev q6e0_43_9_0 : Oper := ⟨some 32, .load 32 (.tmp 8), 32, "l05_table.go:214", #[], none⟩
abbrev q6e0_43_9_1 : Oper := ⟨some 33, .load 55 (.tmp 9), 55, "l05_table.go:214", #[], none⟩
abbrev q6e0_43_9_2 : Oper := ⟨none, .store 32 (.tmp 6) (.tmp 32), 0, "l05_table.go:214", #[⟨0, .data⟩, ⟨0, .phase⟩, { on := 1, ground := Ground.textOnly Departure.inlinedCapture }], none⟩
abbrev q6e0_43_9_3 : Oper := ⟨none, .store 55 (.tmp 7) (.tmp 33), 0, "l05_table.go:214", #[⟨1, .data⟩, ⟨2, .chain⟩, ⟨0, .phase⟩, ⟨1, .phase⟩, ⟨2, .phase⟩], none⟩

attribute [local go_sem] Oper.semAt_some

def Err2 (w : World) (q : Addr) : Prop := w.cell? ⟨1, 0, none⟩ = some (errV q)
theorem Err2.below {w w' : World} {q : Addr} (h : Err2 w q) (hb : Below w.heap.size w w') : Err2 w' q := (hb.cell (p := ⟨1, 0, none⟩) (World.block_lt_of_cell? _ _ h)).trans h
def firstK (l : List MPair) (key : ByteArray) : Option MPair := l.find? fun p => decide (p.fKey = key)
def fndC : Option MPair → List Value
  | none => [.string ⟨#[]⟩, .string ⟨#[]⟩, .bool false]
  | some p => [.string p.fKey, .string p.fVal, .bool p.fGone]
def fndE (q : Addr) : Option MPair → Value
  | none => errV q
  | some _ => .nilIface
theorem firstK_on {l : List MPair} {key : ByteArray} {p : MPair} (h : p.fKey ≠ key ∨ (firstK l key).isSome = true) : firstK (l ++ [p]) key = firstK l key := by
  unfold firstK at *
  rw [List.find?_append]
  cases hf : l.find? (fun p => decide (p.fKey = key)) with
  | some x => rfl
  | none =>
    rw [hf] at h
    rcases h with h | h
    · simp [List.find?, h]
    · simp at h
theorem firstK_new {l : List MPair} {key : ByteArray} {p : MPair} (h : p.fKey = key) (hn : firstK l key = none) : firstK (l ++ [p]) key = some p := by
  unfold firstK at *
  rw [List.find?_append, hn]
  simp [List.find?, h]
/-- What lies there while the pairs of a block come. -/
def PB (w : World) (FB EB D : Nat) (key : ByteArray) (q : Addr) (W : World) (o : Option MPair) : Prop :=
  Bw W w.heap.size 9 [.string key] ∧ Bw W (w.heap.size + 1) 32 [.string ⟨#[]⟩, .string ⟨#[]⟩, .bool false] ∧ Bw W (w.heap.size + 2) 55 [.nilIface] ∧ Bw W FB 32 (fndC o) ∧ Bw W EB 55 [fndE q o] ∧ W.heap[D]? = some (.deferred (some [])) ∧ (w.heap.size + 2 < FB ∧ w.heap.size + 2 < EB ∧ FB ≠ EB ∧ FB < D ∧ EB < D ∧ D + 2 ≤ W.heap.size) ∧ Below w.heap.size w W
theorem PB.turn {w : World} {FB EB D : Nat} {key : ByteArray} {q : Addr} {W W' : World} {o : Option MPair} {F : List Nat} (h : PB w FB EB D key q W o) (ht : Turn F W W') (hF : ∀ k, k ∈ F → D < k) : PB w FB EB D key q W' o := by
  obtain ⟨h1, h2, h3, h4, h5, h6, h7, h8⟩ := h
  have hs := ht.size
  refine ⟨h1.turn ht (fun hm => by have := hF _ hm; omega), h2.turn ht (fun hm => by have := hF _ hm; omega), h3.turn ht (fun hm => by have := hF _ hm; omega), h4.turn ht (fun hm => by have := hF _ hm; omega), h5.turn ht (fun hm => by have := hF _ hm; omega), (ht.block D (by omega) (fun hm => by have := hF _ hm; omega)).trans h6, by omega, h8.trans (ht.below (fun k hk => by have := hF _ hk; omega) h8.size)⟩
theorem PB.under {w : World} {FB EB D : Nat} {key : ByteArray} {q : Addr} {W W' : World} {o : Option MPair} (h : PB w FB EB D key q W o) (hb : Below W.heap.size W W') : PB w FB EB D key q W' o := h.turn (Turn.ofBelow (F := []) hb) (fun k hk => by cases hk)
theorem PB.put {w : World} {FB EB D : Nat} {key : ByteArray} {q : Addr} {W : World} {o : Option MPair} (h : PB w FB EB D key q W o) (ob : Obj) : PB w FB EB D key q (W.putObj (D + 1) ob) o :=
  h.turn (F := [D + 1]) (Turn.ofGrown (grownBy_putObj' W _ _) (fun k hk => by simp only [Option.some.injEq] at hk; simp [hk])) (fun k hk => by simp only [List.mem_singleton] at hk; omega)
theorem PB.below {w : World} {FB EB D : Nat} {key : ByteArray} {q : Addr} {W : World} {o : Option MPair} (h : PB w FB EB D key q W o) : Below w.heap.size w W := h.2.2.2.2.2.2.2
theorem turn3 (w : World) (b : Nat) (x0 x1 x2 : Value) : Turn [b] w (((w.setCell ⟨b, 0, none⟩ x0).setCell ⟨b, 1, none⟩ x1).setCell ⟨b, 2, none⟩ x2) :=
  (((Turn.refl _ _).setCell (by simp) _).setCell (by simp) _).setCell (by simp) _
theorem PB.find {w : World} {FB EB D : Nat} {key : ByteArray} {q : Addr} {W : World} {o : Option MPair} (h : PB w FB EB D key q W o) (p : MPair) :
    PB w FB EB D key q ((((W.setCell ⟨FB, 0, none⟩ (.string p.fKey)).setCell ⟨FB, 1, none⟩ (.string p.fVal)).setCell ⟨FB, 2, none⟩ (.bool p.fGone)).setCell ⟨EB, 0, none⟩ .nilIface) (some p) ∧
    Turn [FB, EB] W ((((W.setCell ⟨FB, 0, none⟩ (.string p.fKey)).setCell ⟨FB, 1, none⟩ (.string p.fVal)).setCell ⟨FB, 2, none⟩ (.bool p.fGone)).setCell ⟨EB, 0, none⟩ .nilIface) := by
  obtain ⟨h1, h2, h3, h4, h5, h6, h7, h8⟩ := h
  have hT : Turn [FB, EB] W ((((W.setCell ⟨FB, 0, none⟩ (.string p.fKey)).setCell ⟨FB, 1, none⟩ (.string p.fVal)).setCell ⟨FB, 2, none⟩ (.bool p.fGone)).setCell ⟨EB, 0, none⟩ .nilIface) :=
    ((((Turn.refl _ _).setCell (by simp) _).setCell (by simp) _).setCell (by simp) _).setCell (by simp) _
  have hs := hT.size
  have hc : ∀ (o : Option MPair), ((((fndC o).set 0 (.string p.fKey)).set 1 (.string p.fVal)).set 2 (.bool p.fGone)) = fndC (some p) := by intro o; cases o <;> rfl
  have g4 := ((((h4.put 0 (.string p.fKey)).put 1 (.string p.fVal)).put 2 (.bool p.fGone)))
  rw [hc] at g4
  have t1 : Turn [FB] W (((W.setCell ⟨FB, 0, none⟩ (.string p.fKey)).setCell ⟨FB, 1, none⟩ (.string p.fVal)).setCell ⟨FB, 2, none⟩ (.bool p.fGone)) := turn3 _ _ _ _ _
  have t2 : Turn [EB] (((W.setCell ⟨FB, 0, none⟩ (.string p.fKey)).setCell ⟨FB, 1, none⟩ (.string p.fVal)).setCell ⟨FB, 2, none⟩ (.bool p.fGone)) ((((W.setCell ⟨FB, 0, none⟩ (.string p.fKey)).setCell ⟨FB, 1, none⟩ (.string p.fVal)).setCell ⟨FB, 2, none⟩ (.bool p.fGone)).setCell ⟨EB, 0, none⟩ .nilIface) := (Turn.refl _ _).setCell (by simp) _
  have g5 := (h5.turn t1 (by simp; omega)).put 0 .nilIface
  refine ⟨⟨h1.turn hT (by simp; omega), h2.turn hT (by simp; omega), h3.turn hT (by simp; omega), g4.turn t2 (by simp; omega), g5, (hT.block D (by omega) (by simp; omega)).trans h6, by omega, h8.trans (hT.below (fun k hk => by simp at hk; omega) h8.size)⟩, hT⟩

def PiPost (w : World) (q : Addr) (o : Option MPair) (e : Ending) (w' : World) : Prop := e = .returned (.tuple #[.agg (fndC o).toArray, fndE q o]) ∧ Below w.heap.size w w'

set_option maxHeartbeats 8000000 in
theorem pairInBlock_any (a : Option Addr) (n : Nat) (zs : List Int) (p0 : Int) (key : ByteArray) (l : List MPair) (nx : Int) (pe q : Addr) (w : World) (hx : zs.length = n) (hlen : n ≤ 1048576) (hb : BytesOk zs) (hr : Rd .u8 w.heap.size w a zs) (ht : TabAt w) (hE : ErrAt w pe) (hE2 : Err2 w q)
    (hu : unframe zs p0 = (blockB ByteArray.empty l, nx, true)) (hs : ∀ x, x ∈ l → x.fKey.size ≤ 1000000 ∧ x.fVal.size ≤ 1000000) :
    Calls Tryd.prog 43 #[.slice a n n, .int .i64 p0, .string key] w (PiPost w q (firstK l key)) := by
  have HX := Hid.mk hx
  have HB := Hid.mk hb
  have HR := Hid.mk hr
  have HT := Hid.mk ht
  have HE := Hid.mk hE
  have HU := Hid.mk hu
  have HS := Hid.mk hs
  have HUL : Hid ((blockB ByteArray.empty l).length ≤ 1048576) := by have h := unframe_len zs p0; rw [hu] at h; simp only at h; show _ ≤ _; omega
  obtain ⟨wa, hwa⟩ : ∃ x, x = ((w.alloc (.cells #[.string key] 9)).alloc (.cells #[.string ⟨#[]⟩, .string ⟨#[]⟩, .bool false] 32)).alloc (.cells #[.nilIface] 55) := ⟨_, rfl⟩
  have hba : Below w.heap.size w wa := by rw [hwa]; exact (((Below.refl _ _).alloc (Nat.le_refl _) _).alloc (by simp) _).alloc (by simp; omega) _
  have hza : wa.heap.size = w.heap.size + 3 := by rw [hwa]; simp
  have hK0 : Bw wa w.heap.size 9 [.string key] := by rw [hwa]; exact ((Bw.new' w _ _ rfl).under ((Below.refl _ _).alloc (Nat.le_refl _) _)).under ((Below.refl _ _).alloc (Nat.le_refl _) _)
  have hR0 : Bw wa (w.heap.size + 1) 32 [.string ⟨#[]⟩, .string ⟨#[]⟩, .bool false] := by rw [hwa]; exact (Bw.new' (w.alloc _) _ _ (by simp)).under ((Below.refl _ _).alloc (Nat.le_refl _) _)
  have hR1 : Bw wa (w.heap.size + 2) 55 [.nilIface] := by rw [hwa]; exact Bw.new' _ _ _ (by simp)
  have hE2a := hE2.below hba
  have y0 : ∀ W, Below wa.heap.size wa W → W.cell? ⟨1, 0, none⟩ = some (.iface 141 (.pointer (some q))) := fun W hW => hE2a.below hW
  have HWA := Hid.mk hwa
  have HZA := Hid.mk hza
  clear hx hb hr ht hE hwa hu hs hza hE2 hE2a
  refine (callsIn_wide (n := 5)).1 ?_
  refine callsIn_of_wp_marks Tryd.func43 rfl trivial ?_ rfl
  refine wpIn_wide.2 ?_
  refine Code.wp_mono calmQ_out ?_
  simp only [Tryd.ntmps43, List.size_toArray, List.length_cons, List.length_nil, Nat.reduceAdd, Nat.reduceSub, Array.replicate_succ, Array.replicate_zero, List.push_toArray, List.append_toArray, List.nil_append, List.cons_append]
  go_wp2_with fail
  rw [← HWA.out]
  go_cut [8, 9] from 12 to 14 (fun x y wc => ∃ (FB EB : Nat), x = .pointer (some ⟨FB, 0, none⟩) ∧ y = .pointer (some ⟨EB, 0, none⟩) ∧ Hid (Bw wc FB 32 [.string ⟨#[]⟩, .string ⟨#[]⟩, .bool false]) ∧ Hid (Bw wc EB 55 [errV q]) ∧ wa.heap.size ≤ FB ∧ wa.heap.size ≤ EB ∧ FB ≠ EB ∧ Below wa.heap.size wa wc)
  case first =>
    refine wp_region_held_drew (S := fun W => Below wa.heap.size wa W) (by kernel_rfl) (Below.drew (Below.refl _ _)) (fun hHeld => ?_)
    obtain ⟨wS, hwS⟩ : ∃ wS, wS = wa.drew := ⟨_, rfl⟩
    rw [← hwS] at hHeld ⊢
    clear hwS
    refine tk 0 q6e0_43_1_0 (some 12) (v := ?v1) rfl rfl (by kernel_rfl) hHeld (by rfl) (fun _ _ _ x => x) (fun w h => ?y1) ?_; (case y1 => (try dsimp only at h); go_simp; try (with_reducible rfl)); try simp only [Act.put, sa, s0, s1]
    refine tk 1 q6e0_43_1_1 (some 13) (v := ?v2) rfl rfl (by kernel_rfl) hHeld (by rfl) (fun _ _ _ x => x) (fun w h => ?y2) ?_; (case y2 => (try dsimp only at h); go_simp; try (with_reducible rfl)); try simp only [Act.put, sa, s0, s1]
    refine wpAnyH_ready (rs := [2, 3]) (by kernel_rfl) (by simp) ?_
    refine (AllReadyH.cons (o := q6e0_43_1_2) rfl (fun K hK => ?_) (AllReadyH.cons (o := q6e0_43_1_3) rfl (fun K hK => ?_) AllReadyH.nil))
    · go_simp
      obtain ⟨wE2, hq2⟩ : ∃ q, q = wS.alloc (.cells #[.string ⟨#[]⟩, .string ⟨#[]⟩, .bool false] 32) := ⟨_, rfl⟩
      have hop2 : Below wS.heap.size wS wE2 := by rw [hq2]; exact (Below.refl _ _).alloc (Nat.le_refl _) _
      obtain ⟨FB, HFB⟩ : ∃ z, Hid (z = wS.heap.size) := ⟨_, Hid.mk rfl⟩
      try have HNE : Hid (FB ≠ EB) := by unfold Hid; have hl := HB3.out.lt; have he := HFB.out; omega
      have HB2 : Hid (Bw wE2 FB 32 [.string ⟨#[]⟩, .string ⟨#[]⟩, .bool false]) := by unfold Hid; rw [HFB.out, hq2]; exact Bw.new' _ _ _ rfl
      try have HB3 := Hid.mk (HB3.out.under hop2)
      have HFL : Hid (wa.heap.size ≤ FB) := by unfold Hid; rw [HFB.out]; exact hHeld.size
      rw [← HFB.out]
      rw [← hq2]
      clear hq2
      refine hK.out _ _ (bthen hHeld hop2) (fun hHeld => ?_)
      clear hK K
      try simp only [Act.put, sa, s0, s1]
      refine wpAnyH_ready (rs := [3]) (by kernel_rfl) (by simp) ?_
      refine (AllReadyH.cons (o := q6e0_43_1_3) rfl (fun K hK => ?_) AllReadyH.nil)
      · go_simp
        obtain ⟨wE3, hq3⟩ : ∃ q, q = wE2.alloc (.cells #[.nilIface] 55) := ⟨_, rfl⟩
        have hop3 : Below wE2.heap.size wE2 wE3 := by rw [hq3]; exact (Below.refl _ _).alloc (Nat.le_refl _) _
        obtain ⟨EB, HEB⟩ : ∃ z, Hid (z = wE2.heap.size) := ⟨_, Hid.mk rfl⟩
        try have HNE : Hid (FB ≠ EB) := by unfold Hid; have hl := HB2.out.lt; have he := HEB.out; omega
        have HB3 : Hid (Bw wE3 EB 55 [.nilIface]) := by unfold Hid; rw [HEB.out, hq3]; exact Bw.new' _ _ _ rfl
        try have HB2 := Hid.mk (HB2.out.under hop3)
        have HEL : Hid (wa.heap.size ≤ EB) := by unfold Hid; rw [HEB.out]; exact hHeld.size
        rw [← HEB.out]
        rw [← hq3]
        clear hq3
        refine hK.out _ _ (bthen hHeld hop3) (fun hHeld => ?_)
        clear hK K
        try simp only [Act.put, sa, s0, s1]
        refine wpAnyH_ready (rs := [4]) (by kernel_rfl) (by simp) ?_
        refine (AllReadyH.cons (o := q6e0_43_1_4) rfl (fun K hK => ?_) AllReadyH.nil)
        · skip
          have hbd := HB2.out
          have s0 := hbd.cell 0 _ rfl
          have s1 := hbd.cell 1 _ rfl
          have s2 := hbd.cell 2 _ rfl
          have t0 := hbd.free 0
          have t1 := hbd.free 1
          have t2 := hbd.free 2
          have s4 := hbd.lt
          go_simp
          obtain ⟨wE4, hq4⟩ : ∃ q, q = ((wE3.setCell ⟨FB, 0, none⟩ (.string ⟨#[]⟩)).setCell ⟨FB, 1, none⟩ (.string ⟨#[]⟩)).setCell ⟨FB, 2, none⟩ (.bool false) := ⟨_, rfl⟩
          have hT4 : Turn [FB] wE3 wE4 := by rw [hq4]; exact turn3 _ _ _ _ _
          have HB2 : Hid (Bw wE4 FB 32 [.string ⟨#[]⟩, .string ⟨#[]⟩, .bool false]) := by unfold Hid; rw [hq4]; exact ((hbd.put 0 _).put 1 _).put 2 _
          try have HB3 := Hid.mk (HB3.out.turn hT4 (by have h := HNE.out; simp; omega))
          rw [← hq4]
          clear hq4 s0 s1 s2 s4 t0 t1 t2 hbd
          refine hK.out _ _ (hHeld.trans (hT4.below (fun k hk => by simp at hk; rw [hk]; exact HFL.out) hHeld.size)) (fun hHeld => ?_)
          clear hK K
          try simp only [Act.put, sa, s0, s1]
          refine wpAnyH_ready (rs := [5]) (by kernel_rfl) (by simp) ?_
          refine (AllReadyH.cons (o := q6e0_43_1_5) rfl (fun K hK => ?_) AllReadyH.nil)
          · skip
            have hbd := HB3.out
            have s0 := hbd.cell 0 _ rfl
            have t0 := hbd.free 0
            have s4 := hbd.lt
            go_simp
            obtain ⟨wE5, hq5⟩ : ∃ z, z = wE4.setCell ⟨EB, 0, none⟩ (.iface 141 (.pointer (some q))) := ⟨_, rfl⟩
            have hT5 : Turn [EB] wE4 wE5 := by rw [hq5]; exact (Turn.refl _ _).setCell (by simp) _
            have HB3 : Hid (Bw wE5 EB 55 [errV q]) := by unfold Hid; rw [hq5]; exact hbd.put 0 _
            try have HB2 := Hid.mk (HB2.out.turn hT5 (by have h := HNE.out; simp; omega))
            rw [← hq5]
            clear hq5 s0 s4 t0 hbd
            refine hK.out _ _ (hHeld.trans (hT5.below (fun k hk => by simp at hk; rw [hk]; exact HEL.out) hHeld.size)) (fun hHeld => ?_)
            clear hK K
            try simp only [Act.put, sa, s0, s1]
            refine wpAnyH_done (by kernel_rfl) ?_ _
            try go_wp2_with fail
            go_meet
            case rel => exact ⟨FB, EB, rfl, rfl, HB2, HB3, HFL.out, HEL.out, HNE.out, hHeld⟩
    · go_simp
      obtain ⟨wE3, hq3⟩ : ∃ q, q = wS.alloc (.cells #[.nilIface] 55) := ⟨_, rfl⟩
      have hop3 : Below wS.heap.size wS wE3 := by rw [hq3]; exact (Below.refl _ _).alloc (Nat.le_refl _) _
      obtain ⟨EB, HEB⟩ : ∃ z, Hid (z = wS.heap.size) := ⟨_, Hid.mk rfl⟩
      try have HNE : Hid (FB ≠ EB) := by unfold Hid; have hl := HB2.out.lt; have he := HEB.out; omega
      have HB3 : Hid (Bw wE3 EB 55 [.nilIface]) := by unfold Hid; rw [HEB.out, hq3]; exact Bw.new' _ _ _ rfl
      try have HB2 := Hid.mk (HB2.out.under hop3)
      have HEL : Hid (wa.heap.size ≤ EB) := by unfold Hid; rw [HEB.out]; exact hHeld.size
      rw [← HEB.out]
      rw [← hq3]
      clear hq3
      refine hK.out _ _ (bthen hHeld hop3) (fun hHeld => ?_)
      clear hK K
      try simp only [Act.put, sa, s0, s1]
      refine wpAnyH_ready (rs := [2]) (by kernel_rfl) (by simp) ?_
      refine (AllReadyH.cons (o := q6e0_43_1_2) rfl (fun K hK => ?_) AllReadyH.nil)
      · go_simp
        obtain ⟨wE2, hq2⟩ : ∃ q, q = wE3.alloc (.cells #[.string ⟨#[]⟩, .string ⟨#[]⟩, .bool false] 32) := ⟨_, rfl⟩
        have hop2 : Below wE3.heap.size wE3 wE2 := by rw [hq2]; exact (Below.refl _ _).alloc (Nat.le_refl _) _
        obtain ⟨FB, HFB⟩ : ∃ z, Hid (z = wE3.heap.size) := ⟨_, Hid.mk rfl⟩
        try have HNE : Hid (FB ≠ EB) := by unfold Hid; have hl := HB3.out.lt; have he := HFB.out; omega
        have HB2 : Hid (Bw wE2 FB 32 [.string ⟨#[]⟩, .string ⟨#[]⟩, .bool false]) := by unfold Hid; rw [HFB.out, hq2]; exact Bw.new' _ _ _ rfl
        try have HB3 := Hid.mk (HB3.out.under hop2)
        have HFL : Hid (wa.heap.size ≤ FB) := by unfold Hid; rw [HFB.out]; exact hHeld.size
        rw [← HFB.out]
        rw [← hq2]
        clear hq2
        refine hK.out _ _ (bthen hHeld hop2) (fun hHeld => ?_)
        clear hK K
        try simp only [Act.put, sa, s0, s1]
        refine wpAnyH_ready (rs := [4]) (by kernel_rfl) (by simp) ?_
        refine (AllReadyH.cons (o := q6e0_43_1_4) rfl (fun K hK => ?_) AllReadyH.nil)
        · skip
          have hbd := HB2.out
          have s0 := hbd.cell 0 _ rfl
          have s1 := hbd.cell 1 _ rfl
          have s2 := hbd.cell 2 _ rfl
          have t0 := hbd.free 0
          have t1 := hbd.free 1
          have t2 := hbd.free 2
          have s4 := hbd.lt
          go_simp
          obtain ⟨wE4, hq4⟩ : ∃ q, q = ((wE2.setCell ⟨FB, 0, none⟩ (.string ⟨#[]⟩)).setCell ⟨FB, 1, none⟩ (.string ⟨#[]⟩)).setCell ⟨FB, 2, none⟩ (.bool false) := ⟨_, rfl⟩
          have hT4 : Turn [FB] wE2 wE4 := by rw [hq4]; exact turn3 _ _ _ _ _
          have HB2 : Hid (Bw wE4 FB 32 [.string ⟨#[]⟩, .string ⟨#[]⟩, .bool false]) := by unfold Hid; rw [hq4]; exact ((hbd.put 0 _).put 1 _).put 2 _
          try have HB3 := Hid.mk (HB3.out.turn hT4 (by have h := HNE.out; simp; omega))
          rw [← hq4]
          clear hq4 s0 s1 s2 s4 t0 t1 t2 hbd
          refine hK.out _ _ (hHeld.trans (hT4.below (fun k hk => by simp at hk; rw [hk]; exact HFL.out) hHeld.size)) (fun hHeld => ?_)
          clear hK K
          try simp only [Act.put, sa, s0, s1]
          refine wpAnyH_ready (rs := [5]) (by kernel_rfl) (by simp) ?_
          refine (AllReadyH.cons (o := q6e0_43_1_5) rfl (fun K hK => ?_) AllReadyH.nil)
          · skip
            have hbd := HB3.out
            have s0 := hbd.cell 0 _ rfl
            have t0 := hbd.free 0
            have s4 := hbd.lt
            go_simp
            obtain ⟨wE5, hq5⟩ : ∃ z, z = wE4.setCell ⟨EB, 0, none⟩ (.iface 141 (.pointer (some q))) := ⟨_, rfl⟩
            have hT5 : Turn [EB] wE4 wE5 := by rw [hq5]; exact (Turn.refl _ _).setCell (by simp) _
            have HB3 : Hid (Bw wE5 EB 55 [errV q]) := by unfold Hid; rw [hq5]; exact hbd.put 0 _
            try have HB2 := Hid.mk (HB2.out.turn hT5 (by have h := HNE.out; simp; omega))
            rw [← hq5]
            clear hq5 s0 s4 t0 hbd
            refine hK.out _ _ (hHeld.trans (hT5.below (fun k hk => by simp at hk; rw [hk]; exact HEL.out) hHeld.size)) (fun hHeld => ?_)
            clear hK K
            try simp only [Act.put, sa, s0, s1]
            refine wpAnyH_done (by kernel_rfl) ?_ _
            try go_wp2_with fail
            go_meet
            case rel => exact ⟨FB, EB, rfl, rfl, HB2, HB3, HFL.out, HEL.out, HNE.out, hHeld⟩
  case rest =>
    obtain ⟨FB, EB, rfl, rfl, HBF, HBE, hFl, hEl, hne, hbc⟩ := hcut
    generalize wc = wA at *
    clear y0
    have HK0 := Hid.mk (hK0.under hbc)
    have HR0 := Hid.mk (hR0.under hbc)
    have HR1 := Hid.mk (hR1.under hbc)
    have HBC := Hid.mk (hba.trans (hbc.mono hba.size))
    clear hK0 hR0 hR1
    go_wp2_with fail
    refine (pairsAt_c a n n p0 wA).mono ?_
    rintro e w5 ⟨g1, g2, rfl, HG1, hA1, hA2, hx1⟩
    have HX1 := Hid.mk hx1
    have HA1 := Hid.mk hA1
    have HA2 := Hid.mk hA2
    clear hx1 hA1 hA2
    go_wp2_with fail
    refine (wpIn_wide (n := 5)).1 ?_
    refine range_begins (gf := 55) (lb := #[.pointer (some ⟨g1, 0, none⟩), .pointer (some ⟨g2, 0, none⟩)]) rfl (enters_of Tryd.func55 (by kernel_rfl) rfl) ?_ (by have h1 := HX1.out.size; have h2 := HBC.out.size; have h3 := HZA.out; have h4 := hbc.size; omega)
    intro fn r hst hpe hps htm has hbo W1 hl hd hs1 hbW1
    have hs5 : wA.heap.size + 2 = w5.heap.size := by obtain ⟨e1, e2, e3⟩ := HG1.out; omega
    have hsA : w.heap.size + 3 ≤ wA.heap.size := by have h3 := HZA.out; have h4 := hbc.size; omega
    have hza := HZA.out
    have hFA := HBF.out.lt
    have hEA := HBE.out.lt
    have hb5 : Below wA.heap.size wA W1 := HX1.out.trans (hbW1.mono HX1.out.size)
    have hPB : PB w FB EB w5.heap.size key q W1 (firstK [] key) := ⟨HK0.out.under hb5, HR0.out.under hb5, HR1.out.under hb5, HBF.out.under hb5, HBE.out.under hb5, hd, by omega, HBC.out.trans (hb5.mono HBC.out.size)⟩
    have hA1' := HA1.out.under hbW1
    have hA2' := HA2.out.under hbW1
    have hsD : w5.heap.size + 1 < W1.heap.size := by omega
    have hDD : w.heap.size + 3 ≤ w5.heap.size := by omega
    clear HK0 HR0 HR1 HBF HBE HBC HA1 HA2 HX1 HG1 hb5 hd hbW1 hs1 hs5 hsA hza hbc hFl hEl hFA hEA
    simp only [List.append_toArray, List.nil_append, List.cons_append]
    refine (callsIn_wide (n := 3)).1 ?_
    refine callsIn_of_wp Tryd.func55 rfl trivial ?_ rfl
    simp only [Tryd.ntmps55, List.size_toArray, List.length_cons, List.length_nil, Nat.reduceAdd, Nat.reduceSub, Array.replicate_succ, Array.replicate_zero, List.push_toArray, List.append_toArray, List.nil_append, List.cons_append]
    have c1 := hA1'.cell 0 _ rfl
    have c2 := hA2'.cell 0 _ rfl
    have HJ1 := Hid.mk hPB
    have hBW := hPB.below
    have hrz := (HR.out.below hBW).mono hBW.size
    have hCu := implUnframe_any a n n zs p0 W1 HX.out (by omega) (Nat.le_refl _) HB.out hrz (HT.out.below hBW HT.out.size)
    rw [HU.out] at hCu
    try simp only at hCu
    obtain ⟨body, hbody⟩ : ∃ x, x = blockB ByteArray.empty l := ⟨_, rfl⟩
    rw [← hbody] at hCu HUL
    have HBO := Hid.mk hbody
    have HUO : Hid (BytesOk body) := by unfold Hid; rw [hbody]; exact blockB_ok _ _
    clear hA1' hA2' hPB hbody HU hrz
    gi_wp2_with fail
    refine ⟨trivial, ?_⟩
    refine (callsIn_wide.2 hCu).mono ?_
    rintro e W2 ⟨vb, rfl, hob, hx2⟩
    try simp only at hob
    have HJ2 := Hid.mk (HJ1.out.under hx2)
    have hl2 : W2.heap[w5.heap.size + 1]? = some (.loop r) := (hx2.block _ (by omega)).trans hl
    clear HJ1 hCu hl c1 c2
    obtain ⟨bl, hbl⟩ : ∃ bl, bl = body.length := ⟨_, rfl⟩
    have HBL : Hid (body.length = bl) := hbl.symm
    have hbm : bl ≤ 1048576 := by have h := HUL.out; omega
    obtain ⟨ab, cb, rfl, hcb, hrb2⟩ := own_rd rfl hob
    have hcb2 : bl ≤ cb := by omega
    have hcm3 : cb ≤ 9223372036854775807 := by
      rcases hob.2 with ⟨h, _⟩ | ⟨g, cap2, cur, e1, _, _, _, hm2, _⟩
      · simp only [Value.slice.injEq] at h; omega
      · simp only [Value.slice.injEq] at e1
        unfold maxLen at hm2
        omega
    have hlo2 : ∀ b2 o2, ab = some ⟨b2, o2, none⟩ → 0 < body.length → W1.heap.size ≤ b2 := fun b2 o2 he _ => by
      rcases hob.2 with ⟨h, _⟩ | ⟨g, cap2, cur, e1, hb9, _⟩
      · simp only [Value.slice.injEq] at h; rw [he] at h; cases h.1
      · simp only [Value.slice.injEq] at e1
        rw [he] at e1
        simp only [Option.some.injEq, Addr.mk.injEq] at e1
        omega
    rw [← hbl] at hob ⊢
    clear HUL hcb hob
    obtain ⟨W3, hW3⟩ : ∃ x, x = W2.alloc (.cells #[.slice ab bl cb, .bool false] 107) := ⟨_, rfl⟩
    have hx3 : Below W2.heap.size W2 W3 := by rw [hW3]; exact (Below.refl _ _).alloc (Nat.le_refl _) _
    have hbw3 : Bw W3 W2.heap.size 107 [.slice ab bl cb, .bool false] := by rw [hW3]; exact Bw.new' _ _ _ rfl
    have hrd3 : RdrAt W1.heap.size W3 W2.heap.size body false := ⟨ab, cb, by rw [HBL.out]; exact hbw3, by rw [HBL.out]; exact hcb2, hcm3, hrb2.below hx3, hlo2⟩
    have hlt2 : w5.heap.size + 1 < W2.heap.size := (Array.getElem?_eq_some_iff.1 hl2).1
    have hl3 : W3.heap[w5.heap.size + 1]? = some (.loop r) := (hx3.block _ hlt2).trans hl2
    have hJ3 := HJ2.out.under hx3
    have hW12 : W1.heap.size ≤ W2.heap.size := hx2.size
    have hW23 : W2.heap.size < W3.heap.size := hbw3.lt
    have HW3' := Hid.mk hW3
    obtain ⟨G, hG⟩ : ∃ G, G = W2.heap.size := ⟨_, rfl⟩
    have hGe : 0 < G := by have := hJ3.below.size; omega
    rw [← hG] at hrd3 hlt2 hW12 hW23
    have HGG := Hid.mk hG
    clear hW3 hbw3 hrb2 hlo2 hx3 HJ2 hl2 hbl hx2 hG
    gi_wp2_with fail
    rw [← HW3'.out, ← HGG.out]
    gi_loopw [8] (fun sv W => ∃ (rest done : List MPair) (ahead : ByteArray) (zz : List Int), sv = .string ahead ∧ RdrAt W1.heap.size W G zz false ∧ Hid (zz = blockB ahead rest) ∧ Hid (l = done ++ rest) ∧ BytesOk zz ∧ ahead.size + zz.length ≤ 1048576 ∧ PB w FB EB w5.heap.size key q W (firstK done key) ∧ W.heap[w5.heap.size + 1]? = some (.loop r) ∧ G < W.heap.size) (fun _ W => lenV ((W.cell? ⟨G, 0, none⟩).getD undef))
    case atStart => exact ⟨l, [], ByteArray.empty, body, rfl, hrd3, HBO, Hid.mk rfl, HUO.out, by rw [HBL.out]; simpa using hbm, hJ3, hl3, hW23⟩
    case round =>
      clear hrd3 hJ3 hl3 HW3' HGG HBO HUO HBL
      obtain ⟨rest, done, ahead, zz, rfl, hrd, HZZ, HDN, hzo, hsz, hJ, hlr, hGW⟩ := hrel
      obtain ⟨ar, cr, hbwr, hrc, hrm, hrr, _⟩ := id hrd
      have k0 := hbwr.cell 0 _ rfl
      have HJr := Hid.mk hJ
      have hEr := HE.out.below hJ.below
      have HLE : Hid (lenV ((wr.cell? ⟨G, 0, none⟩).getD undef) = zz.length) := by show _ = _; rw [k0]; rfl
      clear hbwr hrc hrm hrr hJ
      cases rest with
      | nil =>
        have hz : zz.length = 0 := by rw [HZZ.out]; rfl
        have hzi : ¬ (0 : Int) < (zz.length : Int) := by omega
        have hJx := HJr.out.put (.loop { r with state := .exhausted })
        obtain ⟨Wx, hWx⟩ : ∃ x, x = wr.putObj (w5.heap.size + 1) (.loop { r with state := .exhausted }) := ⟨_, rfl⟩
        rw [← hWx] at hJx
        have HFL : Hid (firstK done key = firstK l key) := by unfold Hid; rw [HDN.out, List.append_nil]
        rw [HFL.out] at hJx
        have HWX := Hid.mk hWx
        have HDR := Hid.mk HJr.out.2.2.2.2.2.1
        have HJx := Hid.mk hJx
        clear hJx hrd hWx HFL HZZ HDN hz hEr
        gi_wp2_with fail
        refine bodyPost_end (results_none rfl _ _ _) rfl ?_
        refine ⟨⟨_, rfl⟩, r, hlr, by rw [hst]; simp, HDR.out, ?_⟩
        rw [← HWX.out, hpe]
        simp only [goesOn, Exit.inBlock, Exit.then]
        obtain ⟨o, ho⟩ : ∃ o, o = firstK l key := ⟨_, rfl⟩
        have HO := Hid.mk ho
        rw [← ho] at HJx
        obtain ⟨s0, v0, b0, hfc⟩ : ∃ s v b, fndC o = [.string s, .string v, .bool b] := by cases o with
          | none => exact ⟨_, _, _, rfl⟩
          | some x => exact ⟨_, _, _, rfl⟩
        obtain ⟨ev, hev⟩ : ∃ ev, ev = fndE q o := ⟨_, rfl⟩
        have HPO : Hid (∀ e w', e = .returned (.tuple #[.agg #[.string s0, .string v0, .bool b0], ev]) → Below w.heap.size w w' → PiPost w q (firstK l key) e w') := fun e w' h1 h2 => ⟨by rw [h1, ← HO.out, hfc, hev], h2⟩
        obtain ⟨x1, x2, x3, x4, x5, x6, x7, x8⟩ := HJx.out
        rw [hfc] at x4
        rw [← hev] at x5
        have ud : Below Wx.heap.size Wx Wx.drew := Below.drew (Below.refl _ _)
        have HQ0 := Hid.mk (x2.under ud)
        have HQ1 := Hid.mk (x3.under ud)
        have HDW : Hid (Wx.drew.heap[w5.heap.size]? = some (.deferred (some []))) := (ud.block _ (by omega)).trans x6
        have HBB := Hid.mk (x8.trans (ud.mono x8.size))
        have z0 : ∀ W, Turn [w.heap.size + 1, w.heap.size + 2] Wx W → W.cell? ⟨FB, 0, none⟩ = some (.string s0) := fun W hW => (x4.turn hW (by simp; omega)).cell 0 _ rfl
        have z1 : ∀ W, Turn [w.heap.size + 1, w.heap.size + 2] Wx W → W.cell? ⟨FB, 1, none⟩ = some (.string v0) := fun W hW => (x4.turn hW (by simp; omega)).cell 1 _ rfl
        have z2 : ∀ W, Turn [w.heap.size + 1, w.heap.size + 2] Wx W → W.cell? ⟨FB, 2, none⟩ = some (.bool b0) := fun W hW => (x4.turn hW (by simp; omega)).cell 2 _ rfl
        have z3 : ∀ W, Turn [w.heap.size + 1, w.heap.size + 2] Wx W → W.cell? ⟨EB, 0, none⟩ = some ev := fun W hW => (x5.turn hW (by simp; omega)).cell 0 _ rfl
        have hDD2 : w.heap.size + 2 < w5.heap.size := by omega
        have hwx : w5.heap.size + 2 ≤ Wx.heap.size := x7.2.2.2.2.2
        have hev2 : ev = .nilIface ∨ ev = .iface 141 (.pointer (some q)) := by rw [hev]; cases o with
          | none => exact .inr rfl
          | some x => exact .inl rfl
        clear x1 x2 x3 x4 x5 x6 x8 ud HJx HJr HDR hev hfc ho HO HWX hlr k0 HLE hst hpe hps htm has hbo
        rcases hev2 with rfl | rfl
        · go_wp2_with fail
          refine wp_region_held_drew (S := fun W => Turn [w.heap.size + 1, w.heap.size + 2] Wx W) (by kernel_rfl) ((Turn.refl _ _).drew) (fun hHeld => ?_)
          obtain ⟨wS, hwS⟩ : ∃ wS, wS = Wx.drew := ⟨_, rfl⟩
          rw [← hwS] at hHeld HQ0 HQ1 HDW HBB ⊢
          clear hwS
          refine tk 0 q6e0_43_9_0 (some 32) (v := ?v3) rfl rfl (by kernel_rfl) hHeld (by rfl) (fun _ _ _ x => x) (fun w h => ?y3) ?_; (case y3 => (try dsimp only at h); go_simp; try (with_reducible rfl)); try simp only [Act.put, sa, s0, s1]
          refine tk 1 q6e0_43_9_1 (some 33) (v := ?v4) rfl rfl (by kernel_rfl) hHeld (by rfl) (fun _ _ _ x => x) (fun w h => ?y4) ?_; (case y4 => (try dsimp only at h); go_simp; try (with_reducible rfl)); try simp only [Act.put, sa, s0, s1]
          refine wpAnyH_ready (rs := [2]) (by kernel_rfl) (by simp) ?_
          refine (AllReadyH.cons (o := q6e0_43_9_2) rfl (fun K hK => ?_) AllReadyH.nil)
          · skip
            have h6 := HQ0.out
            have s0' := h6.cell 0 _ rfl
            have s1' := h6.cell 1 _ rfl
            have s2' := h6.cell 2 _ rfl
            have t0 := h6.free 0
            have t1 := h6.free 1
            have t2 := h6.free 2
            have s4 := h6.lt
            go_simp
            obtain ⟨wE2, hq2⟩ : ∃ x, x = ((wS.setCell ⟨w.heap.size + 1, 0, none⟩ (.string s0)).setCell ⟨w.heap.size + 1, 1, none⟩ (.string v0)).setCell ⟨w.heap.size + 1, 2, none⟩ (.bool b0) := ⟨_, rfl⟩
            have hT2 : Turn [w.heap.size + 1] wS wE2 := by rw [hq2]; exact turn3 _ _ _ _ _
            have HQ0 : Hid (Bw wE2 (w.heap.size + 1) 32 [.string s0, .string v0, .bool b0]) := by unfold Hid; rw [hq2]; exact ((h6.put 0 _).put 1 _).put 2 _
            have HQ1 := Hid.mk (HQ1.out.turn hT2 (by simp))
            have HDW := Hid.mk ((hT2.block _ (Array.getElem?_eq_some_iff.1 HDW.out).1 (by simp; omega)).trans HDW.out)
            have HBB := Hid.mk (HBB.out.trans (hT2.below (fun k hk => by simp at hk; omega) HBB.out.size))
            rw [← hq2]
            clear hq2 s0' s1' s2' t0 t1 t2 s4 h6
            refine hK.out _ _ (hHeld.trans (hT2.mono (fun k hk => by simp at hk; simp [hk]))) (fun hHeld => ?_)
            clear hK K
            try simp only [Act.put, sa, s0, s1]
            refine wpAnyH_ready (rs := [3]) (by kernel_rfl) (by simp) ?_
            refine (AllReadyH.cons (o := q6e0_43_9_3) rfl (fun K hK => ?_) AllReadyH.nil)
            · skip
              have h7 : Bw wE2 (w.heap.size + 1 + 1) 55 [.nilIface] := HQ1.out
              have s0' := h7.cell 0 _ rfl
              have t0 := h7.free 0
              have s4 := h7.lt
              go_simp
              obtain ⟨wE3, hq3⟩ : ∃ x, x = wE2.setCell ⟨w.heap.size + 1 + 1, 0, none⟩ .nilIface := ⟨_, rfl⟩
              have hT3 : Turn [w.heap.size + 2] wE2 wE3 := by rw [hq3]; exact (Turn.refl _ _).setCell (by simp) _
              have HQ1 : Hid (Bw wE3 (w.heap.size + 2) 55 [.nilIface]) := by unfold Hid; rw [hq3]; exact h7.put 0 _
              have HQ0 := Hid.mk (HQ0.out.turn hT3 (by simp))
              have HDW := Hid.mk ((hT3.block _ (Array.getElem?_eq_some_iff.1 HDW.out).1 (by simp; omega)).trans HDW.out)
              have HBB := Hid.mk (HBB.out.trans (hT3.below (fun k hk => by simp at hk; omega) HBB.out.size))
              rw [← hq3]
              clear hq3 s0' t0 s4 h7
              refine hK.out _ _ (hHeld.trans (hT3.mono (fun k hk => by simp at hk; simp [hk]))) (fun hHeld => ?_)
              clear hK K
              try simp only [Act.put, sa, s0, s1]
              refine wpAnyH_done (by kernel_rfl) ?_ _
              go_wp2_with fail
              refine leaves_all [w5.heap.size] _ (by simp) (fun r hr => by simp at hr; rw [hr]; exact HDW.out) (fun W8 ht8 => ?_)
              have q0b := HQ0.out.turn ht8 (by simp; omega)
              have q1b := HQ1.out.turn ht8 (by simp; omega)
              have q0 := q0b.cell 0 _ rfl
              have q1 := q0b.cell 1 _ rfl
              have q2 := q0b.cell 2 _ rfl
              have q3 : W8.cell? ⟨w.heap.size + 1 + 1, 0, none⟩ = some .nilIface := q1b.cell 0 _ rfl
              exact ⟨.tuple #[.agg #[.string s0, .string v0, .bool b0], .nilIface], by simp [results, Tryd.results43, go_sem, *], HPO.out _ _ rfl (HBB.out.trans (ht8.below (fun k hk => by simp at hk; omega) HBB.out.size))⟩
        · go_wp2_with fail
          refine wp_region_held_drew (S := fun W => Turn [w.heap.size + 1, w.heap.size + 2] Wx W) (by kernel_rfl) ((Turn.refl _ _).drew) (fun hHeld => ?_)
          obtain ⟨wS, hwS⟩ : ∃ wS, wS = Wx.drew := ⟨_, rfl⟩
          rw [← hwS] at hHeld HQ0 HQ1 HDW HBB ⊢
          clear hwS
          refine tk 0 q6e0_43_9_0 (some 32) (v := ?v5) rfl rfl (by kernel_rfl) hHeld (by rfl) (fun _ _ _ x => x) (fun w h => ?y5) ?_; (case y5 => (try dsimp only at h); go_simp; try (with_reducible rfl)); try simp only [Act.put, sa, s0, s1]
          refine tk 1 q6e0_43_9_1 (some 33) (v := ?v6) rfl rfl (by kernel_rfl) hHeld (by rfl) (fun _ _ _ x => x) (fun w h => ?y6) ?_; (case y6 => (try dsimp only at h); go_simp; try (with_reducible rfl)); try simp only [Act.put, sa, s0, s1]
          refine wpAnyH_ready (rs := [2]) (by kernel_rfl) (by simp) ?_
          refine (AllReadyH.cons (o := q6e0_43_9_2) rfl (fun K hK => ?_) AllReadyH.nil)
          · skip
            have h6 := HQ0.out
            have s0' := h6.cell 0 _ rfl
            have s1' := h6.cell 1 _ rfl
            have s2' := h6.cell 2 _ rfl
            have t0 := h6.free 0
            have t1 := h6.free 1
            have t2 := h6.free 2
            have s4 := h6.lt
            go_simp
            obtain ⟨wE2, hq2⟩ : ∃ x, x = ((wS.setCell ⟨w.heap.size + 1, 0, none⟩ (.string s0)).setCell ⟨w.heap.size + 1, 1, none⟩ (.string v0)).setCell ⟨w.heap.size + 1, 2, none⟩ (.bool b0) := ⟨_, rfl⟩
            have hT2 : Turn [w.heap.size + 1] wS wE2 := by rw [hq2]; exact turn3 _ _ _ _ _
            have HQ0 : Hid (Bw wE2 (w.heap.size + 1) 32 [.string s0, .string v0, .bool b0]) := by unfold Hid; rw [hq2]; exact ((h6.put 0 _).put 1 _).put 2 _
            have HQ1 := Hid.mk (HQ1.out.turn hT2 (by simp))
            have HDW := Hid.mk ((hT2.block _ (Array.getElem?_eq_some_iff.1 HDW.out).1 (by simp; omega)).trans HDW.out)
            have HBB := Hid.mk (HBB.out.trans (hT2.below (fun k hk => by simp at hk; omega) HBB.out.size))
            rw [← hq2]
            clear hq2 s0' s1' s2' t0 t1 t2 s4 h6
            refine hK.out _ _ (hHeld.trans (hT2.mono (fun k hk => by simp at hk; simp [hk]))) (fun hHeld => ?_)
            clear hK K
            try simp only [Act.put, sa, s0, s1]
            refine wpAnyH_ready (rs := [3]) (by kernel_rfl) (by simp) ?_
            refine (AllReadyH.cons (o := q6e0_43_9_3) rfl (fun K hK => ?_) AllReadyH.nil)
            · skip
              have h7 : Bw wE2 (w.heap.size + 1 + 1) 55 [.nilIface] := HQ1.out
              have s0' := h7.cell 0 _ rfl
              have t0 := h7.free 0
              have s4 := h7.lt
              go_simp
              obtain ⟨wE3, hq3⟩ : ∃ x, x = wE2.setCell ⟨w.heap.size + 1 + 1, 0, none⟩ (.iface 141 (.pointer (some q))) := ⟨_, rfl⟩
              have hT3 : Turn [w.heap.size + 2] wE2 wE3 := by rw [hq3]; exact (Turn.refl _ _).setCell (by simp) _
              have HQ1 : Hid (Bw wE3 (w.heap.size + 2) 55 [(.iface 141 (.pointer (some q)))]) := by unfold Hid; rw [hq3]; exact h7.put 0 _
              have HQ0 := Hid.mk (HQ0.out.turn hT3 (by simp))
              have HDW := Hid.mk ((hT3.block _ (Array.getElem?_eq_some_iff.1 HDW.out).1 (by simp; omega)).trans HDW.out)
              have HBB := Hid.mk (HBB.out.trans (hT3.below (fun k hk => by simp at hk; omega) HBB.out.size))
              rw [← hq3]
              clear hq3 s0' t0 s4 h7
              refine hK.out _ _ (hHeld.trans (hT3.mono (fun k hk => by simp at hk; simp [hk]))) (fun hHeld => ?_)
              clear hK K
              try simp only [Act.put, sa, s0, s1]
              refine wpAnyH_done (by kernel_rfl) ?_ _
              go_wp2_with fail
              refine leaves_all [w5.heap.size] _ (by simp) (fun r hr => by simp at hr; rw [hr]; exact HDW.out) (fun W8 ht8 => ?_)
              have q0b := HQ0.out.turn ht8 (by simp; omega)
              have q1b := HQ1.out.turn ht8 (by simp; omega)
              have q0 := q0b.cell 0 _ rfl
              have q1 := q0b.cell 1 _ rfl
              have q2 := q0b.cell 2 _ rfl
              have q3 : W8.cell? ⟨w.heap.size + 1 + 1, 0, none⟩ = some (.iface 141 (.pointer (some q))) := q1b.cell 0 _ rfl
              exact ⟨.tuple #[.agg #[.string s0, .string v0, .bool b0], (.iface 141 (.pointer (some q)))], by simp [results, Tryd.results43, go_sem, *], HPO.out _ _ rfl (HBB.out.trans (ht8.below (fun k hk => by simp at hk; omega) HBB.out.size))⟩
      | cons p rest =>
        have hzp : zz = pairB ahead p ++ blockB p.fKey rest := HZZ.out
        have hpm := HS.out p (by rw [HDN.out]; simp)
        have hprE : pairR zz ahead = some (p, blockB p.fKey rest) := by rw [hzp]; exact pairR_pair _ _ _ hpm.1 hpm.2
        have hz : zz.length ≠ 0 := by have h := (pairR_bd hprE).2.2; omega
        have hzi : (0 : Int) < (zz.length : Int) := by omega
        have hCp := pair_any W1.heap.size G zz ahead pe wr hrd hzo (by omega) (by omega) hEr hGe
        have HPR := Hid.mk hprE
        clear hzp hprE
        gi_wp2_with fail
        refine ⟨trivial, ?_⟩
        refine (callsIn_wide.2 hCp).mono ?_
        rintro e W5 ⟨ht5, ⟨p', rr, hpr, rfl, hrd5⟩ | ⟨hpn, _⟩⟩
        rotate_left
        · exact absurd (HPR.out.symm.trans hpn) (by simp)
        have hpq := HPR.out.symm.trans hpr
        simp only [Option.some.injEq, Prod.mk.injEq] at hpq
        obtain ⟨rfl, hrr⟩ := hpq
        have HRR : Hid (rr = blockB p.fKey rest) := hrr.symm
        have HDN2 : Hid (l = (done ++ [p]) ++ rest) := by unfold Hid; rw [HDN.out]; simp
        have hbd := pairR_bd hpr
        have hok := pairR_ok hzo hpr
        have hJ5 := HJr.out.turn ht5 (fun k hk => by simp only [List.mem_singleton] at hk; omega)
        have hl5 : W5.heap[w5.heap.size + 1]? = some (.loop r) := (ht5.block _ (Array.getElem?_eq_some_iff.1 hlr).1 (by simp; omega)).trans hlr
        have hw5l : w5.heap.size + 1 < W5.heap.size := (Array.getElem?_eq_some_iff.1 hl5).1
        have hG5 : G < W5.heap.size := Nat.lt_of_lt_of_le hGW ht5.size
        obtain ⟨W6, hW6⟩ : ∃ x, x = W5.alloc (.cells #[.string p.fKey, .string p.fVal, .bool p.fGone] 32) := ⟨_, rfl⟩
        have hx6 : Below W5.heap.size W5 W6 := by rw [hW6]; exact (Below.refl _ _).alloc (Nat.le_refl _) _
        have hl6 : W6.heap[w5.heap.size + 1]? = some (.loop r) := (hx6.block _ hw5l).trans hl5
        have hbp6 : Bw W6 W5.heap.size 32 [.string p.fKey, .string p.fVal, .bool p.fGone] := by rw [hW6]; exact Bw.new' _ _ _ rfl
        have hJ6 := hJ5.under hx6
        have hrd6 := hrd5.under hx6
        have hy := run_yield (P := Tryd.prog) (args := #[.agg #[.string p.fKey, .string p.fVal, .bool p.fGone], .nilIface]) (by rw [hW6] at hl6; exact hl6) (by rw [hps]; rfl)
        have HW6 := Hid.mk hW6
        clear hW6 hpr hJ5 hrd5 hl5 HJr hlr hrd k0 HPR hrr HZZ HDN
        gi_wp2_with fail
        rw [← HW6.out]
        refine round_runs hst ?_
        gi_wp2_with fail
        obtain ⟨W7, hW7⟩ : ∃ x, x = W6.alloc (.cells #[.string p.fKey, .string p.fVal, .bool p.fGone] 32) := ⟨_, rfl⟩
        rw [← hW7]
        have hx7 : Below W6.heap.size W6 W7 := by rw [hW7]; exact (Below.refl _ _).alloc (Nat.le_refl _) _
        have hw6l : w5.heap.size + 1 < W6.heap.size := (Array.getElem?_eq_some_iff.1 hl6).1
        have hl7 : W7.heap[w5.heap.size + 1]? = some (.loop r) := (hx7.block _ hw6l).trans hl6
        have hbq7 : Bw W7 W6.heap.size 32 [.string p.fKey, .string p.fVal, .bool p.fGone] := by rw [hW7]; exact Bw.new' _ _ _ rfl
        refine ⟨hl7, ?_⟩
        obtain ⟨W8, hW8⟩ : ∃ x, x = W7.putObj (w5.heap.size + 1) (.loop { r with state := .busy }) := ⟨_, rfl⟩
        rw [← hW8]
        have t78 : Turn [w5.heap.size + 1] W7 W8 := by rw [hW8]; exact Turn.ofGrown (grownBy_putObj' W7 _ _) (fun k hk => by simp only [Option.some.injEq] at hk; simp [hk])
        have hJ8 := (hJ6.under hx7).turn t78 (fun k hk => by simp only [List.mem_singleton] at hk; omega)
        have hl8 : W8.heap[w5.heap.size + 1]? = some (.loop { r with state := .busy }) := by rw [hW8]; exact World.putObj_heap_same (Array.getElem?_eq_some_iff.1 hl7).1
        have hrd8 := (hrd6.under hx7).miss t78 (fun k hk => by simp only [List.mem_singleton] at hk; subst hk; omega)
        have hs56 : W5.heap.size < W6.heap.size := hbp6.lt
        have hbp8 := (hbp6.under hx7).turn t78 (by simp; omega)
        have hbq8 := hbq7.turn t78 (by simp; omega)
        have z0 := hbq8.cell 0 _ rfl
        have z1 := hbq8.cell 1 _ rfl
        have z2 := hbq8.cell 2 _ rfl
        have zk := hJ8.1.cell 0 _ rfl
        have HJ8 := Hid.mk hJ8
        have HL8 := Hid.mk hl8
        have HR8 := Hid.mk hrd8
        have HP8 := Hid.mk hbp8
        clear hW7 hW8 hy hl6 hl7 hJ6 hrd6 hbp6 hbq7 hx6 hx7 HW6 hJ8 hl8 hrd8 hbp8
        by_cases hke : p.fKey = key
        · have hk := k_same hke
          cases hfo : firstK done key with
          | none =>
            rw [hfo] at HJ8
            have ze := HJ8.out.2.2.2.2.1.cell 0 _ rfl
            have fe := HJ8.out.2.2.2.2.1.free 0
            have hel := HJ8.out.2.2.2.2.1.lt
            have zf0 := HJ8.out.2.2.2.1.cell 0 _ rfl
            have zf1 := HJ8.out.2.2.2.1.cell 1 _ rfl
            have zf2 := HJ8.out.2.2.2.1.cell 2 _ rfl
            have ff0 := HJ8.out.2.2.2.1.free 0
            have ff1 := HJ8.out.2.2.2.1.free 1
            have ff2 := HJ8.out.2.2.2.1.free 2
            have hfl := HJ8.out.2.2.2.1.lt
            unfold fndE errV at ze
            obtain ⟨hJ9, hT9⟩ := HJ8.out.find p
            obtain ⟨W9, hW9⟩ : ∃ x, x = (((W8.setCell ⟨FB, 0, none⟩ (.string p.fKey)).setCell ⟨FB, 1, none⟩ (.string p.fVal)).setCell ⟨FB, 2, none⟩ (.bool p.fGone)).setCell ⟨EB, 0, none⟩ .nilIface := ⟨_, rfl⟩
            rw [← hW9] at hJ9 hT9
            have hx := HJ8.out.2.2.2.2.2.2.1
            have HJT : Hid (PB w FB EB w5.heap.size key q W9 (firstK (done ++ [p]) key)) := by unfold Hid; rw [firstK_new hke hfo]; exact hJ9
            have HLT := Hid.mk ((hT9.block _ (Array.getElem?_eq_some_iff.1 HL8.out).1 (by simp; omega)).trans HL8.out)
            have HRT := Hid.mk (HR8.out.miss hT9 (fun k hk => by simp at hk; omega))
            have HBT := Hid.mk (HP8.out.turn hT9 (by simp; omega))
            have HW9 := Hid.mk hW9
            clear HJ8 HL8 HR8 HP8 hJ9 hT9 hW9 hfo hx hke
            gi_wp2_with fail
            rw [← HW9.out]
            refine ⟨HLT.out, ?_⟩
            have her : ({ r with state := .ready, pending := none } : Loop) = r := by cases r; simp only at hst hpe; subst hst; subst hpe; rfl
            rw [her]
            obtain ⟨W12, hW12⟩ : ∃ x, x = W9.putObj (w5.heap.size + 1) (.loop r) := ⟨_, rfl⟩
            have t12 : Turn [w5.heap.size + 1] W9 W12 := by rw [hW12]; exact Turn.ofGrown (grownBy_putObj' W9 _ _) (fun k hk => by simp only [Option.some.injEq] at hk; simp [hk])
            have hJ12 := HJT.out.turn t12 (fun k hk => by simp only [List.mem_singleton] at hk; omega)
            have hl12 : W12.heap[w5.heap.size + 1]? = some (.loop r) := by rw [hW12]; exact World.putObj_heap_same (Array.getElem?_eq_some_iff.1 HLT.out).1
            have hrd12 := HRT.out.miss t12 (fun k hk => by simp only [List.mem_singleton] at hk; subst hk; omega)
            have hbp12 := HBT.out.turn t12 (by simp; omega)
            have c9 := hbp12.cell 0 _ rfl
            have hG12 : G < W12.heap.size := hrd12.lt
            have HME : Hid (lenV ((W12.cell? ⟨G, 0, none⟩).getD undef) = rr.length) := by
              obtain ⟨ar2, cr2, hb2, _⟩ := hrd12
              show _ = _
              rw [hb2.cell 0 _ rfl]
              rfl
            have HJ12 := Hid.mk hJ12
            have HRD12 := Hid.mk hrd12
            rw [← hW12]
            clear hW12 her hJ12 hrd12 hbp12 t12
            gi_wp2_with fail
            go_roundw
            case rel => exact ⟨rest, done ++ [p], p.fKey, rr, rfl, HRD12.out, HRR, HDN2, hok, by omega, HJ12.out, hl12, hG12⟩
            case measure => rw [HME.out, HLE.out]; omega
          | some pf =>
            rw [hfo] at HJ8
            have ze := HJ8.out.2.2.2.2.1.cell 0 _ rfl
            unfold fndE at ze
            have HJT : Hid (PB w FB EB w5.heap.size key q W8 (firstK (done ++ [p]) key)) := by unfold Hid; rw [firstK_on (.inr (by rw [hfo]; rfl)), hfo]; exact HJ8.out
            have HLT := HL8
            have HRT := HR8
            have HBT := HP8
            clear HJ8 HL8 HR8 HP8 hfo hke
            gi_wp2_with fail
            refine ⟨HLT.out, ?_⟩
            have her : ({ r with state := .ready, pending := none } : Loop) = r := by cases r; simp only at hst hpe; subst hst; subst hpe; rfl
            rw [her]
            obtain ⟨W12, hW12⟩ : ∃ x, x = W8.putObj (w5.heap.size + 1) (.loop r) := ⟨_, rfl⟩
            have t12 : Turn [w5.heap.size + 1] W8 W12 := by rw [hW12]; exact Turn.ofGrown (grownBy_putObj' W8 _ _) (fun k hk => by simp only [Option.some.injEq] at hk; simp [hk])
            have hJ12 := HJT.out.turn t12 (fun k hk => by simp only [List.mem_singleton] at hk; omega)
            have hl12 : W12.heap[w5.heap.size + 1]? = some (.loop r) := by rw [hW12]; exact World.putObj_heap_same (Array.getElem?_eq_some_iff.1 HLT.out).1
            have hrd12 := HRT.out.miss t12 (fun k hk => by simp only [List.mem_singleton] at hk; subst hk; omega)
            have hbp12 := HBT.out.turn t12 (by simp; omega)
            have c9 := hbp12.cell 0 _ rfl
            have hG12 : G < W12.heap.size := hrd12.lt
            have HME : Hid (lenV ((W12.cell? ⟨G, 0, none⟩).getD undef) = rr.length) := by
              obtain ⟨ar2, cr2, hb2, _⟩ := hrd12
              show _ = _
              rw [hb2.cell 0 _ rfl]
              rfl
            have HJ12 := Hid.mk hJ12
            have HRD12 := Hid.mk hrd12
            rw [← hW12]
            clear hW12 her hJ12 hrd12 hbp12 t12
            gi_wp2_with fail
            go_roundw
            case rel => exact ⟨rest, done ++ [p], p.fKey, rr, rfl, HRD12.out, HRR, HDN2, hok, by omega, HJ12.out, hl12, hG12⟩
            case measure => rw [HME.out, HLE.out]; omega
        · have hk := k_ne hke
          have HJT : Hid (PB w FB EB w5.heap.size key q W8 (firstK (done ++ [p]) key)) := by unfold Hid; rw [firstK_on (.inl hke)]; exact HJ8.out
          have HLT := HL8
          have HRT := HR8
          have HBT := HP8
          clear HJ8 HL8 HR8 HP8
          gi_wp2_with fail
          refine ⟨HLT.out, ?_⟩
          have her : ({ r with state := .ready, pending := none } : Loop) = r := by cases r; simp only at hst hpe; subst hst; subst hpe; rfl
          rw [her]
          obtain ⟨W12, hW12⟩ : ∃ x, x = W8.putObj (w5.heap.size + 1) (.loop r) := ⟨_, rfl⟩
          have t12 : Turn [w5.heap.size + 1] W8 W12 := by rw [hW12]; exact Turn.ofGrown (grownBy_putObj' W8 _ _) (fun k hk => by simp only [Option.some.injEq] at hk; simp [hk])
          have hJ12 := HJT.out.turn t12 (fun k hk => by simp only [List.mem_singleton] at hk; omega)
          have hl12 : W12.heap[w5.heap.size + 1]? = some (.loop r) := by rw [hW12]; exact World.putObj_heap_same (Array.getElem?_eq_some_iff.1 HLT.out).1
          have hrd12 := HRT.out.miss t12 (fun k hk => by simp only [List.mem_singleton] at hk; subst hk; omega)
          have hbp12 := HBT.out.turn t12 (by simp; omega)
          have c9 := hbp12.cell 0 _ rfl
          have hG12 : G < W12.heap.size := hrd12.lt
          have HME : Hid (lenV ((W12.cell? ⟨G, 0, none⟩).getD undef) = rr.length) := by
            obtain ⟨ar2, cr2, hb2, _⟩ := hrd12
            show _ = _
            rw [hb2.cell 0 _ rfl]
            rfl
          have HJ12 := Hid.mk hJ12
          have HRD12 := Hid.mk hrd12
          rw [← hW12]
          clear hW12 her hJ12 hrd12 hbp12 t12
          gi_wp2_with fail
          go_roundw
          case rel => exact ⟨rest, done ++ [p], p.fKey, rr, rfl, HRD12.out, HRR, HDN2, hok, by omega, HJ12.out, hl12, hG12⟩
          case measure => rw [HME.out, HLE.out]; omega

end Go.Proofs.YtmedljankefhbaaDoor

namespace Go.Proofs.YtmedljankefhbaaDoor
open Go.RowKit

theorem mayP_other {f : List Int} {s : ByteArray} (h : ¬ f.length = 8) : mayP f s = true := by unfold mayP; rw [decide_eq_false h]; rfl
theorem mayP_eight {f : List Int} {s : ByteArray} (h : f.length = 8) : mayP f s = (hasB f (mk1 s) && hasB f (mk2 s)) := by unfold mayP; rw [decide_eq_true h]; rfl
theorem div_byte {x : Int} (k : Nat) (h0 : 0 ≤ x) (h1 : x ≤ 255) : 0 ≤ x / 2 ^ k ∧ x / 2 ^ k ≤ 255 := by
  refine ⟨Int.ediv_nonneg h0 (Int.le_of_lt (Int.pow_pos (by omega))), ?_⟩
  exact Int.le_trans (Int.ediv_le_self _ h0) h1

set_option maxHeartbeats 400000 in
theorem implHasBit_any (a : Option Addr) (cap : Nat) (zs : List Int) (n : Int) (w : World) (B : Nat) (hx : zs.length = 8) (hb : BytesOk zs) (hr : Rd .u8 B w a zs) (h0 : 0 ≤ n) (h1 : n < 64) :
    Calls Tryd.prog 28 #[.slice a 8 cap, .int .i64 n] w fun e w' => e = .returned (.bool (hasB zs n)) ∧ w' = w := by
  obtain ⟨b1, o1, rfl, _, hc⟩ := hr (n / 8).toNat (by omega)
  have hxb := getD_byte hb (n / 8).toNat
  have HV : Hid (hasB zs n = decide (zs.getD (n / 8).toNat 0 / 2 ^ (n % 8).toNat % 2 = 1)) := rfl
  have e1 : n.tdiv 8 = n / 8 := Int.tdiv_eq_ediv_of_nonneg h0
  have e2 : n.tmod 8 = n % 8 := Int.tmod_eq_emod_of_nonneg h0
  generalize zs.getD (n / 8).toNat 0 = x at *
  have hd := div_byte (n % 8).toNat hxb.1 hxb.2
  go_enter Tryd.func28, Tryd.ntmps28
  go_wp2_with fail
  go_ret
  refine ⟨?_, rfl⟩
  rw [HV.out]
  rfl

set_option maxHeartbeats 800000 in
theorem implMayHave_any (a : Option Addr) (n cap : Nat) (zs : List Int) (s : ByteArray) (w : World) (hx : zs.length = n) (hn : n ≤ 9223372036854775807) (hb : BytesOk zs) (hr : Rd .u8 w.heap.size w a zs) (hs : s.size ≤ 140737488351232) (ht : TabAt w) :
    Calls Tryd.prog 12 #[.slice a n cap, .string s] w fun e w' => e = .returned (.bool (mayP zs s)) ∧ Below w.heap.size w w' := by
  by_cases h8 : n = 8
  · subst h8
    have HV := Hid.mk (mayP_eight (s := s) hx)
    have HX := Hid.mk hx
    clear hx
    go_enter Tryd.func12, Tryd.ntmps12
    go_wp2_with fail
    refine (implMark_any s w hs ht).mono ?_
    rintro e w1 ⟨rfl, hb1⟩
    have hr1 := hr.below hb1
    have g1 := mk1_bd s
    have g2 := mk2_bd s
    generalize mk1 s = x1 at *
    generalize mk2 s = x2 at *
    go_wp2_with fail
    refine (implHasBit_any a cap zs x1 w1 _ HX.out hb hr1 g1.1 g1.2).mono ?_
    rintro e w2 ⟨rfl, rfl⟩
    generalize hasB zs x1 = c1 at *
    cases c1 with
    | false =>
      go_wp2_with fail
      go_ret
      exact ⟨by rw [HV.out]; rfl, hb1⟩
    | true =>
      go_wp2_with fail
      refine (implHasBit_any a cap zs x2 w2 _ HX.out hb hr1 g2.1 g2.2).mono ?_
      rintro e w3 ⟨rfl, rfl⟩
      generalize hasB zs x2 = c2 at *
      go_wp2_with fail
      go_ret
      exact ⟨by rw [HV.out]; rfl, hb1⟩
  · have HV := Hid.mk (mayP_other (s := s) (f := zs) (by omega))
    clear hx
    go_enter Tryd.func12, Tryd.ntmps12
    go_wp2_with fail
    go_ret
    exact ⟨by rw [HV.out]; rfl, Below.refl _ _⟩

end Go.Proofs.YtmedljankefhbaaDoor
