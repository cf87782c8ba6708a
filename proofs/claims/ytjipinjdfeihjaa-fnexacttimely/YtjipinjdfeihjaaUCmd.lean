/-
  The commands that were asked for, by their dots: the program's map.
-/
import Derived.Test.YtjipinjdfeihjaaUTel
namespace Go.Proofs.Ytjipinjdfeihjaa
open Go.RowKit Go.Maps Go.Shelf
set_option linter.unusedVariables false
set_option linter.unusedSimpArgs false
set_option maxRecDepth 10000

attribute [local go_sem] Oper.semAt_some

/-- What lies there between two rounds. -/
structure CmW (w : World) (hdr : Value) (W : World) (D : List (MDot × MCmd)) : Prop where
  tb : Bw W w.heap.size 109 [.func (.func 57) #[] #[]]
  mb : Bw W (w.heap.size + 2) 76 [.map (some (w.heap.size + 1))]
  sb : Bw W (w.heap.size + 3) 31 [hdr]
  dm : DMap W (w.heap.size + 1) D
  df : W.heap[w.heap.size + 4]? = some (.deferred (some []))
  sz : w.heap.size + 6 ≤ W.heap.size
  bl : Below w.heap.size w W
section
variable {w : World} {hdr : Value} {W W' : World} {D : List (MDot × MCmd)}
theorem CmW.under (h : CmW w hdr W D) (hb : Below W.heap.size W W') : CmW w hdr W' D :=
  ⟨h.tb.under hb, h.mb.under hb, h.sb.under hb, h.dm.under hb, (hb.block _ (by have := h.sz; omega)).trans h.df, Nat.le_trans h.sz hb.size, bthen h.bl hb⟩
theorem CmW.turn (h : CmW w hdr W D) {D' : List (MDot × MCmd)} (ht : Turn [w.heap.size + 1] W W') (hd : DMap W' (w.heap.size + 1) D') : CmW w hdr W' D' :=
  ⟨h.tb.turn ht (by simp), h.mb.turn ht (by simp), h.sb.turn ht (by simp), hd, (ht.block _ (by have := h.sz; omega) (by simp)).trans h.df, Nat.le_trans h.sz ht.size, h.bl.trans (ht.below (fun k hk => by simp at hk; omega) h.bl.size)⟩
theorem CmW.put (h : CmW w hdr W D) (o : Obj) : CmW w hdr (W.putObj (w.heap.size + 5) o) D := by
  have hk : ∀ b, b ≠ w.heap.size + 5 → (W.putObj (w.heap.size + 5) o).heap[b]? = W.heap[b]? := fun b hb => World.putObj_heap_other hb
  have hB : Below w.heap.size W (W.putObj (w.heap.size + 5) o) := (Below.refl _ W).grown (grownBy_putObj' W _ o) (by have := h.sz; omega) (fun k e => by cases e; omega)
  refine ⟨(hk _ (by omega)).trans h.tb, (hk _ (by omega)).trans h.mb, (hk _ (by omega)).trans h.sb, ?_, (hk _ (by omega)).trans h.df, by simpa using h.sz, h.bl.trans hB⟩
  obtain ⟨es, clock, hb, he⟩ := h.dm
  exact ⟨es, clock, (hk _ (by omega)).trans hb, he⟩
end
theorem cell_same {W W' : World} {b k : Nat} (h : W'.heap[b]? = W.heap[b]?) : W'.cell? ⟨b, k, none⟩ = W.cell? ⟨b, k, none⟩ := by simp [World.cell?, h]
theorem make_run (W : World) : (Instr.makeMap 76 none).run Try.prog W = .ok (.map (some W.heap.size)) (W.alloc (.map #[] 0)) := by
  simp [Instr.makeMap, run_underlying Try.underlying76, go_sem]
theorem ask_drop {l : List MAsked} {i : Nat} (hi : i < l.length) (d : MDot) : askP (l.drop i) d = if sameD l[i].fD d = true then some l[i].fC else askP (l.drop (i + 1)) d := by
  rw [List.drop_eq_getElem_cons hi]
  rfl

set_option maxHeartbeats 4000000 in
theorem cmds_any (a : Option Addr) (n cap : Nat) (l : List MAsked) (w : World) (hx : l.length = n) (hn : n ≤ 1048576) (hr : LeafL 6 rAsked w.heap.size w a cap l) :
    Calls Try.prog 56 #[.slice a n cap, .func (.func 57) #[] #[]] w fun e w' => ∃ (b : Nat) (D : List (MDot × MCmd)), e = .returned (.map (some b)) ∧ DMap w' b D ∧ w.heap.size ≤ b ∧ (∀ d, lookD D d = askP l d) ∧ Below w.heap.size w w' := by
  have HX := Hid.mk hx
  have HR := Hid.mk hr
  clear hx hr
  refine (callsIn_wide (n := 5)).1 ?_
  refine callsIn_of_wp_marks Try.func56 rfl trivial ?_ rfl
  simp only [Try.ntmps56, List.size_toArray, List.length_cons, List.length_nil, Nat.reduceAdd, Nat.reduceSub, Array.replicate_succ, Array.replicate_zero, List.push_toArray, List.append_toArray, List.nil_append, List.cons_append]
  have hmk := make_run
  gi_wp2_with (refine ⟨trivial, ?_⟩; gi_at_call 83; refine (callsIn_wide.2 (back_any _ _ _ _)).mono ?_; rintro e w' ⟨rfl, rfl⟩)
  obtain ⟨W0, hW0⟩ : ∃ W0, W0 = (((w.alloc (.cells #[.func (.func 57) #[] #[]] 109)).alloc (.map #[] 0)).alloc (.cells #[.map (some (w.heap.size + 1))] 76)).alloc (.cells #[.slice a n cap] 31) := ⟨_, rfl⟩
  rw [← hW0]
  have hs0 : W0.heap.size = w.heap.size + 4 := by rw [hW0]; simp
  have b0 : Bw W0 w.heap.size 109 [.func (.func 57) #[] #[]] := by rw [hW0]; exact (((Bw.new _ _ _).alloc _).alloc _).alloc _
  have b2 : Bw W0 (w.heap.size + 2) 76 [.map (some (w.heap.size + 1))] := by rw [hW0]; exact (Bw.new' _ _ _ (by simp)).alloc _
  have b3 : Bw W0 (w.heap.size + 3) 31 [.slice a n cap] := by rw [hW0]; exact Bw.new' _ _ _ (by simp)
  have dm : DMap W0 (w.heap.size + 1) [] := by
    have h1 : DMap ((w.alloc (.cells #[.func (.func 57) #[] #[]] 109)).alloc (.map #[] 0)) (w.heap.size + 1) [] := ⟨#[], 0, by have := World.alloc_heap_new (w.alloc (.cells #[.func (.func 57) #[] #[]] 109)) (.map #[] 0); rwa [World.size_alloc] at this, rfl⟩
    rw [hW0]; exact (h1.under ((Below.refl _ _).alloc (Nat.le_refl _) _)).under ((Below.refl _ _).alloc (Nat.le_refl _) _)
  have hB0 : Below w.heap.size w W0 := by rw [hW0]; exact ((((Below.refl _ w).alloc (Nat.le_refl _) _).alloc (by simp) _).alloc (by simp; omega) _).alloc (by simp; omega) _
  clear hW0 hmk
  refine range_begins (gf := 97) (lb := #[.pointer (some ⟨w.heap.size + 1 + 1 + 1, 0, none⟩)]) rfl (enters_of Try.func97 (by kernel_rfl) rfl) ?_ (by omega)
  intro fn r hst hpe hps htm has hbo W1 hl hd hs1 hb1
  rw [hs0] at hl hd hs1 ⊢
  have hJ1 : CmW w (.slice a n cap) W1 [] := ⟨b0.under hb1, b2.under hb1, b3.under hb1, dm.under hb1, hd, by omega, hB0.trans (hb1.mono (by omega))⟩
  clear b0 b2 b3 dm hB0 hb1 hs1 hd hs0
  simp only [List.append_toArray, List.nil_append, List.cons_append]
  refine (callsIn_wide (n := 3)).1 ?_
  refine callsIn_of_wp Try.func97 rfl trivial ?_ rfl
  simp only [Try.ntmps97, List.size_toArray, List.length_cons, List.length_nil, Nat.reduceAdd, Nat.reduceSub, Array.replicate_succ, Array.replicate_zero, List.push_toArray, List.append_toArray, List.nil_append, List.cons_append]
  have hcS : W1.cell? ⟨w.heap.size + 1 + 1 + 1, 0, none⟩ = some (.slice a n cap) := hJ1.sb.cell 0 _ rfl
  gi_wp2_with fail
  clear hcS
  gi_loopw [3] (fun iv wr => ∃ (k : Nat) (D : List (MDot × MCmd)), k ≤ n ∧ iv = .int .i64 ((k : Int) - 1) ∧ Hid (∀ d, lookD D d = askP (l.drop k) d) ∧ CmW w (.slice a n cap) wr D ∧ wr.heap[w.heap.size + 4 + 1]? = some (.loop r)) (fun iv _ => (intOf iv + 1).toNat)
  case atStart => exact ⟨n, [], Nat.le_refl _, rfl, Hid.mk (fun d => by rw [List.drop_eq_nil_of_le (by rw [HX.out]; exact Nat.le_refl _)]; rfl), hJ1, hl⟩
  case round =>
    clear hJ1 hl
    obtain ⟨k, D, hk, rfl, HD, hJ, hlr⟩ := hrel
    have hcS : wr.cell? ⟨w.heap.size + 1 + 1 + 1, 0, none⟩ = some (.slice a n cap) := hJ.sb.cell 0 _ rfl
    cases k with
    | zero =>
      have HJ := Hid.mk hJ
      clear hJ hcS
      gi_wp2_with fail
      refine bodyPost_end (v := .tuple #[]) (by simp [results, Try.results97, go_sem]) rfl ?_
      refine ⟨⟨_, rfl⟩, r, hlr, by rw [hst]; simp, HJ.out.df, ?_⟩
      have hJ6 := HJ.out.put (.loop { r with state := .exhausted })
      obtain ⟨w6, hw6⟩ : ∃ x, x = wr.putObj (w.heap.size + 4 + 1) (.loop { r with state := .exhausted }) := ⟨_, rfl⟩
      rw [show w.heap.size + 5 = w.heap.size + 4 + 1 from rfl, ← hw6] at hJ6
      rw [← hw6, hpe]
      clear hw6 HJ hlr
      have hcM := hJ6.mb.cell 0 _ rfl
      show Exit.inBlock 0 _ .normal _ _
      gi_wp2_with fail
      have hK := hJ6.df
      refine ⟨by simp, .inl ⟨_, _, rfl, run_takeDeferred hK, ?_⟩⟩
      refine ⟨.map (some (w.heap.size + 1)), by simp [results, Try.results56, go_sem], w.heap.size + 1, D, rfl, ?_, by omega, fun d => by rw [HD.out]; rfl, ?_⟩
      · obtain ⟨es, clock, hb, he⟩ := hJ6.dm
        exact ⟨es, clock, (World.putObj_heap_other (by omega)).trans hb, he⟩
      · exact hJ6.bl.trans (belowK_b (w := w) (Nat.le_refl _) _ _ _ _ (by omega) hK rfl rfl)
    | succ i =>
      have hil : i < l.length := by rw [HX.out]; omega
      obtain ⟨b1, o1, hae, hB, cs, hcl, hcell, a5, c5, rfl, g0, g1, g2, g3, g4, _⟩ := HR.out.2.2 i hil
      have HDN : Hid (∀ d, lookD (putD D l[i].fD l[i].fC) d = askP (l.drop i) d) := fun d => by rw [look_put, ask_drop hil, HD.out]
      obtain ⟨x, hxq⟩ : ∃ q, l[i] = q := ⟨_, rfl⟩
      rw [hxq] at hcell HDN g0 g1 g2 g3 g4
      subst hae
      have hBl := hJ.bl
      have k0 := (hBl.cell (p := ⟨b1, o1 + i * 6 + 0, none⟩) hB).trans (hcell 0 _ rfl)
      have k1 := (hBl.cell (p := ⟨b1, o1 + i * 6 + 1, none⟩) hB).trans (hcell 1 _ rfl)
      have k2 := (hBl.cell (p := ⟨b1, o1 + i * 6 + 2, none⟩) hB).trans (hcell 2 _ rfl)
      have k3 := (hBl.cell (p := ⟨b1, o1 + i * 6 + 3, none⟩) hB).trans (hcell 3 _ rfl)
      have k4 := (hBl.cell (p := ⟨b1, o1 + i * 6 + 4, none⟩) hB).trans (hcell 4 _ rfl)
      have k5 := (hBl.cell (p := ⟨b1, o1 + i * 6 + 5, none⟩) hB).trans (hcell 5 _ rfl)
      rw [Nat.add_zero] at k0
      have hB' : b1 < wr.heap.size := Nat.lt_of_lt_of_le hB hBl.size
      have HJ := Hid.mk hJ
      clear hcell hcl hxq hJ hBl HD
      have hi1 : (((i + 1 : Nat) : Int) - 1) = (i : Int) := by omega
      rw [hi1]
      have hi2 : (0 : Int) ≤ (i : Int) := by omega
      have hi3 : (i : Int) < (n : Int) := by omega
      have hy := run_yield (P := Try.prog) (args := #[.int .i64 i, .agg #[.int .i64 x.fD.fR, .int .i64 x.fD.fN, .int .i64 x.fC.fKind, .string x.fC.fKey, .string x.fC.fVal, .slice a5 x.fBefore.length c5]]) hlr (by rw [hps]; rfl)
      gi_wp2_with fail
      refine round_runs hst ?_
      gi_wp2_with fail
      obtain ⟨w2, hw2⟩ : ∃ q, q = wr.alloc (.cells #[.int .i64 x.fD.fR, .int .i64 x.fD.fN, .int .i64 x.fC.fKind, .string x.fC.fKey, .string x.fC.fVal, .slice a5 x.fBefore.length c5] 73) := ⟨_, rfl⟩
      rw [← hw2]
      have hx2 : Below wr.heap.size wr w2 := by rw [hw2]; exact (Below.refl _ _).alloc (Nat.le_refl _) _
      have hJ2 := HJ.out.under hx2
      have hsz := HJ.out.sz
      have hl2 : w2.heap[w.heap.size + 4 + 1]? = some (.loop r) := (hx2.block _ (by omega)).trans hlr
      have hbx : Bx w2 wr.heap.size [.int .i64 x.fD.fR, .int .i64 x.fD.fN, .int .i64 x.fC.fKind, .string x.fC.fKey, .string x.fC.fVal, .slice a5 x.fBefore.length c5] := by rw [hw2]; exact Bx.new _ _ _
      refine ⟨hl2, ?_⟩
      obtain ⟨w3, hw3⟩ : ∃ q, q = w2.putObj (w.heap.size + 4 + 1) (.loop { r with state := .busy }) := ⟨_, rfl⟩
      rw [← hw3]
      have hJ3 : CmW w (.slice (some ⟨b1, o1, none⟩) n cap) w3 D := by rw [hw3]; exact hJ2.put _
      have hl3 : w3.heap[w.heap.size + 4 + 1]? = some (.loop { r with state := .busy }) := by rw [hw3]; exact World.putObj_heap_same (Array.getElem?_eq_some_iff.1 hl2).1
      have hs3 : wr.heap.size < w3.heap.size := by rw [hw3]; simp; exact hbx.1
      have d0 : w3.cell? ⟨wr.heap.size, 0, none⟩ = some (.int .i64 x.fD.fR) := by rw [hw3, cell_same (World.putObj_heap_other (by omega))]; exact hbx.2 0 _ rfl
      have d1 : w3.cell? ⟨wr.heap.size, 1, none⟩ = some (.int .i64 x.fD.fN) := by rw [hw3, cell_same (World.putObj_heap_other (by omega))]; exact hbx.2 1 _ rfl
      have d2 : w3.cell? ⟨wr.heap.size, 2, none⟩ = some (.int .i64 x.fC.fKind) := by rw [hw3, cell_same (World.putObj_heap_other (by omega))]; exact hbx.2 2 _ rfl
      have d3 : w3.cell? ⟨wr.heap.size, 3, none⟩ = some (.string x.fC.fKey) := by rw [hw3, cell_same (World.putObj_heap_other (by omega))]; exact hbx.2 3 _ rfl
      have d4 : w3.cell? ⟨wr.heap.size, 4, none⟩ = some (.string x.fC.fVal) := by rw [hw3, cell_same (World.putObj_heap_other (by omega))]; exact hbx.2 4 _ rfl
      have d5 : w3.cell? ⟨wr.heap.size, 5, none⟩ = some (.slice a5 x.fBefore.length c5) := by rw [hw3, cell_same (World.putObj_heap_other (by omega))]; exact hbx.2 5 _ rfl
      have hcT := hJ3.tb.cell 0 _ rfl
      have HJ3 := Hid.mk hJ3
      clear hw2 hw3 hbx hl2 hJ2 hy hx2 hJ3 hcS k0 k1 k2 k3 k4 k5
      gi_wp2_with fail
      refine ⟨trivial, ?_⟩
      refine (CallsIn.inRound _ (callsIn_wide.2 (tell_any x a5 _ c5 w3))).mono ?_
      rintro e w4 ⟨rfl, hx4⟩
      have hJ4 := HJ3.out.under hx4
      have hl4 : w4.heap[w.heap.size + 4 + 1]? = some (.loop { r with state := .busy }) := (hx4.block _ (by have := HJ3.out.sz; omega)).trans hl3
      rw [show dotV x.fD = .agg #[.int .i64 x.fD.fR, .int .i64 x.fD.fN] from rfl, show cmdV x.fC = .agg #[.int .i64 x.fC.fKind, .string x.fC.fKey, .string x.fC.fVal] from rfl]
      obtain ⟨w5, hw5⟩ : ∃ q, q = (w4.alloc (.cells #[.int .i64 x.fD.fR, .int .i64 x.fD.fN] 43)).alloc (.cells #[.int .i64 x.fC.fKind, .string x.fC.fKey, .string x.fC.fVal] 45) := ⟨_, rfl⟩
      have hx5 : Below w4.heap.size w4 w5 := by rw [hw5]; exact ((Below.refl _ _).alloc (Nat.le_refl _) _).alloc (by simp) _
      have hJ5 := hJ4.under hx5
      have hl5 : w5.heap[w.heap.size + 4 + 1]? = some (.loop { r with state := .busy }) := (hx5.block _ (by have := hJ4.sz; omega)).trans hl4
      obtain ⟨w6, hput, hd6, ht6, hs6⟩ := put_run hJ5.dm x.fC g0 g1
      have hput2 : (Instr.mapUpdate 76 (.map (some (w.heap.size + 1))) (.agg #[.int .i64 x.fD.fR, .int .i64 x.fD.fN]) (.agg #[.int .i64 x.fC.fKind, .string x.fC.fKey, .string x.fC.fVal])).run Try.prog w5 = .ok () w6 := hput
      have hJ6 := hJ5.turn ht6 hd6
      have hl6 : w6.heap[w.heap.size + 4 + 1]? = some (.loop { r with state := .busy }) := (ht6.block _ (by have := hJ5.sz; omega) (by simp)).trans hl5
      have hcM : w4.cell? ⟨w.heap.size + 1 + 1, 0, none⟩ = some (.map (some (w.heap.size + 1))) := hJ4.mb.cell 0 _ rfl
      rw [hw5] at hput2
      have HJ6 := Hid.mk hJ6
      have HL6 := Hid.mk hl6
      have hlm : w.heap.size + 1 + 1 < w4.heap.size := hJ4.mb.lt
      clear hput hd6 ht6 hs6 hJ5 hJ4 hl5 hl4 hx5 hw5 hx4 hJ6 hl6 hl3 hcT d0 d1 d2 d3 d4 d5 HJ3
      obtain ⟨bM, hbM⟩ : ∃ q, q = w.heap.size + 1 + 1 := ⟨_, rfl⟩
      rw [← hbM] at hcM hlm ⊢
      clear hbM
      gi_wp2_with fail
      refine ⟨HL6.out, ?_⟩
      have her : ({ r with state := .ready, pending := none } : Loop) = r := by cases r; simp only at hst hpe; subst hst; subst hpe; rfl
      rw [her]
      obtain ⟨w8, hw8⟩ : ∃ q, q = w6.putObj (w.heap.size + 4 + 1) (.loop r) := ⟨_, rfl⟩
      have hJ8 : CmW w (.slice (some ⟨b1, o1, none⟩) n cap) w8 (putD D x.fD x.fC) := by rw [hw8]; exact HJ6.out.put _
      have hl8 : w8.heap[w.heap.size + 4 + 1]? = some (.loop r) := by rw [hw8]; exact World.putObj_heap_same (Array.getElem?_eq_some_iff.1 HL6.out).1
      rw [← hw8]
      clear hw8 HJ6 HL6 her
      gi_wp2_with fail
      go_roundw
      case rel => exact ⟨i, _, by omega, by go_num, HDN, hJ8, hl8⟩
      case measure => simp [intOf]; try omega
end Go.Proofs.Ytjipinjdfeihjaa
