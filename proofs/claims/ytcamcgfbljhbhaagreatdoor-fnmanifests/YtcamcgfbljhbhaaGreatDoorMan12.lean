/-
  Part 13 of the texts that the proof leans on.
-/
import Derived.Test.YtcamcgfbljhbhaaGreatDoorMan11
import Derived.Test.YtcamcgfbljhbhaaGreatDoorMan6
import Derived.Test.YtcamcgfbljhbhaaGreatDoorMan10
import Derived.Test.YtcamcgfbljhbhaaGreatDoorMan2
import Derived.Test.YtcamcgfbljhbhaaGreatDoorMan1
import Derived.Test.YtcamcgfbljhbhaaGreatDoorMan0
import Derived.Deep.AppendSrc
set_option linter.unusedVariables false
set_option linter.unusedSimpArgs false
set_option maxRecDepth 10000
set_option maxHeartbeats 20000000

namespace Go.Proofs.YtcamcgfbljhbhaaGreatDoor
open Go.RowKit Go.Maps Go.Shelf Go.Lib Go.Sort
theorem tC (l : List aB) : ∀ c, c ∈ l.map j4 -> c.length = 2 := by
 intro c hc; obtain ⟨e, _, rfl⟩ := List.mem_map.1 hc; rfl
section
variable [Inhabited aB]
theorem Ca (d : Array aB) (t : Nat) (h : t < d.size * 2) : (d.toList.map j4).flatten[t]? = some ((flatK j4 2 d)[t]!) := by
 rw [get_flatK j4 2 d t h]; have h1 : t / 2 < d.size := by omega
 have e1 : t = t / 2 * 2 + t % 2 := by omega
 have hf := kF (tC d.toList) (j := t / 2) (i := t % 2) (by omega); rw [<- e1] at hf; rw [hf, List.getElem?_map, List.getElem?_eq_getElem (by simpa using h1)]; simp only [Option.map_some, Option.bind_some, Array.getElem_toList]; rw [getElem!_pos d (t / 2) h1]; have h2 : t % 2 < 2 := by omega
 generalize t % 2 = r at *
 match r, h2 with
 | 0, _ => rfl
 | 1, _ => rfl
theorem OV {w : World} {base g cap : Nat} {l : List aB} {e : TypeId} {B : Nat} (h : bS 2 e cy B w base (.slice (some ⟨g, 0, none⟩) l.length cap) l) : HoldsK j4 2 w g 0 l.toArray /\ g < w.heap.size /\ base <= g /\ ∃ cur, w.heap[g]? = some (.cells cur e (0, 0)) /\ cur.size = cap * 2 /\ l.length <= cap /\ cap <= maxLen /\ ∀ x, x ∈ l -> x.ax.size <= 9223372036854775807 /\ (Lit.int .i64 x.bi).wf = true := by
 obtain ⟨css, r1, r2, r3, r4⟩ := h
 have Wi : css = l.map j4 := by
  apply List.ext_getElem (by simp [r1]); intro i h1 h2; obtain ⟨e1, _⟩ := r3 i (by omega) h1; rw [e1]; simp [j4]
 rcases r4.2 with ⟨h0, _⟩ | ⟨g', cap', cur, h0, hb, hg, po, hm, hs, ht⟩
 ·cases h0
 ·simp only [Value.slice.injEq, Option.some.injEq, Addr.mk.injEq, and_true, true_and] at h0
  obtain ⟨rfl, rfl⟩ := h0; refine ⟨?_, (Array.getElem?_eq_some_iff.1 hg).1, hb, cur, hg, hs, po, hm, ?_⟩
  ·intro j hj
   have vd : j < l.toArray.size * 2 := by simpa using hj
   refine ⟨?_, frozen_of_row w g _ cur e hg⟩; rw [Nat.zero_add, cell_of_row w g j cur e (0, 0) hg]; have hf := Ca l.toArray j vd; have hlt : j < l.length * 2 := by simpa using vd
   rw [List.toList_toArray, <- Wi, <- ht, List.getElem?_take, if_pos hlt] at hf
   show cur[j]? = some ((flatK j4 2 l.toArray)[j]!); rw [<- hf]; simp
  ·intro x hx
   obtain ⟨i, hi, rfl⟩ := List.mem_iff_getElem.1 hx; obtain ⟨_, e2, e3, _⟩ := r3 i hi (by omega); exact ⟨e2, e3⟩
theorem Md {w : World} {g cap n : Nat} {e : TypeId} {cur : Array Value} (hg : w.heap[g]? = some (.cells cur e (0, 0))) (hs : cur.size = cap * 2) (po : n <= cap) (hm : cap <= maxLen) (d : Array aB) (hd : d.size = n) (hx : ∀ x, x ∈ d.toList -> x.ax.size <= 9223372036854775807 /\ (Lit.int .i64 x.bi).wf = true) (m : Nat) (os : Array Obj) :
  aF 2 e cN (sortWorldK j4 2 w g 0 m d os) (.slice (some ⟨g, 0, none⟩) n cap) d.toList [g] /\ aw [g] w (sortWorldK j4 2 w g 0 m d os) := by
 have iV : g < w.heap.size := (Array.getElem?_eq_some_iff.1 hg).1; have JJ : (sortWorldK j4 2 w g 0 m d os).heap = w.heap.modify g (onCells (putCells id 0 (flatK j4 2 d))) ++ os := rfl
 have hblk : (sortWorldK j4 2 w g 0 m d os).heap[g]? = some (.cells (putCells id 0 (flatK j4 2 d) cur) e (0, 0)) := by
  rw [JJ, Array.getElem?_append_left (by simpa using iV), Array.getElem?_modify, if_pos rfl, hg]; rfl
 have hput : ∀ t, t < n * 2 -> (putCells id 0 (flatK j4 2 d) cur)[t]? = (d.toList.map j4).flatten[t]? := by
  intro t ht; have DO : t < cur.size := by rw [hs]; have := Nat.mul_le_mul_right 2 po; omega
  rw [Ca d t (by rw [hd]; exact ht)]; unfold putCells; rw [Array.getElem?_mapIdx, Array.getElem?_eq_getElem DO]; simp only [Option.map_some, Nat.zero_add, Nat.zero_le, true_and, size_flatK, Nat.sub_zero, id]; rw [if_pos (by rw [hd]; exact ht)]
 have hrow : (sortWorldK j4 2 w g 0 m d os).ownsRow 0 e 2 (.slice (some ⟨g, 0, none⟩) n cap) n (d.toList.map j4).flatten := by
  refine ⟨by rw [jm (tC _)]; simp [hd], .inr ⟨g, cap, _, rfl, Nat.zero_le _, hblk, po, hm, by unfold putCells; rw [Array.size_mapIdx]; exact hs, ?_⟩⟩; apply List.ext_getElem?; intro t; rw [List.getElem?_take]
  by_cases ht : t < n * 2
  ·rw [if_pos ht, <- hput t ht]
   simp
  ·rw [if_neg ht, List.getElem?_eq_none (by rw [jm (tC _)]; simp [hd]; omega)]
 refine ⟨?_, ⟨rfl, rfl, rfl, by rw [JJ]; simp, fun b hb hne => ?_⟩⟩
 ·have h := kW (l := d.toList) (css := d.toList.map j4) (B := 0) (w0 := w) (n := n) (by simpa using hd) (by simp) (tC _) (fun j h1 h2 => by
   have := hx d.toList[j] (List.getElem_mem h1); rw [List.getElem_map]; exact ⟨rfl, this.1, this.2, trivial⟩) hrow
  simpa [Value.ownBlock] using h
 ·rw [JJ, Array.getElem?_append_left (by simpa using hb), Array.getElem?_modify, if_neg (by simp at hne; omega)]
theorem Cb {l : List aB} {d d' : Array aB} (hl : d.toList.Perm l) (hr : kr l) (hp : PermIn 0 d.size d d') (hs : SortedIn (ltOf yX) 0 d.size d') : d'.toList = l := by
 obtain ⟨h1, _, h3⟩ := hp; have e1 : (d'.extract 0 d.size).toList = d'.toList := by simp [<- h1]
 have e2 : (d.extract 0 d.size).toList = d.toList := by simp
 rw [e1, e2] at h3; have xC : d'.toList.Perm l := h3.trans hl; refine uZ xC ?_ hr; have zz : l.Pairwise (fun x y => x.ax ≠ y.ax) := hr.imp (fun h e => by rw [e, bj] at h; cases h); have Sd : d'.toList.Pairwise (fun x y => x.ax ≠ y.ax) := xC.symm.pairwise zz (fun {a b} h => Ne.symm h); unfold kr; rw [List.pairwise_iff_getElem] at Sd ⊢; intro i j hi hj Bl; have h4 := hs i j (Nat.zero_le _) Bl (by simp at hj; omega); have hi' : i < d'.size := by simpa using hi
 have hj' : j < d'.size := by simpa using hj
 rw [getElem!_pos d' i hi', getElem!_pos d' j hj', FK] at h4; have h5 := Sd i j hi hj Bl; simp only [Array.getElem_toList] at h5 ⊢; exact kD h4 (Ne.symm h5)
end
end Go.Proofs.YtcamcgfbljhbhaaGreatDoor

namespace Go.Proofs.YtcamcgfbljhbhaaGreatDoor
open Go.RowKit Go.Maps Go.Shelf Go.Lib Go.Sort
theorem Me (p : Option Addr) (cap : Nat) (fv : Value) (w : World) :
  Calls Tryz.prog 157 #[.slice p 0 cap, .int .i64 0, .int .i64 0, fv] w fun e w' => e = .returned (.tuple #[]) /\ w' = w := by
 go_enter Tryz.func157, Tryz.ntmps157
 go_wp2
 refine wp_loop_rounds 1 ?_; rw [rounds_succ]
 go_wp2
 go_end0
 exact ⟨rfl, rfl⟩
theorem Mf (p : Option Addr) (cap : Nat) (lim : Int) (fv : Value) (w : World) :
  Calls Tryz.prog 144 #[.slice p 0 cap, .int .i64 0, .int .i64 0, .int .i64 lim, fv] w fun e w' => e = .returned (.tuple #[]) /\ w' = w := by
 have hi := fun W => Me p cap fv W
 go_enter Tryz.func144, Tryz.ntmps144; go_wp2_with fail; refine wp_loop_rounds 1 ?_; rw [rounds_succ]; go_wp2_with (go_at_call 157; refine (hi _).mono ?_; rintro e w' ⟨rfl, rfl⟩)
 (try simp only [Exit.inBlock, Exit.then])
 refine bodyPost_ret (results_none rfl _ _ _) rfl ?_; exact ⟨rfl, rfl⟩
theorem JK (p : Option Addr) (cap : Nat) (fv : Value) (w : World) :
  Calls Tryz.prog 131 #[.slice p 0 cap, fv] w fun e w' => e = .returned (.tuple #[]) /\ w' = w := by
 have hp := fun lim W => Mf p cap lim fv W
 have hl : ∀ W, Calls Tryz.prog 145 #[.int .u64 0] W fun e w' => e = .returned (.int .i64 (Lib.bitLen 0 : Nat)) /\ w' = W := fun W => by
  have h := Any.bits_Len (SlLaysF0.n15.bits (P := Tryz.prog) (ρ := vn) { FI with }) 0 W (by omega) (by omega); exact h
 go_enter Tryz.func131, Tryz.ntmps131; go_wp2_with (first | (go_at_call 145; refine (hl _).mono ?_; rintro e w' ⟨rfl, rfl⟩) | (go_at_call 144; refine (hp _ _).mono ?_; rintro e w' ⟨rfl, rfl⟩))
 go_end0
 exact ⟨rfl, rfl⟩
theorem Eb {key : Value} {kl : Lit} (h : keyOf Tryz.prog 9 key = some kl) : ∃ s : ByteArray, key = .string s := by
 obtain ⟨x, rfl, _⟩ := Maps.keyOf_str Tryz.underlying9 h; exact ⟨_, rfl⟩
theorem He {s : ByteArray} {kl : Lit} (h : keyOf Tryz.prog 9 (.string s) = some kl) : kl = kS s /\ s.size <= 9223372036854775807 := by
 obtain ⟨x, hx, rfl, hl⟩ := Maps.keyOf_str Tryz.underlying9 h; simp only [encStr, Value.string.injEq] at hx; subst hx; refine ⟨by simp [kS], ?_⟩; have h2 : (ByteArray.mk x.toArray).size = x.length := by show x.toArray.size = _; simp
 unfold maxLen at hl; omega
theorem Hf {D : DataW Unit} {l : List aB} (hM : jP D l) {s : ByteArray} {c : Int} (hat : ∀ zd, D.atKey (kS s) zd = .lit (.int .i64 c)) : (⟨s, c⟩ : aB) ∈ l := by
 have hh : Maps.has D (kS s) = true := has_true_of_atKey hat; obtain ⟨e, he, hn⟩ := eh.1 ((hM.2.1 s).1 hh); have h1 := hM.2.2 e he; rw [hn, hat] at h1; simp only [DataW.lit.injEq, Lit.int.injEq, true_and] at h1; have : (⟨s, c⟩ : aB) = e := by cases e; simp at hn h1; subst hn; subst h1; rfl
 rw [this]; exact he
theorem Ec {l m : List (List UInt8)} (h : l.Nodup) (hs : ∀ x, x ∈ l -> x ∈ m) : l.length <= m.length := by
 induction l generalizing m with
 | nil => simp
 | cons x r ih =>
  have hn := List.nodup_cons.1 h; have hx := hs x (by simp); have h1 := ih hn.2 (m := m.erase x) (fun y hy => (List.mem_erase_of_ne (fun (e : y = x) => hn.1 (by rw [<- e]; exact hy))).2 (hs y (by simp [hy]))); have h2 := List.length_erase_of_mem hx; have h3 : 0 < m.length := List.length_pos_of_mem hx; simp only [List.length_cons]; omega
theorem Mg {l o : List aB} {left : Lit -> Bool} (h : Met l left o) : o.length <= l.length := by
 have h1 := Ec (l := o.map (fun e => e.ax.data.toList)) (m := l.map (fun e => e.ax.data.toList)) (List.pairwise_map.2 (h.once.imp (fun {a b} (hne : a.ax ≠ b.ax) (he : a.ax.data.toList = b.ax.data.toList) => wF hne (by unfold kS; rw [he])))) (fun x hx => by
  obtain ⟨e, he, rfl⟩ := List.mem_map.1 hx; exact List.mem_map.2 ⟨e, h.sub e he, rfl⟩)
 simpa using h1
theorem bS.shape {α : Type} {size : Nat} {e : TypeId} {R : nS α} {B base : Nat} {w : World} {v : Value} {l : List α} (h : bS size e R B w base v l) (hl : 0 < l.length) : ∃ g cap, v = .slice (some ⟨g, 0, none⟩) l.length cap := by
 obtain ⟨css, r1, r2, r3, r4⟩ := h; rcases r4.2 with ⟨_, h0⟩ | ⟨g, cap, cur, rfl, _⟩
 ·omega
 ·exact ⟨g, cap, rfl⟩
theorem yY (b n : Nat) (D : DataW Unit) (l : List aB) (w : World) (hown : w.ownsMap Tryz.prog 9 (plainElem Tryz.prog 3) b n D) (hM : jP D l) (hr : kr l) (hl : l.length <= 1000) :
  Calls Tryz.prog 116 #[.map (some b)] w fun e w' => ∃ (a : Option Addr) (c : Nat) (F : List Nat), e = .returned (.slice a l.length c) /\ aF 2 68 cN w' (.slice a l.length c) l F /\ (∀ x, x ∈ F -> w.heap.size <= x) /\ Below w.heap.size w w' := by
 obtain ⟨iE, mV, fJ, fK, fL⟩ := info_parts Tryz.gG; have HM := Hm hM; have FD := Hm hr; have hbl := jA hown; clear hM hr; go_enter Tryz.func116, Tryz.ntmps116; go_wp2_with (at_range; refine wpList_range_own _ rfl _ 120 rfl 9 3 kI Tryz.underlying120 _ b n D rfl hown ?_; intro w0 hrg0 hg0 hs0); have hb0 : Below w.heap.size w w0 := rB.grown hg0 rN (fun k h => by cases h); have Sg : w.heap.size + 1 <= w0.heap.size := by omega
 have Li := Hm hs0; clear hs0 hg0
 go_frame
 go_loopw [3] (fun v wr => ∃ (left : Lit -> Bool) (cnt : Nat) (o : List aB), wr.ranges Tryz.prog 9 (plainElem Tryz.prog 3) b w.heap.size n D left cnt /\ Met l left o /\ bS 2 68 cy w.heap.size wr (w.heap.size + 1) v o /\ Below w.heap.size w wr /\ w.heap.size + 1 <= wr.heap.size) (fun _ wr => wr.rangeLeft b w.heap.size)
 case atStart => exact ⟨_, _, [], hrg0, Met.start HM.out, bS.start, hb0, Sg⟩
 case round =>
  obtain ⟨left, cnt, o, hrg, OW, hrow, bF, hzk⟩ := hrel; have OX := Hm OW; have oQ := Hm hrow; have hol : o.length <= 1000 := Nat.le_trans (Mg OW) hl; clear OW hrow hrg0 hb0 Sg; go_wp2_with (at_next; refine wpList_next_ranges _ rfl _ rfl 9 kI (plainElem Tryz.prog 3) Value.string (Value.int .i64) (fun key kl hkey => Eb hkey) (fun v y hv => by obtain ⟨c, rfl, _⟩ := plainElem_int_inv Tryz.underlying3 hv; exact ⟨c, rfl⟩) b w.heap.size n D left cnt rfl hrg ?_ ?_)
  ·intro hc0 hl0
   have xC := OX.out.perm FD.out hl0; have hlen : o.length = l.length := xC.length_eq; have NH := Hm xC
   by_cases sF : l.length = 0
   ·have hln : l = [] := List.eq_nil_of_length_eq_zero sF
    have hon : o = [] := List.eq_nil_of_length_eq_zero (by omega); subst hln; subst hon; obtain ⟨ar, cr, hv, _⟩ := oQ.out.leaf au bF.size; subst hv
    have Sh : ∃ F, aF 2 68 cN wr (.slice ar 0 cr) [] F /\ ∀ x, x ∈ F -> w.heap.size <= x := by
     obtain ⟨css, r1, r2, r3, r4⟩ := oQ.out; refine ⟨_, kW (l := []) (n := 0) (B := w.heap.size) (w0 := wr) rfl r1 r2 (fun j h1 => by simp at h1) r4, fun x hx => ?_⟩; have := (r4.lt x (by simpa using hx)).1; omega
    have RF := Hm Sh; clear Sh xC hc0 hl0 hrg; simp only [List.length_nil] at *; go_wp2_with (go_at_call 131; refine (JK ar cr _ _).mono ?_; rintro e w' ⟨rfl, rfl⟩); obtain ⟨F, h1, h2⟩ := RF.out; go_ret; exact ⟨ar, cr, F, rfl, h1, h2, bF⟩
   ·letI := Wd
    obtain ⟨g, cap, hv⟩ := bS.shape oQ.out (by omega); subst hv; obtain ⟨hH, iV, hgb, cur, hg, hs, po, hmx, Jd⟩ := OV oQ.out; have hcon := Hc g cap o.toArray wr hH iV (by simp; omega); simp only [List.size_toArray] at hcon; have Wj : Hid (∀ d' : Array aB, PermIn 0 o.length o.toArray d' -> SortedIn (ltOf yX) 0 o.length d' -> d'.toList = l) := fun d' h1 h2 => Cb (d := o.toArray) (by simpa using NH.out) FD.out (by simpa using h1) (by simpa using h2)
    have QO : Hid (∀ (d' : Array aB) (m : Nat) (os : Array Obj), d'.toList = l -> aF 2 68 cN (sortWorldK j4 2 wr g 0 m d' os) (.slice (some ⟨g, 0, none⟩) l.length cap) l [g] /\ aw [g] wr (sortWorldK j4 2 wr g 0 m d' os)) := fun d' m os hd => by
     have h := Md (n := l.length) hg hs (by omega) hmx d' (by rw [<- hd]; simp) (fun x hx => Jd x (NH.out.mem_iff.2 (by rw [<- hd]; exact hx))) m os; rw [hd] at h; exact h
    clear xC hc0 hl0 hrg hH Jd hg hs; rw [hlen] at hcon ⊢; go_wp2_with (go_at_call 131; refine hcon.mono ?_; rintro e w' ⟨rfl, d', m, os, h1, h2, rfl⟩); have hd := Wj.out d' (by rw [hlen]; exact h1) (by rw [hlen]; exact h2); obtain ⟨h3, h4⟩ := QO.out d' m os hd; go_ret; exact ⟨some ⟨g, 0, none⟩, cap, [g], rfl, h3, fun x hx => by simp at hx; omega, bF.trans (h4.below (fun k hk => by simp at hk; omega) bF.size)⟩
  ·intro x c kl yd yp w1 cnt1 hkey hlk hv hat hrg1 hlt hg1 hs1 hen
   obtain ⟨gH, hsz⟩ := He hkey; subst gH; obtain ⟨c', ec, ey, hwc⟩ := plainElem_int_inv Tryz.underlying3 hv; cases ec; simp only [Prod.mk.injEq] at ey; obtain ⟨rfl, rfl⟩ := ey; have Si := Hm (OX.out.step FD.out (Hf HM.out hat) hlk); have pM : aw [w.heap.size] wr w1 := aw.eZ hg1 (fun k hk => by cases hk; simp); have Sj := bS.turn au oQ.out pM (fun k hk => by simp at hk; omega) bF.size rN; have hb1 : Below w.heap.size w w1 := bF.trans (pM.below (fun k hk => by simp at hk; omega) bF.size); have hz1 : w.heap.size + 1 <= w1.heap.size := by omega
   obtain ⟨css, r1, r2, r3, r4⟩ := Sj; have HRG := Hm hrg; have Wk := Hm hrg1; have hlc := hlt; clear hs1 hat hlk hkey hv hrg hrg1 oQ OX pM hg1; go_wp2_with (at_builtin; refine wpList_append_own_at _ rfl _ _ 25 rfl (w.heap.size + 1) 68 iE (.agg #[.string ⟨#[]⟩, .int .i64 0]) 2 24 Tryz.underlying25 mV fJ fK fL rfl (by decide) _ _ _ rfl (aA r4 (rB.alloc rN _)) ⟨w1.heap.size, 0, none⟩ 1 1 [.string x, .int .i64 c] rfl rfl (b8 (Bx.new w1 _ _)) (by intro u hu; simp at hu; rcases hu with rfl | rfl <;> rfl) (by unfold maxLen; omega) (by omega) (by simp; omega) ?_; intro v' w3 ek dI hnil hloc); have hT := aw.after ((Below.refl w1.heap.size w1).alloc rN _) (dE dI); have lx : ∀ k, k ∈ (Value.ownBlock _).toList -> w.heap.size + 1 <= k := fun k hk => (r4.lt k (by simpa using hk)).1
   have hBl : Below w.heap.size w1 w3 := aw.below hT (fun k hk => by have := lx k hk; omega) (by omega); have hrg3 := (Wk.out.alloc (.cells #[.string x, .int .i64 c] 68)).kept dI (fun e => by have := (r4.lt b e.symm).1; omega) (fun e => by have := (r4.lt w.heap.size e.symm).1; omega)
   go_roundw
   case rel => exact ⟨_, cnt1, o ++ [⟨x, c⟩], hrg3, Si.out, bS.push au r1 r2 r3 hBl rfl ⟨rfl, hsz, hwc, trivial⟩ ek, hb1.trans hBl, Nat.le_trans hz1 hT.size⟩
   case measure => rw [hrg3.left_eq, HRG.out.left_eq]; omega
end Go.Proofs.YtcamcgfbljhbhaaGreatDoor

namespace Go.Proofs.YtcamcgfbljhbhaaGreatDoor
open Go.RowKit Go.Maps
theorem nM (cs : List Value) (m : az) (b nn : Nat) (Dm : DataW Unit) (N : List aB) (w : World) (hr : bg w.heap.size w cs m) (hown : w.ownsMap Tryz.prog 9 (plainElem Tryz.prog 3) b nn Dm) (hM : jP Dm N) (zE : kr N) (hNl : N.length <= 1000) (hw : aZ { m with ae := N } <= 1048576) :
  Calls Tryz.prog 98 #[.agg cs.toArray, .map (some b)] w fun e w' => ∃ (cs' : List Value) (F : List Nat), e = .returned (.agg cs'.toArray) /\ ba w' cs' (aY { m with ae := N }) F /\ F.Nodup /\ (∀ x, x ∈ F -> w.heap.size <= x) /\ Below w.heap.size w w' := by
 have hq := hr; obtain ⟨a0, c0, a1, c1, a2, c2, rfl, hI, gf, gT, kX, _⟩ := hq; have HW := Hm hw; have HI := Hm hI; have OZ := Hm gT; have HM := Hm hM; have HRi := Hm zE; have NG : Hid (aZ (aY { m with ae := N }) <= 1048576) := Nat.le_trans (jS _) hw; clear hr hI gf gT hw hM zE; go_enter Tryz.func98, Tryz.ntmps98; go_wp2_with fail; obtain ⟨wq, bI⟩ : ∃ wq, wq = ((w.alloc (.cells #[.slice a0 m.aa.length c0, .slice a1 m.ae.length c1, .slice a2 m.ag.length c2, .int .i64 m.ah] 27)).alloc (.cells #[.slice none 0 0, .slice none 0 0, .slice none 0 0, .int .i64 0] 27)) := ⟨_, rfl⟩
 have cJ : Below w.heap.size w wq := by rw [bI]; exact Below.alloc (Below.alloc rB (by exact rN) _) (by simp; try omega) _
 have dl : Bw wq (w.heap.size) 27 (cj a0 c0 a1 c1 a2 c2 m) := by rw [bI]; exact Bw.alloc (Bw.dX _ _ _ (by simp)) _
 have hbr : Bw wq (w.heap.size + 1) 27 oz := by rw [bI]; exact Bw.dX _ _ _ (by simp)
 rw [<- bI]; clear bI; have sD := cJ.size; have oA := hbr.lt; refine (yY b nn Dm N wq (fY hown cJ) HM.out HRi.out hNl).mono ?_; rintro e w1 ⟨an, cn, FN, rfl, QC, YG, hx1⟩; have hb1 := af cJ hx1; have df := dl.under hx1; have dB := hbr.under hx1; have sF := df.lt; have JL := dB.lt; have Bo := Hm QC; have YH := Hm YG; have f1 := df.free 1; obtain ⟨y0, y1, y2, y3⟩ := df.c4; clear dl hbr QC YG hown; go_wp2_with fail; obtain ⟨ws, jh⟩ : ∃ ws, ws = w1.setCell ⟨w.heap.size, 1, none⟩ (.slice an N.length cn) := ⟨_, rfl⟩
 have jw : aw [w.heap.size] w1 ws := by rw [jh]; exact aw.setCell (aw.refl _ _) (by simp) _
 have oT : Bw ws w.heap.size 27 [.slice a0 m.aa.length c0, .slice an N.length cn, .slice a2 m.ag.length c2, .int .i64 m.ah] := by rw [jh]; exact df.put 1 _
 rw [<- jh]; clear jh y0 y1 y2 y3 f1; have jd := dB.turn jw (by simp); have l8 : Below w.heap.size w ws := hb1.trans (jw.below (fun k hk => by simp at hk; omega) hb1.size); have O0 := aF.frame (w' := ws) ay Bo.out (fun x hx => jw.block x (aF.lt ay Bo.out x hx) (by have := YH.out x hx; simp; omega)); have O1 := Hm O0; refine (iY a0 an a2 c0 cn c2 { m with ae := N } ws w.heap.size l8.size (HI.out.below aV l8) (aF.leaf ay O0) (bw.mono au (OZ.out.below au l8) l8.size) (by have := HW.out; omega)).mono ?_; rintro e w2 ⟨ak, ck, rfl, hrow, _, hx2⟩; have oQ := Hm hrow; have hb2 := af l8 hx2; have eT := oT.under hx2; have bZ := jd.under hx2; have hl2 := eT.lt; have Sk := oT.lt; have JM := jd.lt; obtain ⟨y0, y1, y2, y3⟩ := eT.c4; have f0 := eT.free 0; clear hrow O0; go_wp2_with fail; obtain ⟨wt, hwt⟩ : ∃ wt, wt = w2.setCell ⟨w.heap.size, 0, none⟩ (.slice ak (bV { m with ae := N }).length ck) := ⟨_, rfl⟩
 have AL : aw [w.heap.size] w2 wt := by rw [hwt]; exact aw.setCell (aw.refl _ _) (by simp) _
 rw [<- hwt]; clear hwt y0 y1 y2 y3 f0; have xD := bZ.turn AL (by simp); have Cc : Below w.heap.size w wt := hb2.trans (AL.below (fun k hk => by simp at hk; omega) hb2.size); have Sl := aF.frame (w' := wt) ay O1.out (fun x hx => (AL.block x (Nat.lt_of_lt_of_le (aF.lt ay O1.out x hx) hx2.size) (by have := YH.out x hx; simp; omega)).trans (hx2.block x (aF.lt ay O1.out x hx)))
 have Hg : bg wt.heap.size wt [.slice ak (bV { m with ae := N }).length ck, .slice an N.length cn, .slice a2 m.ag.length c2, .int .i64 m.ah] (aY { m with ae := N }) := by
  obtain ⟨a', c', he, h1⟩ := (bS.turn aV oQ.out AL (fun k hk => by simp at hk; omega) hb2.size rN).leaf aV Cc.size; simp only [Value.slice.injEq, true_and] at he; obtain ⟨rfl, rfl⟩ := he; exact ⟨ak, ck, an, cn, a2, c2, rfl, h1, aF.leaf ay Sl, bw.mono au (OZ.out.below au Cc) Cc.size, kX, trivial⟩
 clear Sl; obtain ⟨kd, Hh⟩ : ∃ kd, kd = aY { m with ae := N } := ⟨_, rfl⟩
 rw [<- Hh] at Hg NG; have O2 := Hm Hh; clear Hh; refine (cE _ (kd) wt Hg NG.out).mono ?_; rintro e w3 ⟨uB, F3, rfl, eU, jx, cm, hx3⟩; have hb3 := af Cc hx3; have dc := xD.under hx3; have sI := dc.lt; have hz3 := Cc.size; have Ce := xD.lt; obtain ⟨q0, p0, q1, p1, q2, p2, G0, G1, G2, rfl, _, _, _, _, rfl⟩ := aC eU
 have hkey : ∀ W', aw [w.heap.size + 1] w3 W' -> ba W' [.slice q0 (kd).aa.length p0, .slice q1 (kd).ae.length p1, .slice q2 (kd).ag.length p2, .int .i64 (kd).ah] (kd) (G0 ++ G1 ++ G2 ++ []) /\ Below w.heap.size w W' := fun W' hT =>
  ⟨aj.frame eU (fun b hb => hT.block b (aj.lt eU b hb) (fun h => by simp at h; have := cm b hb; omega)), hb3.trans (hT.below (fun k hk => by simp at hk; omega) hb3.size)⟩
 have HKEY := Hm hkey; have rW := Hm jx; have pW : Hid (∀ b, b ∈ G0 ++ G1 ++ G2 ++ [] -> w.heap.size <= b) := fun b hb => by have := cm b hb; omega
 clear hkey eU jx cm ; obtain ⟨oa, od, og, oh⟩ := dc.c4; obtain ⟨oc, mz, nL, ol⟩ := dc.f4; go_wp2_with fail; obtain ⟨h1, h3⟩ := HKEY.out _ (show aw [w.heap.size + 1] w3 ((((w3.setCell ⟨w.heap.size + 1, 0, none⟩ (.slice q0 (kd).aa.length p0)).setCell ⟨w.heap.size + 1, 1, none⟩ (.slice q1 (kd).ae.length p1)).setCell ⟨w.heap.size + 1, 2, none⟩ (.slice q2 (kd).ag.length p2)).setCell ⟨w.heap.size + 1, 3, none⟩ (.int .i64 (kd).ah)) from bE _ _ _ _ _ _); exact bodyPost_ret (v := .agg #[.slice q0 (kd).aa.length p0, .slice q1 (kd).ae.length p1, .slice q2 (kd).ag.length p2, .int .i64 (kd).ah]) (by simp [results, Tryz.results98, go_sem, *]) rfl ⟨[.slice q0 (kd).aa.length p0, .slice q1 (kd).ae.length p1, .slice q2 (kd).ag.length p2, .int .i64 (kd).ah], _, rfl, by rw [<- O2.out]; exact h1, rW.out, pW.out, h3⟩
theorem Ed {l : List aB} {e : aB} (h : kr l) : kr (dV l e) := by
 unfold kr dV; rw [List.pairwise_append, List.pairwise_cons]; refine ⟨List.Pairwise.sublist List.filter_sublist h, ⟨fun y hy => (by simpa using (List.mem_filter.1 hy).2), List.Pairwise.sublist List.filter_sublist h⟩, ?_⟩; intro x hx y hy; have yM : strLt x.ax e.ax = true := by simpa using (List.mem_filter.1 hx).2
 rcases List.mem_cons.1 hy with rfl | hy
 ·exact yM
 ·exact gD yM (by simpa using (List.mem_filter.1 hy).2)
theorem xE {α : Type} {size : Nat} {e : TypeId} {O : jy α} {w : World} {v : Value} {l : List α} {F : List Nat} (h : aF size e O w v l F) : ∀ k, v.ownBlock = some k -> k ∈ F := by
 intro k hk; rcases h with ⟨rfl, _, _⟩ | ⟨g, cap, cur, Fs, rfl, h2, h3, h4, h5, h6, h7, rfl⟩
 ·simp [Value.ownBlock] at hk
 ·simp [Value.ownBlock] at hk
  simp [hk]
theorem Cf {m : az} (h : (Lit.int .i64 m.ah).wf = true) (w : World) : fX w [.int .i64 m.ah, .slice none 0 0, .int .i64 0] (yN m) [] :=
 ⟨.slice none 0 0, [], rfl, h, ⟨⟨rfl, .inl ⟨rfl, rfl⟩⟩, (by intro z hz; cases hz), rfl⟩, rfl, rfl⟩
theorem ru {m : az} {s : ByteArray} (h : bc m = true) (hs : s.size <= 12) : aZ (gh m s) <= 1000000 /\ (dV m.ae ⟨s, m.ah⟩).length <= 1000 /\ aZ { m with ae := dV m.ae ⟨s, m.ah⟩ } <= 1000000 := by
 have h1 := eB h; have h2 := sQ (l := m.ae) (e := ⟨s, m.ah⟩); have h3 := DK (l := m.ae) (e := ⟨s, m.ah⟩); have h4 : a7 ⟨s, m.ah⟩ = s.size := rfl; have h5 : aP aJ [yN m] = 0 := rfl; refine ⟨?_, by omega, ?_⟩
 ·rw [cR]
  unfold gh; simp only [pI, List.length_append, List.length_cons, List.length_nil]; omega
 ·rw [cR]
  simp only; omega
theorem AO (cs : List Value) (m : az) (s : ByteArray) (w : World) (hr : bg w.heap.size w cs m) (hs : s.size <= 9223372036854775807) (hw : aZ m <= 1048576) (di : s.size <= 1048576) :
  Calls Tryz.prog 53 #[.agg cs.toArray, .string s] w fun e w' => ∃ (cs' : List Value) (F : List Nat), e = .returned (.tuple #[.agg cs'.toArray, .int .i64 (cK m s)]) /\ ba w' cs' (aX m s) F /\ F.Nodup /\ (∀ b, b ∈ F -> w.heap.size <= b) /\ Below w.heap.size w w' := by
 obtain ⟨iI, Jm, wY, wZ, xa⟩ := info_parts Tryz.jE; have hq := hr; obtain ⟨a0, c0, a1, c1, a2, c2, rfl, hI, gf, gT, kX, _⟩ := hq; have hw2 : m.aa.length + aP aJ m.aa + (m.ae.length + aP a7 m.ae) + (m.ag.length + aP a7 m.ag) <= 1048576 := hw; have HW := Hm hw; have HR := Hm hr; have Dt := Hm gf; clear hr hI gf gT hw; go_enter Tryz.func53, Tryz.ntmps53; go_wp2_with fail; obtain ⟨wq, bI⟩ : ∃ wq, wq = ((w.alloc (.cells #[.slice a0 m.aa.length c0, .slice a1 m.ae.length c1, .slice a2 m.ag.length c2, .int .i64 m.ah] 27)).alloc (.cells #[.slice none 0 0, .slice none 0 0, .slice none 0 0, .int .i64 0] 27)) := ⟨_, rfl⟩
 have cJ : Below w.heap.size w wq := by rw [bI]; exact Below.alloc (Below.alloc rB (by exact rN) _) (by simp; try omega) _
 have dl : Bw wq (w.heap.size) 27 [.slice a0 m.aa.length c0, .slice a1 m.ae.length c1, .slice a2 m.ag.length c2, .int .i64 m.ah] := by rw [bI]; exact Bw.alloc (Bw.dX _ _ _ (by simp)) _
 have hbr : Bw wq (w.heap.size + 1) 27 [.slice none 0 0, .slice none 0 0, .slice none 0 0, .int .i64 0] := by rw [bI]; exact Bw.dX _ _ _ (by simp)
 have Wl : Hid (wq.heap.size = w.heap.size + 1 + 1) := by show _ = _; rw [bI]; simp
 rw [<- bI]; clear bI; have Ee : Below wq.heap.size wq (wq.alloc (.cells #[.string s] 9)) := rB.alloc rN _; have FJ := af cJ Ee
 have Sm : ∃ b, (some ⟨w.heap.size + 1 + 1, 0, none⟩ : Option Addr) = some ⟨b, 0, none⟩ /\ b < (wq.alloc (.cells #[.string s] 9)).heap.size /\ (wq.alloc (.cells #[.string s] 9)).cell? ⟨b, 0, none⟩ = some (.string s) := by
  rw [<- Wl.out]; exact ⟨wq.heap.size, rfl, by simp, by simp⟩
 refine (vo _ m (some ⟨w.heap.size + 1 + 1, 0, none⟩) 1 s _ (aq.mono (aq.below HR.out FJ) FJ.size) HW.out hs Sm).mono ?_; clear Sm; rintro e w1 ⟨rfl, JN⟩; have hx1 := af Ee JN; have hb1 := af cJ hx1; have df := dl.under hx1; have dB := hbr.under hx1; have sF := df.lt; have JL := dB.lt; obtain ⟨y0, y1, y2, y3⟩ := df.c4; clear dl hbr Ee FJ JN
 by_cases hF : (bc m && bH s) = true
 ·have hF2 := hF
  rw [Bool.and_eq_true] at hF2; obtain ⟨hK, JO⟩ := hF2; have ua := bM.1 hK; have zE : kr m.ae := ua.names.px; have Lh := Hm (fun i j hi hj he => kE zE (i := i) (j := j) hi hj he); have Hi := Hm zE; have HK := Hm hK
  have xb : Hid (aS m s = if hasName m.ae s = true then 0 else 2) := by
   show _ = _; unfold aS; rw [hK, JO]; rfl
  have Mh : s.size <= 12 := by
   unfold bH at JO; simp at JO; omega
  have Wm := Hm Mh; rw [hF]; clear hF hK JO zE Mh; go_wp2_with fail; refine (nu a1 m.ae.length c1 m.ae w1 rfl (bw.mono au (Dt.out.below au hb1) hb1.size) (by omega)).mono ?_; rintro e w2 ⟨Dm, rfl, hown, JF, hx2⟩; have Cg := Hm JF; clear JF; have hb2 := af hb1 hx2; have eT := df.under hx2; have bZ := dB.under hx2; have hl2 := eT.lt; have JM := bZ.lt; have hz2 := hx2.size; have Sn := hb1.size; clear y0 y1 y2 y3 df dB; obtain ⟨y0, y1, y2, y3⟩ := eT.c4; have hkey := pT hs
  by_cases hH : hasName m.ae s = true
  ·have QP : Hid (cK m s = 3) := by show _ = _; unfold cK; rw [xb.out, if_pos hH]; rfl
   have HV : Hid (aX m s = m) := by show _ = _; unfold aX; rw [xb.out, if_pos hH]; simp
   obtain ⟨hk, Lk⟩ := kC hH; have OS : Maps.has Dm (kS s) = true := (Cg.out.2 s).1.2 ⟨_, hk, hk, Lk⟩; clear hH hk Lk ua; go_wp2_with (at_lookup; refine wpList_lookup_own_ok_int _ rfl _ _ 120 rfl 9 3 .i64 kI Tryz.underlying120 Tryz.underlying3 (jY _) w1.heap.size m.ae.length Dm rfl hown _ _ rfl hkey ?_; intro c hat hwc); refine (cE _ (m) w2 (aq.mono (aq.below HR.out hb2) hb2.size) HW.out).mono ?_; rintro e w3 ⟨uB, F3, rfl, eU, jx, cm, hx3⟩; have hb3 := af hb2 hx3; have dc := bZ.under hx3; have sI := dc.lt; have hz3 := hb2.size; have Ce := bZ.lt; obtain ⟨q0, p0, q1, p1, q2, p2, G0, G1, G2, rfl, _, _, _, _, rfl⟩ := aC eU
   have hkey : ∀ W', aw [w.heap.size + 1] w3 W' -> ba W' [.slice q0 m.aa.length p0, .slice q1 m.ae.length p1, .slice q2 m.ag.length p2, .int .i64 m.ah] (m) (G0 ++ G1 ++ G2 ++ []) /\ Below w.heap.size w W' := fun W' hT =>
    ⟨aj.frame eU (fun b hb => hT.block b (aj.lt eU b hb) (fun h => by simp at h; have := cm b hb; omega)), hb3.trans (hT.below (fun k hk => by simp at hk; omega) hb3.size)⟩
   have HKEY := Hm hkey; have rW := Hm jx; have pW : Hid (∀ b, b ∈ G0 ++ G1 ++ G2 ++ [] -> w.heap.size <= b) := fun b hb => by have := cm b hb; omega
   clear hkey eU jx cm ; obtain ⟨oa, od, og, oh⟩ := dc.c4; obtain ⟨oc, mz, nL, ol⟩ := dc.f4; go_wp2_with fail; obtain ⟨h1, h3⟩ := HKEY.out _ (show aw [w.heap.size + 1] w3 ((((w3.setCell ⟨w.heap.size + 1, 0, none⟩ (.slice q0 m.aa.length p0)).setCell ⟨w.heap.size + 1, 1, none⟩ (.slice q1 m.ae.length p1)).setCell ⟨w.heap.size + 1, 2, none⟩ (.slice q2 m.ag.length p2)).setCell ⟨w.heap.size + 1, 3, none⟩ (.int .i64 m.ah)) from bE _ _ _ _ _ _); exact bodyPost_ret (v := .tuple #[.agg #[.slice q0 m.aa.length p0, .slice q1 m.ae.length p1, .slice q2 m.ag.length p2, .int .i64 m.ah], .int .i64 3]) (by simp [results, Tryz.results53, go_sem, *]) rfl ⟨[.slice q0 m.aa.length p0, .slice q1 m.ae.length p1, .slice q2 m.ag.length p2, .int .i64 m.ah], _, by rw [QP.out], by rw [HV.out]; exact h1, rW.out, pW.out, h3⟩
  ·have rv : Hid (aS m s = 2) := by show _ = _; rw [xb.out, if_neg hH]
   have OS : Maps.has Dm (kS s) = false := by
    rw [Bool.eq_false_iff]; intro h; obtain ⟨j, hj, _, he⟩ := (Cg.out.2 s).1.1 h; exact hH (nh hj he)
   obtain ⟨N, hN⟩ : ∃ N, N = dV m.ae ⟨s, m.ah⟩ := ⟨_, rfl⟩
   obtain ⟨n, hn⟩ : ∃ n, n = gh m s := ⟨_, rfl⟩
   obtain ⟨kd, Hh⟩ : ∃ kd, kd = { m with ae := N } := ⟨_, rfl⟩
   have hwt := ru (s := s) HK.out Wm.out; rw [<- hN, <- hn] at hwt; have Mi : Hid (aZ { m with ae := N } <= 1048576) := by show _ <= _; omega
   have O3 : Hid (aZ n <= 16777216) := by show _ <= _; omega
   have NI : Hid (N.length <= 1000) := hwt.2.1; have FD : Hid (kr N) := by show kr N; rw [hN]; exact Ed Hi.out
   have HM : Hid (jP (Dm.put (kS s) (.lit (.int .i64 m.ah))) N) := by
    show jP _ N; rw [hN]; exact (jP.Vh rfl Cg.out Hi.out).put ⟨s, m.ah⟩
   have HKW : Hid (aY { m with ae := N } = kd) := by show _ = _; rw [Hh, hN]; exact DJ rv.out
   have HV : Hid (aX m s = dJ m n /\ cK m s = pV n) := by
    refine ⟨?_, ?_⟩
    ·unfold aX dJ; rw [hn, rv.out]; simp
    ·unfold cK pV; rw [hn, rv.out]; simp
   have kn : Hid (n.aa = kd.aa ++ [yN m] /\ n.ae = kd.ae /\ n.ag = kd.ag /\ n.ah = kd.ah + 1 /\ kd.ah = m.ah /\ kd.aa = m.aa /\ n.aa.length = kd.aa.length + 1) := by
    rw [hn, Hh, hN]; refine ⟨rfl, rfl, rfl, rfl, rfl, rfl, ?_⟩; simp [gh]
   have gH : kd.aa.length <= 1000 := by rw [kn.out.2.2.2.2.2.1]; have := eB HK.out; omega
   have qZ : kd.ah <= 1000000 := by rw [kn.out.2.2.2.2.1]; exact ua.next.2
   have Hd : 1 <= kd.ah := by rw [kn.out.2.2.2.2.1]; exact ua.next.1
   have Dp : m.ae.length <= 30 := (eB HK.out).2.2.1; clear hH ua hwt hN hn Hh xb
   go_wp2_with first
    | (at_lookup; refine wpList_lookup_own_ok_int _ rfl _ _ 120 rfl 9 3 .i64 kI Tryz.underlying120 Tryz.underlying3 (jY _) w1.heap.size m.ae.length Dm rfl hown _ _ rfl hkey ?_; intro c hat hwc; clear hat hwc)
    | (at_mapUpdate; refine wpList_mapUpdate_own _ rfl _ _ _ 120 rfl 9 3 kI Tryz.underlying120 _ w1.heap.size m.ae.length _ rfl hown (by unfold maxLen; omega) _ _ _ rfl rfl hkey _ [] (plainElem_int Tryz.underlying3 kX) ?_; intro w3 ek dI; have mY : aw [w1.heap.size] w2 w3 := aw.eZ dI (fun k hk => by cases hk; simp); have jJ := eT.turn mY (by simp; omega); have dc := bZ.turn mY (by simp; omega); have Wn := jJ.cell 0 _ rfl; have Wo := jJ.cell 1 _ rfl; have Wp := jJ.cell 2 _ rfl; have Wq := jJ.cell 3 _ rfl)
   have hb3 : Below w.heap.size w w3 := hb2.trans (mY.below (fun k hk => by simp at hk; omega) hb2.size); clear y0 y1 y2 y3 hown dI Wn Wo Wp Wq; have li := nM _ m w1.heap.size _ _ N w3 (aq.mono (aq.below HR.out hb3) hb3.size) ek HM.out FD.out NI.out Mi.out; rw [HKW.out] at li; clear ek; refine li.mono ?_; clear li; rintro e w4 ⟨Hj, F4, rfl, jc, zF, tD, mX⟩; obtain ⟨d0, e0, d1, e1, d2, e2, G0, G1, G2, rfl, o0, o1, o2, _, rfl⟩ := aC jc; have AP := zF; rw [List.append_nil, List.append_assoc, List.nodup_append] at AP; have Ds := Hm AP; have vO := Hm o1; have zG := Hm o2; have jH : Hid (∀ b, b ∈ G0 ++ G1 ++ G2 ++ [] -> w3.heap.size <= b) := tD; have gZ : Hid (∀ b, b ∈ G0 ++ G1 ++ G2 ++ [] -> b < w4.heap.size) := fun b hb => aj.lt jc b hb
   have hb4 := af hb3 mX; have Ef := jJ.under mX; have lD := dc.under mX; have hl4 := Ef.lt; have Ws := lD.lt; have L9 := mX.size; have hz3 := mY.size; have aby := hb4.size; obtain ⟨Wa, hWa⟩ : ∃ Wa, Wa = w4.alloc (.cells #[.slice d0 kd.aa.length e0, .slice d1 kd.ae.length e1, .slice d2 kd.ag.length e2, .int .i64 kd.ah] 27) := ⟨_, rfl⟩
   obtain ⟨Wx, Ll⟩ : ∃ Wx, Wx = (w4.alloc (.cells #[.slice d0 kd.aa.length e0, .slice d1 kd.ae.length e1, .slice d2 kd.ag.length e2, .int .i64 kd.ah] 27)).alloc (.cells #[.int .i64 m.ah, .slice none 0 0, .int .i64 0] 73) := ⟨_, rfl⟩
   have UA : Wx.heap.size = w4.heap.size + 1 + 1 := by rw [Ll]; simp
   have jL : Below w4.heap.size w4 Wx := by rw [Ll]; exact (rB.alloc rN _).alloc (by simp; try omega) _
   have JP : Bw Wx w4.heap.size 27 [.slice d0 kd.aa.length e0, .slice d1 kd.ae.length e1, .slice d2 kd.ag.length e2, .int .i64 kd.ah] := by rw [Ll]; exact Bw.alloc (Bw.new _ _ _) _
   have cg : Bx Wx (w4.heap.size + 1) [.int .i64 m.ah, .slice none 0 0, .int .i64 0] := by rw [Ll]; have := Bx.new (w4.alloc (.cells #[.slice d0 kd.aa.length e0, .slice d1 kd.ae.length e1, .slice d2 kd.ag.length e2, .int .i64 kd.ah] 27)) [.int .i64 m.ah, .slice none 0 0, .int .i64 0] 73; simpa using this
   have JQ := Ef.under jL; have JR := lD.under jL; have O4 := aF.frame (w' := Wx) aH o0 (fun b hb => jL.block b (gZ.out b (by simp [hb]))); obtain ⟨xs, nJ, cS⟩ := aF.push aH O4 AP.1; have th := Hm cS; have Le := Hm jL
   have hg0 : ∀ k, (Value.slice d0 kd.aa.length e0).ownBlock = some k -> w3.heap.size <= k /\ k < w4.heap.size /\ k ∈ G0 := fun k hk => by
    have O5 := xE O4 k hk; exact ⟨jH.out k (by simp [O5]), gZ.out k (by simp [O5]), O5⟩
   have Ul := Hm hg0; have OC := Hm UA
   have O6 : Hid (∀ (v5 : Value) (w5 : World), w5.ownsRow 0 73 3 v5 (kd.aa.length + 1) (xs ++ [.int .i64 m.ah, .slice none 0 0, .int .i64 0]) -> Wx.grownBy w5 (Value.slice d0 kd.aa.length e0).ownBlock -> (v5.ownBlock = (Value.slice d0 kd.aa.length e0).ownBlock ∨ v5.ownBlock = some Wx.heap.size) ->
     ∃ r5 q5, v5 = .slice r5 (kd.aa.length + 1) q5 /\ Bw w5 w4.heap.size 27 [.slice d0 kd.aa.length e0, .slice d1 kd.ae.length e1, .slice d2 kd.ag.length e2, .int .i64 kd.ah] /\ Bw w5 w.heap.size 27 [.slice a0 m.aa.length c0, .slice a1 m.ae.length c1, .slice a2 m.ag.length c2, .int .i64 m.ah] /\ Bw w5 (w.heap.size + 1) 27 [.slice none 0 0, .slice none 0 0, .slice none 0 0, .int .i64 0] /\ Below w.heap.size w w5 /\
      ∃ F', ba w5 [.slice r5 (kd.aa.length + 1) q5, .slice d1 kd.ae.length e1, .slice d2 kd.ag.length e2, .int .i64 kd.ah] { n with ah := kd.ah } F' /\ F'.Nodup /\ (∀ b, b ∈ F' -> w3.heap.size <= b /\ b ≠ w4.heap.size)) := by
    intro v5 w5 gK fH lh; obtain ⟨r5, q5, rfl⟩ := bk gK; have kR := dE fH
    have hn : ∀ b, b < w3.heap.size ∨ w4.heap.size <= b -> b ∉ (Value.slice d0 kd.aa.length e0).ownBlock.toList := fun b hb h => by
     have := Ul.out b (by simpa using h); omega
    have QQ : Below w3.heap.size Wx w5 := kR.below (fun k hk => (Ul.out k (by simpa using hk)).1) (by omega); obtain ⟨F', p1, p2, p3⟩ := th.out w5 (.slice r5 (kd.aa.length + 1) q5) [.int .i64 m.ah, .slice none 0 0, .int .i64 0] (yN m) [] gK fH lh (Cf kX Wx) List.nodup_nil (fun b hb => by cases hb); refine ⟨r5, q5, rfl, JP.turn kR (hn _ (by omega)), JQ.turn kR (hn _ (by omega)), JR.turn kR (hn _ (by omega)), (af hb4 Le.out).trans (QQ.mono (by omega)), F' ++ G1 ++ G2 ++ [], ?_, ?_, ?_⟩
    ·have m6 : ∀ b, b ∈ G1 ++ G2 -> w5.heap[b]? = w4.heap[b]? := fun b hb => by
      have hb' : b ∈ G0 ++ G1 ++ G2 ++ [] := by simp at hb ⊢; exact .inr hb
      rw [kR.block b (by have := gZ.out b hb'; omega) (fun h => Ds.out.2.2 b (Ul.out b (by simpa using h)).2.2 b hb rfl), Le.out.block b (gZ.out b hb')]
     have t1 := aF.frame (w' := w5) ay vO.out (fun b hb => m6 b (by simp [hb])); have t2 := aF.frame (w' := w5) ay zG.out (fun b hb => m6 b (by simp [hb])); refine ⟨_, F', _, G1, _, G2, rfl, ?_, ?_, ?_, ?_, rfl⟩
     ·rw [kn.out.1]; exact p1
     ·rw [kn.out.2.1]; exact t1
     ·rw [kn.out.2.2.1]; exact t2
     ·rw [kn.out.2.2.2.2.1]; exact kX
    ·rw [List.append_nil, List.append_assoc, List.nodup_append]
     refine ⟨p2, Ds.out.2.1, fun a ha b hb hab => ?_⟩; subst hab; have VA := gZ.out a (by simp at hb ⊢; exact .inr hb); rcases p3 a ha with h | h | h
     ·exact Ds.out.2.2 a h a hb rfl
     ·cases h
     ·omega
    ·intro b hb
     simp at hb; rcases hb with hb | hb
     ·rcases p3 b hb with h | h | h
      ·have h1 := jH.out b (by simp [h]); have h2 := gZ.out b (by simp [h]); omega
      ·cases h
      ·omega
     ·have h1 := jH.out b (by simp; exact .inr hb); have h2 := gZ.out b (by simp; exact .inr hb); omega
   have y3 := Ef.cell 3 _ rfl; clear AP zF tD jc o0 o1 o2 cS hg0 O4 hWa jL UA jJ dc eT bZ JP JQ JR; go_wp2_with (at_builtin; rw [<- Ll]; refine wpList_append_own_at _ rfl _ _ 24 rfl 0 73 iI (.agg #[.int .i64 0, .slice none 0 0, .int .i64 0]) 3 40 Tryz.underlying24 Jm wY wZ xa rfl (by decide) _ _ _ rfl nJ ⟨w4.heap.size + 1, 0, none⟩ 1 1 [.int .i64 m.ah, .slice none 0 0, .int .i64 0] rfl rfl (b8 cg) (by intro u hu; simp at hu; rcases hu with rfl | rfl | rfl <;> rfl) (by unfold maxLen; omega) (by omega) (Nat.zero_le _) ?_; intro v5 w5 gK fH pU lh; obtain ⟨r5, q5, rfl, oo, rX, rY, Br, F5, O7, JS, Lm⟩ := O6.out v5 w5 gK fH lh; clear gK fH lh pU; have R7 := oo.lt; have Wt := rX.lt; have Wu := rY.lt; have x0 := oo.cell 0 _ rfl; have x1 := oo.cell 1 _ rfl; have x2 := oo.cell 2 _ rfl; have x3 := oo.cell 3 _ rfl; have f0 := oo.free 0; have f3 := oo.free 3; have z0 := rX.cell 0 _ rfl; have z1 := rX.cell 1 _ rfl; have z2 := rX.cell 2 _ rfl; have z3 := rX.cell 3 _ rfl); obtain ⟨ws, jh⟩ : ∃ ws, ws = (w5.setCell ⟨w4.heap.size, 0, none⟩ (.slice r5 (kd.aa.length + 1) q5)).setCell ⟨w4.heap.size, 3, none⟩ (.int .i64 (kd.ah + 1)) := ⟨_, rfl⟩
   have jw : aw [w4.heap.size] w5 ws := by rw [jh]; exact aw.setCell (aw.setCell (aw.refl _ _) (by simp) _) (by simp) _
   have Ow : ba ws [.slice r5 (kd.aa.length + 1) q5, .slice d1 kd.ae.length e1, .slice d2 kd.ag.length e2, .int .i64 (kd.ah + 1)] n F5 := by
    have h := aj.frame (w' := ws) O7 (fun b hb => jw.block b (aj.lt O7 b hb) (by intro h; simp at h; exact (Lm b hb).2 h)); obtain ⟨v0, F0, v1, F1, v2, F2, he, h0, h1, h2, h3, h4⟩ := h; simp only [List.cons.injEq] at he; obtain ⟨rfl, rfl, rfl, _⟩ := he; refine ⟨_, F0, _, F1, _, F2, ?_, h0, h1, h2, ?_, h4⟩
    ·rw [kn.out.2.2.2.1]
    ·rw [kn.out.2.2.2.1]; exact WalkArith.wf_i64 (by omega)
   have oT := rX.turn jw (by simp; omega); have jd := rY.turn jw (by simp; omega); have l8 : Below w.heap.size w ws := Br.trans (jw.below (fun k hk => by simp at hk; omega) Br.size); have Wv : ∀ b, b ∈ F5 -> w.heap.size + 2 <= b := fun b hb => by have := (Lm b hb).1; omega
   rw [<- jh]; clear jh jw x0 x1 x2 x3 f0 f3 z0 z1 z2 z3 oo rX rY O7 Lm; have hcon := xB _ r5 d1 d2 q5 e1 e2 m n F5 ws (aq.mono (aq.below HR.out l8) l8.size) HW.out (by rw [kn.out.2.2.2.2.2.2, kn.out.2.1, kn.out.2.2.1, kn.out.2.2.2.1]; exact Ow) JS O3.out; rw [kn.out.2.2.2.2.2.2, kn.out.2.1, kn.out.2.2.1, kn.out.2.2.2.1] at hcon; refine hcon.mono ?_; clear hcon; rintro e w6 ⟨zH, F6, rfl, gL, YI, YJ, eA⟩; have rZ := af l8 eA; have AQ := jd.under eA; have Mj := AQ.lt; have QR := jd.lt; obtain ⟨q0, p0, q1, p1, q2, p2, E0, E1, E2, rfl, _, _, _, _, rfl⟩ := aC gL; have pW : Hid (∀ b, b ∈ E0 ++ E1 ++ E2 ++ [] -> w.heap.size + 2 <= b) := fun b hb => by rcases YJ b hb with h | h; (exact Wv b h); (have := l8.size; omega)
   have NJ : ∀ W', aw [w.heap.size + 1] w6 W' -> ba W' [.slice q0 (dJ m n).aa.length p0, .slice q1 (dJ m n).ae.length p1, .slice q2 (dJ m n).ag.length p2, .int .i64 (dJ m n).ah] (dJ m n) (E0 ++ E1 ++ E2 ++ []) /\ Below w.heap.size w W' := fun W' hT =>
    ⟨aj.frame gL (fun b hb => hT.block b (aj.lt gL b hb) (fun h => by simp at h; have := pW.out b hb; omega)), rZ.trans (hT.below (fun k hk => by simp at hk; omega) rZ.size)⟩
   have HKEY := Hm NJ; have rW := Hm YI; clear NJ gL YI YJ; obtain ⟨oa, od, og, oh⟩ := AQ.c4; obtain ⟨oc, mz, nL, ol⟩ := AQ.f4; go_wp2_with fail; obtain ⟨h1, h3⟩ := HKEY.out _ (show aw [w.heap.size + 1] w6 ((((w6.setCell ⟨w.heap.size + 1, 0, none⟩ (.slice q0 (dJ m n).aa.length p0)).setCell ⟨w.heap.size + 1, 1, none⟩ (.slice q1 (dJ m n).ae.length p1)).setCell ⟨w.heap.size + 1, 2, none⟩ (.slice q2 (dJ m n).ag.length p2)).setCell ⟨w.heap.size + 1, 3, none⟩ (.int .i64 (dJ m n).ah)) from bE _ _ _ _ _ _); exact bodyPost_ret (v := .tuple #[.agg #[.slice q0 (dJ m n).aa.length p0, .slice q1 (dJ m n).ae.length p1, .slice q2 (dJ m n).ag.length p2, .int .i64 (dJ m n).ah], .int .i64 (pV n)]) (by simp [results, Tryz.results53, go_sem, *]) rfl ⟨[.slice q0 (dJ m n).aa.length p0, .slice q1 (dJ m n).ae.length p1, .slice q2 (dJ m n).ag.length p2, .int .i64 (dJ m n).ah], _, by rw [HV.out.2], by rw [HV.out.1]; exact h1, rW.out, fun b hb => by have := pW.out b hb; omega, h3⟩
 ·have hF2 : (bc m && bH s) = false := Bool.eq_false_iff.2 hF
  have xb : Hid (aS m s = 1) := by
   show _ = _; unfold aS; rw [hF2]; rfl
  have yS : Hid (cK m s = 1) := by show _ = _; unfold cK; rw [xb.out]; rfl
  have HV : Hid (aX m s = m) := by show _ = _; unfold aX; rw [xb.out]; simp
  rw [hF2]; clear hF hF2; go_wp2_with fail; refine (cE _ (m) w1 (aq.mono (aq.below HR.out hb1) hb1.size) HW.out).mono ?_; rintro e w2 ⟨uB, F3, rfl, eU, jx, cm, hx2⟩; have hb2 := af hb1 hx2; have bZ := dB.under hx2; have hl2 := bZ.lt; have hz2 := hb1.size; have Sp := dB.lt; obtain ⟨q0, p0, q1, p1, q2, p2, G0, G1, G2, rfl, _, _, _, _, rfl⟩ := aC eU
  have hkey : ∀ W', aw [w.heap.size + 1] w2 W' -> ba W' [.slice q0 m.aa.length p0, .slice q1 m.ae.length p1, .slice q2 m.ag.length p2, .int .i64 m.ah] (m) (G0 ++ G1 ++ G2 ++ []) /\ Below w.heap.size w W' := fun W' hT =>
   ⟨aj.frame eU (fun b hb => hT.block b (aj.lt eU b hb) (fun h => by simp at h; have := cm b hb; omega)), hb2.trans (hT.below (fun k hk => by simp at hk; omega) hb2.size)⟩
  have HKEY := Hm hkey; have rW := Hm jx; have pW : Hid (∀ b, b ∈ G0 ++ G1 ++ G2 ++ [] -> w.heap.size <= b) := fun b hb => by have := cm b hb; omega
  clear hkey eU jx cm ; obtain ⟨oa, od, og, oh⟩ := bZ.c4; obtain ⟨oc, mz, nL, ol⟩ := bZ.f4; go_wp2_with fail; obtain ⟨h1, h3⟩ := HKEY.out _ (show aw [w.heap.size + 1] w2 ((((w2.setCell ⟨w.heap.size + 1, 0, none⟩ (.slice q0 m.aa.length p0)).setCell ⟨w.heap.size + 1, 1, none⟩ (.slice q1 m.ae.length p1)).setCell ⟨w.heap.size + 1, 2, none⟩ (.slice q2 m.ag.length p2)).setCell ⟨w.heap.size + 1, 3, none⟩ (.int .i64 m.ah)) from bE _ _ _ _ _ _); exact bodyPost_ret (v := .tuple #[.agg #[.slice q0 m.aa.length p0, .slice q1 m.ae.length p1, .slice q2 m.ag.length p2, .int .i64 m.ah], .int .i64 1]) (by simp [results, Tryz.results53, go_sem, *]) rfl ⟨[.slice q0 m.aa.length p0, .slice q1 m.ae.length p1, .slice q2 m.ag.length p2, .int .i64 m.ah], _, by rw [yS.out], by rw [HV.out]; exact h1, rW.out, pW.out, h3⟩
end Go.Proofs.YtcamcgfbljhbhaaGreatDoor

namespace Go.Proofs.YtcamcgfbljhbhaaGreatDoor
open Go.RowKit
theorem mE (cs : List Value) (m : az) (s : ByteArray) (w : World) (hr : bg w.heap.size w cs m) (hw : aZ m <= 1048576) (hs : s.size <= 9223372036854775807) :
  Calls Tryz.prog 70 #[.agg cs.toArray, .string s] w fun e w' => e = .returned (.int .i64 (aS m s)) /\ Below w.heap.size w w' := by
 have hq := hr; obtain ⟨a0, c0, a1, c1, a2, c2, rfl, hI, gf, gT, kX, _⟩ := hq; have hw2 : m.aa.length + aP aJ m.aa + (m.ae.length + aP a7 m.ae) + (m.ag.length + aP a7 m.ag) <= 1048576 := hw; have HW := Hm hw; have HR := Hm hr; have yE := Hm gf; clear hr hI gf gT hw; have t6 := (Below.refl w.heap.size w).alloc rN (.cells #[.slice a0 m.aa.length c0, .slice a1 m.ae.length c1, .slice a2 m.ag.length c2, .int .i64 m.ah] 27); have Mb := fun W (hb : Below w.heap.size w W) => lU _ m W (aq.mono (aq.below HR.out hb) hb.size) HW.out
 go_enter Tryz.func70, Tryz.ntmps70; go_wp2_with fail; refine Calls.mono (Mb _ t6) ?_; rintro e w1 ⟨rfl, hx1⟩; have hb1 := af t6 hx1; have cg := (Bx.new w (cj a0 c0 a1 c1 a2 c2 m) 27).under hx1; have y1 := cg.2 1 _ rfl; clear Mb
 by_cases hD : bc m = true
 ·rw [hD]
  go_wp2_with fail; refine (kG s w1 hs).mono ?_; rintro e w2 ⟨rfl, O8⟩; replace O8 := O8.symm; subst O8
  by_cases hN : bH s = true
  ·rw [hN]
   have qQ := yE.out.2.2.below au hb1
   by_cases hH : hasName m.ae s = true
   ·have HV : Hid (aS m s = 0) := by show aS m s = 0; unfold aS; rw [hD, hN, hH]; rfl
    have hz : (iq m.ae s < 0) = False := eq_false (by unfold iq; rw [hH, if_pos rfl]; omega); go_wp2_with fail; refine (om a1 _ c1 m.ae s w1 w.heap.size rfl (by omega) qQ).mono ?_; rintro e w3 ⟨rfl, hw3⟩; replace hw3 := hw3.symm; subst hw3; generalize iq m.ae s = nz at *; go_wp2_with fail; go_ret; exact ⟨by rw [HV.out]; rfl, hb1⟩
   ·have RR : hasName m.ae s = false := Bool.eq_false_iff.2 hH
    have HV : Hid (aS m s = 2) := by show aS m s = 2; unfold aS; rw [hD, hN, RR]; rfl
    have hz : iq m.ae s < 0 := by unfold iq; rw [RR]; simp
    go_wp2_with fail; refine (om a1 _ c1 m.ae s w1 w.heap.size rfl (by omega) qQ).mono ?_; rintro e w3 ⟨rfl, hw3⟩; replace hw3 := hw3.symm; subst hw3; generalize iq m.ae s = nz at *; go_wp2_with fail; go_ret; exact ⟨by rw [HV.out]; rfl, hb1⟩
  ·have nW : bH s = false := Bool.eq_false_iff.2 hN
   have HV : Hid (aS m s = 1) := by show aS m s = 1; unfold aS; rw [hD, nW]; rfl
   rw [nW]; go_wp2_with fail; go_ret; exact ⟨by rw [HV.out]; rfl, hb1⟩
 ·have Bt : bc m = false := Bool.eq_false_iff.2 hD
  have HV : Hid (aS m s = 1) := by show aS m s = 1; unfold aS; rw [Bt]; rfl
  rw [Bt]; go_wp2_with fail; go_ret; exact ⟨by rw [HV.out]; rfl, hb1⟩
end Go.Proofs.YtcamcgfbljhbhaaGreatDoor
