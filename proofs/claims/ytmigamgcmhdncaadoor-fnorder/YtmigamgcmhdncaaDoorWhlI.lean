/-
  What is whole: the program's answer is the specification's.
-/
import Derived.Test.YtmigamgcmhdncaaDoorDotSrn
import Derived.Test.YtmigamgcmhdncaaDoorWhlP
namespace Go.Proofs.YtmigamgcmhdncaaDoor
open Go.RowKit Go.Shelf Go.Lib Go.Sort
set_option linter.unusedVariables false
set_option linter.unusedSimpArgs false
set_option maxRecDepth 10000

set_option maxHeartbeats 8000000 in
theorem implWhole_any (cs : List Value) (m : MGraph) (w : World) (hr : rGraph w.heap.size w cs m) (hw : wGraph m ≤ 1048576) (hT : TzAt w) :
    Calls Tryd.prog 12 #[.agg cs.toArray] w fun e w' => ∃ (v : Value) (L : List MDot), e = .returned v ∧ WholeL m L ∧ RowR 2 40 rDot w.heap.size w' w.heap.size v L ∧ Below w.heap.size w w' := by
  obtain ⟨iD, hiD, hzD0, hzD1, hzD2⟩ := info_parts Tryd.infoOfDot
  have HRG := Hid.mk hr
  have HWG := Hid.mk hw
  have HTZ := Hid.mk hT
  obtain ⟨a, cap, rfl, hL, _⟩ := hr
  obtain ⟨n, hx⟩ : ∃ n, n = m.fItems.length := ⟨_, rfl⟩
  rw [← hx] at HRG ⊢
  clear hL hx hw hT
  go_enter Tryd.func12, Tryd.ntmps12
  go_wp2_with fail
  obtain ⟨w1, hw1⟩ : ∃ x, x = w.alloc (.cells #[.slice a n cap] 30) := ⟨_, rfl⟩
  have hb01 : Below w.heap.size w w1 := by rw [hw1]; exact (Below.refl _ _).alloc (Nat.le_refl _) _
  have hbx1 : Bx w1 w.heap.size [.slice a n cap] := by rw [hw1]; exact Bx.new _ _ _
  rw [← hw1]
  clear hw1
  refine (groupsOf_any [.slice a n cap] m w1 (rGraph_good.mono (rGraph_good.below HRG.out hb01) hb01.size) HWG.out (HTZ.out.below hb01)).mono ?_
  rintro e w2 ⟨v, gs, rfl, hGL, hRow, hx2⟩
  have hb02 := bthen hb01 hx2
  have hbx2 := hbx1.under hx2
  obtain ⟨L, hWL, hPerm, hUp, hLen⟩ := whole_of hGL
  obtain ⟨hgc, hgn⟩ := groups_count hGL
  have HWL := Hid.mk (And.intro hWL (And.intro hPerm hUp))
  have HLEN : Hid (∀ k, k ≤ gs.length → (catG m.fItems (gs.take k)).length ≤ 10000) := fun k hk => by
    by_cases h0 : 0 < gs.length
    · have h1 := catG_len (hgn h0) (gs.take k)
      rw [List.length_take] at h1
      omega
    · have e : gs = [] := List.eq_nil_of_length_eq_zero (by omega)
      subst e; simp [catG]
  have HGN := Hid.mk hgn
  have h1s : w1.heap.size ≤ w2.heap.size := hx2.size
  obtain ⟨ag, cg, hv, hLeaf⟩ := RowR.leaf rGrp_good hRow h1s
  subst hv
  have HLeaf := Hid.mk hLeaf
  obtain ⟨ng, hng⟩ : ∃ q, q = gs.length := ⟨_, rfl⟩
  rw [← hng] at hgc ⊢
  have HNG := Hid.mk hng
  have hs2 : w.heap.size < w2.heap.size := hbx2.1
  clear hWL hPerm hUp hLen hgn hRow hLeaf hGL hng hx2 hbx1
  go_wp2_with fail
  go_loopw [3, 9] (fun v iv wr => ∃ k : Nat, k ≤ ng ∧ iv = .int .i64 k ∧ Hid (RowR 2 40 rDot w.heap.size wr w2.heap.size v (catG m.fItems (gs.take k))) ∧ Below w2.heap.size w2 wr) (fun _ iv _ => ng - (intOf iv).toNat)
  case atStart => exact ⟨0, Nat.zero_le _, rfl, Hid.mk RowR.start, Below.refl _ _⟩
  case round =>
    obtain ⟨k, hk, rfl, HRk, hbk⟩ := hrel
    have hbw : Below w.heap.size w wr := bthen hb02 hbk
    have hbx := hbx2.under hbk
    have v0 := hbx.2 0 _ rfl
    have hzk : w2.heap.size ≤ wr.heap.size := hbk.size
    by_cases hlt : k < ng
    · have hkg : k < gs.length := by rw [← HNG.out]; exact hlt
      obtain ⟨b1, o1, rfl, hB, cs, hcl, hcell, hcs, hom, hon⟩ := (HLeaf.out.2.2.below rGrp_good hbk) k hkg
      subst hcs
      have k0 := hcell 0 _ rfl
      have k1 := hcell 1 _ rfl
      have k2 := hcell 2 _ rfl
      have k3 := hcell 3 _ rfl
      rw [Nat.add_zero] at k0
      have HCT := Hid.mk (catG_take (l := m.fItems) hkg)
      have hlk := HLEN.out k (by omega)
      have hlk1 := HLEN.out (k + 1) (by omega)
      have hnn : m.fItems.length ≤ 100 := HGN.out (by omega)
      generalize gs[k] = g at *
      generalize catG m.fItems (gs.take k) = pl at *
      clear hcell hcl
      obtain ⟨wp, hwp⟩ : ∃ y, y = wr.alloc (.cells #[.int .u64 (g.mem.x0 : Int), .int .u64 (g.mem.x1 : Int), .int .u64 (g.need.x0 : Int), .int .u64 (g.need.x1 : Int)] 68) := ⟨_, rfl⟩
      have hbp : Below wr.heap.size wr wp := by rw [hwp]; exact (Below.refl _ _).alloc (Nat.le_refl _) _
      have hbwp := bthen hbw hbp
      have v1 := ((hbx.under hbp).2 0 _ rfl)
      rw [hwp] at v1
      have hC := dotsAt_any [.slice a n cap] m g.mem wp (rGraph_good.mono (rGraph_good.below HRG.out hbwp) hbwp.size) hom hnn
      rw [show g.mem.cells.toArray = #[.int .u64 (g.mem.x0 : Int), .int .u64 (g.mem.x1 : Int)] from rfl] at hC
      have hk1 : (0 : Int) ≤ (k : Int) := by omega
      have hk2 : (k : Int) < (ng : Int) := by omega
      go_wp2_with fail
      rw [← hwp]
      clear hwp v0 v1 k0 k1 k2 k3
      refine hC.mono ?_
      rintro e w3 ⟨vd, rfl, hRd, hx3⟩
      have hb3 := bthen hbp hx3
      have hpl := pickT_len g.mem.has m.fItems m.fItems.length
      generalize hpk : pickT g.mem.has m.fItems m.fItems.length = pd at *
      obtain ⟨ad, cd, rfl, hLd⟩ := RowR.leaf rDot_good hRd hx3.size
      obtain ⟨css, r1, r2, r3, r4⟩ := RowR.keep rDot_good HRk.out hb3 hbw.size
      obtain ⟨s1, t1, t2, t3, t4⟩ := Src.any oneDot (P := Tryd.prog) (n := pd.length) (c := cd) Tryd.underlying26 rfl hLd.2.2
      have HR1 := Hid.mk r1
      have HR2 := Hid.mk r2
      have HR3 := Hid.mk r3
      have HT1 := Hid.mk t1
      have HT2 := Hid.mk t2
      have HT3 : Hid (∀ j, (h1 : j < pd.length) → (h2 : j < s1.length) → rDot w.heap.size w3 s1[j] pd[j]) := fun j h1 h2 => by have h := t3 j h1 h2; exact ⟨h.1, h.2.1, h.2.2.1, trivial⟩
      have hz3 : wr.heap.size ≤ w3.heap.size := hb3.size
      clear r1 r2 r3 t1 t2 t3 hRd hLd hpk hx3
      go_wp2_with (at_builtin; refine wpList_append_src_y rfl _ _ 26 26 rfl w2.heap.size 40 iD (.agg #[.int .i64 0, .int .i64 0]) 2 16 Tryd.underlying26 hiD hzD0 hzD1 hzD2 rfl _ _ _ rfl r4 _ rfl pd.length s1.flatten t4 (by unfold maxLen; omega) (by omega) (by omega) ?_; intro v6 w6 ho6 hgr6 hat6)
      have hT : Below w2.heap.size w3 w6 := (Below.refl _ _).grown hgr6 (by omega) (fun x hx => (r4.lt x hx).1)
      have HRn : Hid (RowR 2 40 rDot w.heap.size w6 w2.heap.size v6 (pl ++ pd)) := RowR.cat rDot_good HR1.out HR2.out HR3.out HT1.out HT2.out HT3.out (hT.mono (by omega)) ho6
      rw [← HCT.out] at HRn
      exact ⟨⟨k + 1, by omega, by go_num, HRn, (hbk.trans (hb3.mono hzk)).trans hT⟩, by simp [intOf]; omega⟩
    · have hkn : k = gs.length := by rw [← HNG.out]; omega
      have HFin : Hid (RowR 2 40 rDot w.heap.size wr w2.heap.size u3 (catG m.fItems gs)) := by
        have h := HRk.out
        rw [hkn, List.take_length] at h
        exact h
      clear HRk
      by_cases hl0 : (catG m.fItems gs).length = 0
      · have e0 := List.eq_nil_of_length_eq_zero hl0
        have HL0 : Hid (WholeL m []) := by
          have h := HWL.out.2.1
          rw [e0] at h
          have e1 : L = [] := List.nil_perm.1 h
          have h2 := HWL.out.1
          rw [e1] at h2
          exact h2
        rw [e0] at HFin
        obtain ⟨ar, cr, hv, _⟩ := HFin.out.leaf rDot_good hbw.size
        subst hv
        have HRb := Hid.mk (RowR.base HFin.out (show w.heap.size ≤ w2.heap.size by omega))
        simp only [List.length_nil] at *
        go_wp2_with (go_at_call 39; refine (sortNoneD ar cr _ _).mono ?_; rintro e w' ⟨rfl, rfl⟩)
        go_ret
        exact ⟨_, [], rfl, HL0.out, HRb.out, hbw⟩
      · letI := inhD
        obtain ⟨ar, cr, hv, _⟩ := HFin.out.leaf rDot_good hbw.size
        obtain ⟨o, ho⟩ : ∃ o, o = catG m.fItems gs := ⟨_, rfl⟩
        have hol := HLEN.out gs.length (Nat.le_refl _)
        rw [List.take_length] at hol
        rw [← ho] at HFin HWL hl0 hv hol
        clear ho
        have hsh : ∃ g cap, u3 = .slice (some ⟨g, 0, none⟩) o.length cap := by
          obtain ⟨css, r1, r2, r3, r4⟩ := HFin.out
          rcases r4.2 with ⟨_, h0⟩ | ⟨g, cap, cur, h0, _⟩
          · omega
          · exact ⟨g, cap, h0⟩
        obtain ⟨g, cap2, hv2⟩ := hsh
        clear hv
        subst hv2
        obtain ⟨hH, hgl, hgb, cur, hg, hs, hnc, hmx, hxe⟩ := holdsD HFin.out
        have hcon := sortD_any g cap2 o.toArray wr hH hgl (by simp; omega)
        simp only [List.size_toArray] at hcon
        have HCON : Hid (∀ d' : Array MDot, PermIn 0 o.length o.toArray d' → SortedIn (ltOf ordD) 0 o.length d' → d'.toList = L) := fun d' h1 h2 => sorted_up (d := o.toArray) (by simpa using HWL.out.2.1) HWL.out.2.2 (by simpa using h1) (by simpa using h2)
        have HSO : Hid (∀ (d' : Array MDot) (q : Nat) (os : Array Obj), d'.toList = L → RowR 2 40 rDot w.heap.size (sortWorldK encD 2 wr g 0 q d' os) g (.slice (some ⟨g, 0, none⟩) o.length cap2) L ∧ Turn [g] wr (sortWorldK encD 2 wr g 0 q d' os)) := fun d' q os hd => by
          have hlen : L.length = o.length := HWL.out.2.1.length_eq.symm
          have h := sortedD (n := o.length) hg hs hnc hmx d' (by rw [← hlen, ← hd]; simp) (fun x hx => hxe x (HWL.out.2.1.mem_iff.2 (by rw [← hd]; exact hx))) q os w.heap.size
          rw [hd] at h
          exact h
        have hgw : w.heap.size ≤ g := by omega
        clear hH hxe hg hs
        go_wp2_with (go_at_call 39; refine hcon.mono ?_; rintro e w' ⟨rfl, d', q, os, h1, h2, rfl⟩)
        have hd := HCON.out d' h1 h2
        obtain ⟨h3, h4⟩ := HSO.out d' q os hd
        go_ret
        exact ⟨_, L, rfl, HWL.out.1, RowR.base h3 hgw, hbw.trans (h4.below (fun k hk => by simp at hk; omega) hbw.size)⟩

end Go.Proofs.YtmigamgcmhdncaaDoor
