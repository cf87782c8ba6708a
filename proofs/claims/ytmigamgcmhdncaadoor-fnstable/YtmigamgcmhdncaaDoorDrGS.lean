/-
  The draw of a full graph: twelve dots, each with deps among them.
-/
import Derived.Test.YtmigamgcmhdncaaDoorDrGD
import Derived.Test.YtmigamgcmhdncaaDoorFulP
namespace Go.Proofs.YtmigamgcmhdncaaDoor
open Go.RowKit
set_option linter.unusedVariables false
set_option linter.unusedSimpArgs false
set_option maxRecDepth 10000

/-- What the draw of a full graph answers. -/
def GraphFull (w : World) (g : Nat) (e : Ending) (w' : World) : Prop :=
  ∃ (cs : List Value) (m : MGraph), e = .returned (.agg cs.toArray) ∧ OutG w.heap.size w' cs m ∧ FulSt m 12 ∧ CurOk w' g ∧ w.grownBy w' (some g)

set_option maxHeartbeats 4000000 in
theorem l8Full_full {g : Nat} {w : World} (hc : CurOk w g) :
    Calls Tryd.prog 58 #[.pointer (some ⟨g, 0, none⟩)] w fun e w' => GraphFull w g e w' := by
  obtain ⟨iT, hiT, hz0, hz1, hz2⟩ := info_parts Tryd.infoOfDot
  have hgl := hc.lt
  obtain ⟨wq, hwq⟩ : ∃ x, x = (w.alloc (.cells #[.slice none 0 0] 30)).alloc (.cells #[.slice none 0 0] 30) := ⟨_, rfl⟩
  have HS0 : Hid (DrSt w g ⟨[]⟩ none 0 wq) := by
    unfold Hid; rw [hwq]
    exact ⟨(Bw.new _ _ _).alloc _, Bw.new' _ _ _ (by simp), OutG.mk' (.inl ⟨rfl, rfl, rfl⟩) List.nodup_nil (fun b hb => by cases hb), graphP_nil, (hc.alloc _).alloc _, grown_alloc (World.grownBy_alloc _ _ _) _, by simp, hgl⟩
  go_enter Tryd.func58, Tryd.ntmps58
  go_wp2_with (rw [← hwq])
  refine (l1Below_ok _ HS0.out.c).mono ?_
  rintro e w1 ⟨x, rfl, hx, hc1, hg1⟩
  have HS1 := Hid.mk (HS0.out.cursor hc1 hg1)
  have hxb : 0 ≤ x ∧ x < 6 := by omega
  clear hwq HS0 hx hc1 hg1 hc
  go_wp2_with fail
  obtain ⟨kk, hkk⟩ : ∃ z, z = 2 + x := ⟨_, rfl⟩
  rw [← hkk]
  clear hkk hxb
  go_loopw [5] (fun i wr => ∃ (p : Nat) (m : MGraph) (a : Option Addr) (c : Nat), i = .int .i64 p ∧ (1 ≤ p ∧ p ≤ 4) ∧ Hid (DrSt w g m a c wr) ∧ Hid (FulSt m (4 * (p - 1)))) (fun i _ => 4 - (intOf i).toNat)
  case atStart => exact ⟨1, _, _, _, rfl, by omega, HS1, Hid.mk FulSt.nil⟩
  case round =>
   clear HS1
   obtain ⟨p, m, a, c, rfl, hp, HS, HFO⟩ := hrel
   by_cases hp4 : p < 4
   · have hdp : decide ((p : Int) < 4) = true := decide_eq_true (by omega)
     go_wp2_with fail
     clear hdp
     go_loopw [6] (fun i wr => ∃ (k : Nat) (m : MGraph) (a : Option Addr) (c : Nat), i = .int .i64 k ∧ (1 ≤ k ∧ k ≤ 5) ∧ Hid (DrSt w g m a c wr) ∧ Hid (FulSt m (4 * (p - 1) + (k - 1)))) (fun i _ => 5 - (intOf i).toNat)
     case atStart => exact ⟨1, _, _, _, rfl, by omega, HS, HFO⟩
     case round =>
      clear HS HFO
      obtain ⟨k, m, a, c, rfl, hk, HS1, HFU⟩ := hrel
      by_cases hk5 : k < 5
      · obtain ⟨w1, hw1⟩ : ∃ z, z = wr := ⟨_, rfl⟩
        subst hw1
        have hdk : decide ((k : Int) < 5) = true := decide_eq_true (by omega)
        have hzz := HS1.out.z
        obtain ⟨w2, hw2⟩ : ∃ z, z = w1.alloc (.cells #[.int .i64 (p : Int), .int .i64 (k : Int), .slice none 0 0] 52) := ⟨_, rfl⟩
        have HI0 : Hid (ItSt g w1 (p : Int) (k : Int) (.slice none 0 0) [] [] w2) := by
          unfold Hid; rw [hw2]
          exact ⟨Bw.new _ _ _, .inl ⟨rfl, rfl, rfl⟩, List.nodup_nil, (fun b hb => by cases hb), HS1.out.c.alloc _, World.grownBy_alloc _ _ _, by omega⟩
        go_wp2_with (rw [← hw2])
        clear hw2
        go_loopw [8] (fun i wr => ∃ (r : Nat) (a1 : Option Addr) (c1 : Nat) (l : List MDot) (F : List Nat), i = .int .i64 r ∧ (1 ≤ r ∧ r ≤ 4 ∧ l.length ≤ 4 * (r - 1)) ∧ Hid (ItSt g w1 (p : Int) (k : Int) (.slice a1 l.length c1) l F wr) ∧ Hid (DepSt l ⟨(p : Int), (k : Int)⟩ (4 * (r - 1)))) (fun i _ => 4 - (intOf i).toNat)
        case atStart => exact ⟨1, none, 0, [], [], rfl, by simp, HI0, Hid.mk (DepSt.nil _)⟩
        case round =>
          clear HI0
          obtain ⟨r, a1, c1, l, F, rfl, hr, HI, HDO⟩ := hrel
          by_cases hr4 : r < 4
          · skip
            have hd4 : decide ((r : Int) < 4) = true := decide_eq_true (by omega)
            go_wp2_with fail
            clear hd4
            go_loopw [9] (fun i wr => ∃ (n : Nat) (a2 : Option Addr) (c2 : Nat) (l2 : List MDot) (F2 : List Nat), i = .int .i64 n ∧ (1 ≤ n ∧ n ≤ 5 ∧ l2.length ≤ 4 * (r - 1) + (n - 1)) ∧ Hid (ItSt g w1 (p : Int) (k : Int) (.slice a2 l2.length c2) l2 F2 wr) ∧ Hid (DepSt l2 ⟨(p : Int), (k : Int)⟩ (4 * (r - 1) + (n - 1)))) (fun i _ => 5 - (intOf i).toNat)
            case atStart => exact ⟨1, a1, c1, l, F, rfl, by omega, HI, HDO⟩
            case round =>
              have hr1 := hr.1
              clear HI hr HDO
              obtain ⟨n, a2, c2, l2, F2, rfl, hn, HI, HDE⟩ := hrel
              have hgI := HI.out.lt
              by_cases hn6 : n < 5
              · obtain ⟨w2, hw2⟩ : ∃ z, z = wr.alloc (.cells #[.int .i64 r, .int .i64 n] 40) := ⟨_, rfl⟩
                have HI2 : Hid (ItSt g w1 (p : Int) (k : Int) (.slice a2 l2.length c2) l2 F2 w2) := by unfold Hid; rw [hw2]; exact HI.out.alloc _
                have hbd : Bw w2 wr.heap.size 40 [.int .i64 r, .int .i64 n] := by rw [hw2]; exact Bw.new _ _ _
                have hgr := HI.out.b.lt
                have d0 := hbd.cell 0 _ rfl
                have d1 := hbd.cell 1 _ rfl
                have q0 := HI.out.b.cell 0 _ rfl
                have q1 := HI.out.b.cell 1 _ rfl
                have hne : ¬ w1.heap.size = wr.heap.size := by omega
                have hne2 : ¬ wr.heap.size = w1.heap.size := by omega
                have HDM : Hid (DepSt l2 ⟨(p : Int), (k : Int)⟩ (4 * (r - 1) + (n + 1 - 1))) := HDE.out.more (by omega)
                have HN : Hid (oDot w2 [.int .i64 r, .int .i64 n] ⟨r, n⟩ []) := ⟨rfl, wf_seven (by show (0 : Int) ≤ r; omega) (by show (r : Int) < 7; omega), wf_seven (by show (0 : Int) ≤ n; omega) (by show (n : Int) < 7; omega), rfl⟩
                clear HI
                by_cases he : (r : Int) = (p : Int) ∧ (n : Int) = (k : Int)
                · obtain ⟨he1, he2⟩ := he
                  rw [← he1] at q0
                  rw [← he2] at q1
                  go_wp2_with (rw [← hw2])
                  rw [← show w2 = wr.alloc (.cells #[.int .i64 (p : Int), .int .i64 (k : Int)] 40) by rw [hw2, he1, he2]]
                  exact ⟨⟨n + 1, a2, c2, l2, F2, by rw [← he2]; go_num, by omega, HI2, HDM⟩, by rw [← he2]; simp [intOf]; omega⟩
                · have he1 : (r : Int) ≠ (p : Int) ∨ (n : Int) ≠ (k : Int) := by omega
                  clear he
                  rcases he1 with he1 | he1
                  · have hf1 : decide ((r : Int) = (p : Int)) = false := decide_eq_false he1
                    have hf2 : ¬ r = p := by omega
                    have hf3 : decide (r = p) = false := decide_eq_false hf2
                    go_wp2_with (rw [← hw2])
                    refine (l1Once_ok _ HI2.out.c).mono ?_
                    rintro e w3 ⟨b, rfl, hc3, hg3⟩
                    have HI3 := Hid.mk (HI2.out.cursor hc3 hg3)
                    have hbd3 := hbd.grown hg3 (by simp; omega)
                    clear hw2 d0 d1 q0 q1 hne hne2 hbd hc3 hg3 HI2
                    cases b with
                    | false =>
                      go_wp2_with fail
                      exact ⟨⟨n + 1, a2, c2, l2, F2, by go_num, by omega, HI3, HDM⟩, by simp [intOf]; omega⟩
                    | true =>
                      have d0 := hbd3.cell 0 _ rfl
                      have d1 := hbd3.cell 1 _ rfl
                      have q2 := HI3.out.b.cell 2 _ rfl
                      obtain ⟨w4, hw4⟩ : ∃ z, z = w3.alloc (.cells #[.int .i64 r, .int .i64 n] 40) := ⟨_, rfl⟩
                      have HI4 : Hid (ItSt g w1 (p : Int) (k : Int) (.slice a2 l2.length c2) l2 F2 w4) := by unfold Hid; rw [hw4]; exact HI3.out.alloc _
                      have hbx4 : Bx w4 w3.heap.size [.int .i64 r, .int .i64 n] := by rw [hw4]; exact Bx.new _ _ _
                      obtain ⟨rs, hrs, hnext⟩ := HI4.out.app
                      have HNX := Hid.mk hnext
                      have HDA : Hid (DepSt (l2 ++ [(⟨r, n⟩ : MDot)]) ⟨(p : Int), (k : Int)⟩ (4 * (r - 1) + (n + 1 - 1))) := by
                        have h9 := HDE.out.app (d := ⟨r, n⟩) (fullD_at hr1 hn.1 (by omega)) (fun e9 => by simp only [MDot.mk.injEq] at e9; omega)
                        have e8 : 4 * (r - 1) + (n - 1) + 1 = 4 * (r - 1) + (n + 1 - 1) := by omega
                        rw [e8] at h9
                        exact h9
                      clear hnext
                      go_wp2_with (at_builtin; rw [← hw4]; refine wpList_append_src_y rfl _ _ 26 26 rfl 0 40 iT (.agg #[.int .i64 0, .int .i64 0]) 2 16 Tryd.underlying26 hiT hz0 hz1 hz2 rfl _ _ _ rfl hrs _ rfl 1 _ (Src.ofSlice w4 Tryd.underlying26 ⟨w3.heap.size, 0, none⟩ 1 1 _ rfl (bx_news hbx4) (by intro u hu; simp at hu; rcases hu with rfl | rfl <;> rfl)) (by unfold maxLen; omega) (by omega) (Nat.zero_le _) ?_; intro v5 w5 ho5 hgr5 hat5; obtain ⟨F5, hI5, hb5⟩ := HNX.out w5 v5 _ ⟨r, n⟩ ho5 hgr5 hat5 ⟨rfl, HN.out.2.1, HN.out.2.2.1, rfl⟩; obtain ⟨a5, c5, rfl, _⟩ := id (ownS.read oDot_good hI5.o); have HI5 := Hid.mk hI5; have HL5 : Hid ((l2 ++ [(⟨r, n⟩ : MDot)]).length = l2.length + 1) := (by unfold Hid; simp); have q3 := hb5.cell 2 _ rfl; have q4 := hb5.free 2; have q5 := hb5.lt; generalize l2 ++ [(⟨r, n⟩ : MDot)] = l5 at *; clear hI5 hb5 HNX ho5 hgr5 hat5)
                      exact ⟨⟨n + 1, a5, c5, l5, F5, by go_num, by have h9 := HL5.out; omega, HI5, HDA⟩, by simp [intOf]; omega⟩
                  · have hf1 : decide ((n : Int) = (k : Int)) = false := decide_eq_false he1
                    have hf2 : ¬ n = k := by omega
                    have hf3 : decide (n = k) = false := decide_eq_false hf2
                    go_wp2_with (rw [← hw2])
                    refine (l1Once_ok _ HI2.out.c).mono ?_
                    rintro e w3 ⟨b, rfl, hc3, hg3⟩
                    have HI3 := Hid.mk (HI2.out.cursor hc3 hg3)
                    have hbd3 := hbd.grown hg3 (by simp; omega)
                    clear hw2 d0 d1 q0 q1 hne hne2 hbd hc3 hg3 HI2
                    cases b with
                    | false =>
                      go_wp2_with fail
                      exact ⟨⟨n + 1, a2, c2, l2, F2, by go_num, by omega, HI3, HDM⟩, by simp [intOf]; omega⟩
                    | true =>
                      have d0 := hbd3.cell 0 _ rfl
                      have d1 := hbd3.cell 1 _ rfl
                      have q2 := HI3.out.b.cell 2 _ rfl
                      obtain ⟨w4, hw4⟩ : ∃ z, z = w3.alloc (.cells #[.int .i64 r, .int .i64 n] 40) := ⟨_, rfl⟩
                      have HI4 : Hid (ItSt g w1 (p : Int) (k : Int) (.slice a2 l2.length c2) l2 F2 w4) := by unfold Hid; rw [hw4]; exact HI3.out.alloc _
                      have hbx4 : Bx w4 w3.heap.size [.int .i64 r, .int .i64 n] := by rw [hw4]; exact Bx.new _ _ _
                      obtain ⟨rs, hrs, hnext⟩ := HI4.out.app
                      have HNX := Hid.mk hnext
                      have HDA : Hid (DepSt (l2 ++ [(⟨r, n⟩ : MDot)]) ⟨(p : Int), (k : Int)⟩ (4 * (r - 1) + (n + 1 - 1))) := by
                        have h9 := HDE.out.app (d := ⟨r, n⟩) (fullD_at hr1 hn.1 (by omega)) (fun e9 => by simp only [MDot.mk.injEq] at e9; omega)
                        have e8 : 4 * (r - 1) + (n - 1) + 1 = 4 * (r - 1) + (n + 1 - 1) := by omega
                        rw [e8] at h9
                        exact h9
                      clear hnext
                      go_wp2_with (at_builtin; rw [← hw4]; refine wpList_append_src_y rfl _ _ 26 26 rfl 0 40 iT (.agg #[.int .i64 0, .int .i64 0]) 2 16 Tryd.underlying26 hiT hz0 hz1 hz2 rfl _ _ _ rfl hrs _ rfl 1 _ (Src.ofSlice w4 Tryd.underlying26 ⟨w3.heap.size, 0, none⟩ 1 1 _ rfl (bx_news hbx4) (by intro u hu; simp at hu; rcases hu with rfl | rfl <;> rfl)) (by unfold maxLen; omega) (by omega) (Nat.zero_le _) ?_; intro v5 w5 ho5 hgr5 hat5; obtain ⟨F5, hI5, hb5⟩ := HNX.out w5 v5 _ ⟨r, n⟩ ho5 hgr5 hat5 ⟨rfl, HN.out.2.1, HN.out.2.2.1, rfl⟩; obtain ⟨a5, c5, rfl, _⟩ := id (ownS.read oDot_good hI5.o); have HI5 := Hid.mk hI5; have HL5 : Hid ((l2 ++ [(⟨r, n⟩ : MDot)]).length = l2.length + 1) := (by unfold Hid; simp); have q3 := hb5.cell 2 _ rfl; have q4 := hb5.free 2; have q5 := hb5.lt; generalize l2 ++ [(⟨r, n⟩ : MDot)] = l5 at *; clear hI5 hb5 HNX ho5 hgr5 hat5)
                      exact ⟨⟨n + 1, a5, c5, l5, F5, by go_num, by have h9 := HL5.out; omega, HI5, HDA⟩, by simp [intOf]; omega⟩
              · have hn5 : n = 5 := by omega
                subst hn5
                go_wp2_with fail
                go_roundw
                case rel => exact ⟨r + 1, a2, c2, l2, F2, by go_num, by omega, HI, HDE.out.more (by omega)⟩
                case measure => simp [intOf]; omega
          · have hr5 : r = 4 := by omega
            subst hr5
            have q0 := HI.out.b.cell 0 _ rfl
            have q1 := HI.out.b.cell 1 _ rfl
            have q2 := HI.out.b.cell 2 _ rfl
            have HD := Hid.mk (HS1.out.cursor HI.out.c HI.out.k)
            have q3 := HD.out.v.cell 0 _ rfl
            have HO := Hid.mk HD.out.o.read
            have HR : Hid (rItem wr.heap.size wr [.int .i64 (p : Int), .int .i64 (k : Int), .slice a1 l.length c1] ⟨⟨(p : Int), (k : Int)⟩, l⟩) := by
              obtain ⟨a9, c9, he9, hL9⟩ := ownS.read oDot_good HI.out.o
              simp only [Value.slice.injEq, true_and] at he9
              obtain ⟨rfl, rfl⟩ := he9
              exact ⟨_, _, rfl, wf_seven (by show 0 ≤ (p : Int); omega) (by show (p : Int) < 7; omega), wf_seven (by show 0 ≤ (k : Int); omega) (by show (k : Int) < 7; omega), hL9, trivial⟩
            have HW : Hid (wItem ⟨⟨(p : Int), (k : Int)⟩, l⟩ ≤ 1048576) := by
              have h6 : sumW wDot l ≤ l.length * 0 := sumW_all (fun y _ => Nat.le_refl 0)
              show l.length + sumW wDot l ≤ 1048576
              omega
            go_wp2_with fail
            refine (specGraphPut_o [.slice a m.fItems.length c] m [.int .i64 (p : Int), .int .i64 (k : Int), .slice a1 l.length c1] ⟨⟨(p : Int), (k : Int)⟩, l⟩ wr HO.out HR.out (Nat.le_trans (graphP_w HD.out.p) (by omega)) HW.out).mono ?_
            rintro e w5 ⟨cs5, rfl, ho5, hb5⟩
            obtain ⟨a5, c5, rfl⟩ := ho5.shape
            have HO5 := Hid.mk ho5
            have HF5 : Hid (FulSt (putG m ⟨⟨(p : Int), (k : Int)⟩, l⟩) (4 * (p - 1) + (k + 1 - 1))) := by
              have h9 := HFU.out.put (own := ⟨(p : Int), (k : Int)⟩) (l := l) (by omega) (fullD_at (by omega) (by omega) (by omega)) HDO.out (by omega)
              have e8 : 4 * (p - 1) + (k - 1) + 1 = 4 * (p - 1) + (k + 1 - 1) := by omega
              rw [e8] at h9
              exact h9
            have HP5 : Hid (graphP (putG m ⟨⟨(p : Int), (k : Int)⟩, l⟩) = true) := graphP_put HD.out.p
            have hv5 := HD.out.v.under hb5
            have hr5 := HD.out.r.under hb5
            have hc5 : CurOk w5 g := HD.out.c.below hb5
            have hk5 : w.grownBy w5 (some g) := grown_trans HD.out.k (grown_of_below hb5 _)
            have hz5 : w.heap.size + 1 + 1 ≤ w5.heap.size := Nat.le_trans HD.out.z hb5.size
            have hzr := HD.out.z
            have q4 := hv5.cell 0 _ rfl
            have q5 := hv5.free 0
            have q6 := hv5.lt
            have HD6 : Hid (DrSt w g (putG m ⟨⟨(p : Int), (k : Int)⟩, l⟩) a5 c5 (w5.setCell ⟨w.heap.size + 1, 0, none⟩ (.slice a5 (putG m ⟨⟨(p : Int), (k : Int)⟩, l⟩).fItems.length c5))) :=
              ⟨hr5.other' (by omega), hv5.put 0 _, (HO5.out.mono (by omega)).keep (fun b hB _ => heap_setCell_other w5 ⟨w.heap.size + 1, 0, none⟩ b _ (by show b ≠ w.heap.size + 1; omega)), HP5.out, hc5.setCell (p := ⟨w.heap.size + 1, 0, none⟩) (by show g < w.heap.size + 1; omega) _, grown_setCell hk5 (p := ⟨w.heap.size + 1, 0, none⟩) (by show w.heap.size ≤ w.heap.size + 1; omega) _, by simpa [World.setCell] using hz5, hgl⟩
            generalize putG m ⟨⟨(p : Int), (k : Int)⟩, l⟩ = m6 at *
            clear q0 q1 q2 q3 ho5 hb5 hv5 hr5 hc5 hk5 HO HR HW HI HS1
            go_wp2_with fail
            go_roundw
            case rel => exact ⟨k + 1, m6, a5, c5, by go_num, by omega, HD6, HF5⟩
            case measure => simp [intOf]; omega
      · have hk6 : k = 5 := by omega
        subst hk6
        go_wp2_with fail
        go_roundw
        case rel => exact ⟨p + 1, m, a, c, by go_num, by omega, HS1, (show 4 * (p - 1) + (5 - 1) = 4 * (p + 1 - 1) by omega) ▸ HFU⟩
        case measure => simp [intOf]; omega
   · have hp5 : p = 4 := by omega
     subst hp5
     clear hp
     have q0 := HS.out.v.cell 0 _ rfl
     have q1 := HS.out.r.cell 0 _ rfl
     have q2 := HS.out.r.free 0
     have q3 := HS.out.r.lt
     go_wp2_with fail
     refine bodyPost_ret (v := .agg #[.slice a m.fItems.length c]) (by simp [results, Tryd.results58, go_sem, *]) rfl (show GraphFull w g _ _ from ⟨[.slice a m.fItems.length c], m, rfl, ?_, HFO.out, ?_, ?_⟩)
     · exact (HS.out.o.keep (fun b hB _ => heap_setCell_other wr ⟨w.heap.size, 0, none⟩ b _ (by show b ≠ w.heap.size; omega))).mono (by omega)
     · exact HS.out.c.setCell (p := ⟨w.heap.size, 0, none⟩) hgl _
     · exact grown_setCell HS.out.k (p := ⟨w.heap.size, 0, none⟩) (Nat.le_refl _) _

end Go.Proofs.YtmigamgcmhdncaaDoor
