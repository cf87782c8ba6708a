/-
  The draw of PutText.
-/
import Derived.Test.YtconfeecfgdopaaDraws
namespace Go.Proofs.Ytconfeecfgdopaa
open Go.RowKit

theorem conv_own {w : World} {base e : Nat} {v : Value} {bs : List Int} (h : w.ownsRow base e 1 v bs.length (bs.map (Value.int .u8))) :
    (convert 22 9 v).run Try.prog w = .ok (.string (strOfNums bs)) w := by
  obtain ⟨a, c, rfl, _, hr⟩ := own_rd rfl h
  cases a with
  | none =>
    have hz : bs = [] := by
      cases bs with
      | nil => rfl
      | cons z r =>
        obtain ⟨_, _, h, _⟩ := hr 0 (by simp)
        cases h
    subst hz
    exact run_convert_bytes_nil w 22 5 Try.underlying22 Try.underlying5 _ _ 9 Try.underlying9
  | some ad =>
    rcases h.2 with ⟨h', _⟩ | ⟨g, cap, cur, h', _⟩
    · simp at h'
    · simp only [Value.slice.injEq, Option.some.injEq, true_and] at h'
      obtain ⟨rfl, rfl⟩ := h'
      exact run_convert_bytes_arg w 22 5 Try.underlying22 Try.underlying5 g 0 bs.length c bs rfl (fun i hi => by
        obtain ⟨b', o', e', _, hc⟩ := hr i hi
        simp only [Option.some.injEq, Addr.mk.injEq, and_true] at e'
        obtain ⟨rfl, rfl⟩ := e'
        exact hc) 9 Try.underlying9

set_option maxRecDepth 100000 in
set_option maxHeartbeats 400000 in
theorem drawPutText_any (a : Option Addr) (n cap : Nat) (zs : List Int) (w : World) (hx : zs.length = n) (hlen : n ≤ 140737488351232) (hr : Rd .u8 w.heap.size w a zs) :
    Calls Try.prog 12 #[.slice a n cap] w fun e w' => ∃ (v : Value) (bs ts : List Int), e = .returned (.tuple #[v, .string (strOfNums ts)]) ∧ bs.length ≤ 9 ∧ BytesOk bs ∧ ts.length ≤ 9 ∧ BytesOk ts ∧
      w'.ownsRow w.heap.size 5 1 v bs.length (bs.map (Value.int .u8)) ∧ Below w.heap.size w w' := by
  go_enter Try.func12, Try.ntmps12
  go_wp2_with fail
  refine (l1New_any a n cap zs _ hx hlen (by exact hr)).mono ?_
  rintro e w1 ⟨rfl, hc1, hb1⟩
  have hgl := hc1.lt
  go_wp2_with fail
  go_region_with (go_at_call 24; refine (l1Some_ok (by assumption)).mono ?_; rintro e w2 ⟨v2, rfl, bs, hbl, hbo, hown, hc2, hg2⟩; have hcv := conv_own hown)
  rename_i wA vA bA hblA hboA hownA hcA hgA hcvA
  have hb2 : Below w.heap.size w wA := hb1.drew.grown hgA hb1.size (fun k h => by simp at h; omega)
  have hownB := hownA.kept hg2 (own_not hownA (by simpa using hgl))
  have hb3 : Below w.heap.size w w2 := hb2.grown hg2 hb2.size (fun k h => by simp at h; omega)
  have hfin := own_base (base' := w.heap.size) hownB (by simpa using hb1.size)
  clear hcvA hcv hc2 hcA hgA hg2 hown hownA hownB hb2
  go_wp2_with fail
  go_ret2
  exact ⟨vA, bA, bs, rfl, hblA, hboA, hbl, hbo, hfin, hb3⟩

end Go.Proofs.Ytconfeecfgdopaa
