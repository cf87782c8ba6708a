/-
  Whatever the code that it is given, the law of tables answers true: of a table of the pairs drawn from it each key is found as it is, each key with a sign behind it is told to be none, all pairs come back, the filter may have each key and its marks are from 0 to 63, and where a bit is turned ahead of the last four bytes, in a sum or in a body of a frame, TablePairs tells it; there is no condition on the code.
-/
import Derived.Test.YtmedljankefhbaaDoorCards
import Derived.Test.YtmedljankefhbaaDoorTie
import Derived.Test.YtmedljankefhbaaDoorTbf18
import Derived.Test.YtmedljankefhbaaDoorTbf17
import Derived.WalkKit
import Derived.ProofKit
import Derived.OpenShut
import Derived.ShutString
import Derived.ChangeOld
import Derived.Below
import Derived.Lib.LaidTab
import Derived.Lib.LaidIn
import Derived.Lib.LaidU8T
import Derived.Stop.LaidErr
import Derived.Stop.LaidTwo
import Derived.OpenVars
import Derived.Carry
import Derived.Deep.DeepWitnessRowRef
import Derived.Deep.DeepLaidRun
import Derived.Deep.DeepHandedRow
import Derived.WalkSmall
namespace Go.Proofs.YtmedljankefhbaaDoor.fnTables
open Go.ChangeShapes Go.WideShapes Go.ChangeAt Go.RowKit Go.Shelf Go.Stop
open Go.ChangeMaps (open_string shut_string)
set_option linter.unusedVariables false

theorem own : ownKnob Tryd.prog.godebug = none := by kernel_rfl
theorem laidOut : laidOutB Tryd.prog = true := by kernel_rfl
theorem gTab : Tryd.prog.globalNamed "loop.example/g00184/impl.sumTable" = some 2 := by kernel_rfl
theorem gTabType : (Tryd.prog.globals[2]?).map (·.type) = some 94 := by kernel_rfl
theorem cellsArr : Tryd.prog.cellsOf 94 = 16 := by kernel_rfl
theorem cellsElem : Tryd.prog.cellsOf 93 = 1 := by kernel_rfl
def tabL : List Int := [0, 274646895, 549293790, 820201905, 1098587580, 1361435347, 1640403810, 1905808397, 2197175160, 2460548119, 2722870694, 2987750089, 3280807620, 3553878443, 3811616794, 4084100981]
def cells16 : Array Value := (tabL.map fun z => Value.int .u32 z).toArray
abbrev tableH {H : Type} : DataW H := .agg (tabL.map fun z => .lit (.int .u32 z))
def cellsF : Array Value := (Lib.firstTab.map fun z => Value.int .u8 z).toArray
def cellsA : Array Value := ((List.range 16).flatMap fun i => [Value.int .u8 (Lib.accLo i), Value.int .u8 (Lib.accHi i)]).toArray
theorem eqF : (Rows.laid_unicode_utf8_first : DataW Unit) = Lib.firstData := by kernel_rfl
theorem eqA : (Rows.laid_unicode_utf8_acceptRanges : DataW Unit) = Lib.acceptData := by kernel_rfl
theorem met {W : World} (h : laidMetH Tryd.prog Rows.fnTablesRow.laid W) : laidMet Tryd.prog [("unicode/utf8.acceptRanges", Rows.laid_unicode_utf8_acceptRanges), ("loop.example/g00184/impl.sumTable", Rows.laid_loop_example_g00184_impl_sumTable), ("loop.example/g00184/impl.errNoTable", Rows.laid_loop_example_g00184_impl_errNoTable), ("loop.example/g00184/impl.errNoPair", Rows.laid_loop_example_g00184_impl_errNoPair), ("unicode/utf8.first", Rows.laid_unicode_utf8_first)] W := h
theorem tabs {W : World} (h : laidMetH Tryd.prog Rows.fnTablesRow.laid W) : Tabs W := by
  have h0 := met h
  rw [eqF, eqA] at h0
  exact utf8Tabs_of_readsT (U8Types.of260 { layDec with }) ⟨by kernel_rfl, by kernel_rfl, by kernel_rfl, by kernel_rfl, by kernel_rfl, by kernel_rfl, by kernel_rfl⟩ (Lib.laidMet.reads h0 (.tail _ (.tail _ (.tail _ (.tail _ (.head _)))))) (Lib.laidMet.reads h0 (.head _))
theorem table {W : World} (h : laidMetH Tryd.prog Rows.fnTablesRow.laid W) : Lib.TabIs Tryd.prog W "loop.example/g00184/impl.sumTable" .u32 tabL := by
  obtain ⟨g, t, cs, fuel, p, hg, hty, hvar, hd⟩ := Lib.laidMet.reads (met h) (.tail _ (.head _))
  obtain rfl := Option.some.inj (gTab.symm.trans hg)
  obtain rfl := Option.some.inj (gTabType.symm.trans hty)
  have hc := Lib.cells_of_tab (k := .u32) (zs := tabL) Tryd.underlying94 Tryd.underlying93 cellsElem cellsArr hd
  unfold Lib.TabIs
  rw [hvar, ← hc]
theorem reads_table {H : Type} (enc : TypeId × Value → H) (W : World) (sp : Nat → Bool) : DataW.trod enc Tryd.prog W 0 sp true 3 94 cells16.toList = some (tableH, []) := by kernel_rfl
theorem tab_eq : ∀ r : Fin 16, tabL.getD r.val 0 = tabI (r.val : Int) := by decide +kernel
theorem tabAt {W : World} (h : laidMetH Tryd.prog Rows.fnTablesRow.laid W) : TabAt W := fun r hr => by
  have h1 := (table h).cell gTab r hr
  rw [h1, tab_eq ⟨r, hr⟩]

theorem vars_three {H : Type} {enc : TypeId × Value → H} {P : Program} {W : World} {sp : Nat → Bool} {a b c : String} {gs : List (DataW H)} {q : List MemPlace} (h : DataW.TrodVars enc P W sp [a, b, c] gs q) : ∃ d1 d2 d3, gs = [d1, d2, d3] := by
  match gs, h with
  | [], h => exact h.elim
  | [d], h => obtain ⟨_, _, _, _, _, _, _, _, _, _, h2, _⟩ := h; exact h2.elim
  | [d1, d2], h => obtain ⟨_, _, _, _, _, _, _, _, _, _, h2, _⟩ := h; obtain ⟨_, _, _, _, _, _, _, _, _, _, h3, _⟩ := h2; exact h3.elim
  | [d1, d2, d3], _ => exact ⟨d1, d2, d3, rfl⟩
  | d1 :: d2 :: d3 :: d4 :: r, h => obtain ⟨_, _, _, _, _, _, _, _, _, _, h2, _⟩ := h; obtain ⟨_, _, _, _, _, _, _, _, _, _, h3, _⟩ := h2; obtain ⟨_, _, _, _, _, _, _, _, _, _, h4, _⟩ := h3; exact h4.elim
theorem star : "*" ++ "errors.errorString" = "*errors.errorString" := by decide
theorem rowE (u : TypeId) (h : Tryd.prog.typeName? 3 u = some "*errors.errorString") : u = 141 :=
  typeName_ptr_named (nm := "errors.errorString") (by rw [star]; kernel_rfl) (by kernel_rfl) (by decide) u (by rw [star]; exact h)
theorem gErr : Tryd.prog.globalNamed "loop.example/g00184/impl.errNoTable" = some 0 := by kernel_rfl
theorem gPair : Tryd.prog.globalNamed "loop.example/g00184/impl.errNoPair" = some 1 := by kernel_rfl
theorem errAt {W : World} (h : laidMetH Tryd.prog Rows.fnTablesRow.laid W) : ∃ pe q, ErrAt W pe ∧ Err2 W q ∧ q ≠ pe ∧ ErrB W pe ∧ ErrB W q := by
  obtain ⟨a0, a1, s0, s1, c0, c1, t0, t1, hv0, hv1, _, _, _, _, _, _, hne, hb0, hb1⟩ := laid_sentinels2 (laidMet.tail (laidMet.tail (met h))) gErr (ti := 55) (by kernel_rfl) gPair (by kernel_rfl) Tryd.underlying55 rowE Tryd.underlying141 Tryd.underlying164 rfl rfl Tryd.underlying9 (by kernel_rfl) (by kernel_rfl)
  exact ⟨a0, a1, show W.cell? ⟨0, 0, none⟩ = some (.iface 141 (.pointer (some a0))) from by simpa using World.var?_cell gErr hv0 0, show W.cell? ⟨1, 0, none⟩ = some (.iface 141 (.pointer (some a1))) from by simpa using World.var?_cell gPair hv1 0, fun e => hne e.symm, ⟨c0, t0, hb0⟩, ⟨c1, t1, hb1⟩⟩

set_option maxRecDepth 100000 in
theorem contract (H : Type) (enc : TypeId × Value → H) (W : World) (base : Nat) (args : Array Value) (ds gs : List (DataW H)) (before : List MemPlace)
    (hval0 : ∀ (j : Nat) t v, Tryd.f3.params[j]? = some t → args[j]? = some v → Value.okWide Tryd.prog W .any base t v)
    (hW : DataW.Whole enc Tryd.prog Tryd.f3.params.toList Rows.fnTablesSpec.vars false W args.toList ds gs before) (hL : laidMetH Tryd.prog Rows.fnTablesRow.laid W) :
    Calls Tryd.prog 3 args W fun e W' => ∃ v, e = .returned v ∧ Rows.fnTablesSpec.post enc Tryd.prog Tryd.f3 false true false false W args v W' := by
  have hval := hval0
  have hW' := hW
  obtain ⟨p, q, hA0, hV, rfl, hfz, hnd⟩ := hW
  have hA : DataW.TrodAll enc Tryd.prog W 0 (fun _ => true) true Tryd.f3.params.toList args.toList ds p := hA0
  rw [Tryd.params3] at hA hval
  obtain ⟨v0, vs0, d0, ds0, p0, q0, hargs, rfl, rfl, h0, r0x⟩ := trodAll_cons hA
  obtain ⟨rfl, rfl, rfl⟩ := trodAll_nil r0x
  obtain rfl : args = #[v0] := by cases args; simp_all
  obtain ⟨dS, dE, dP, rfl⟩ := vars_three (a := "loop.example/g00184/impl.sumTable") (b := "loop.example/g00184/impl.errNoTable") (c := "loop.example/g00184/impl.errNoPair") hV
  obtain ⟨a0, len0, cap0, rfl⟩ := okWide_slice Tryd.underlying22 (hval 0 22 v0 rfl rfl)
  have k0 := h0
  have lt0 : ∀ x ∈ p0, x.block < W.heap.size := by obtain ⟨m, hm⟩ := k0; exact DataW.trod_lt m _ _ _ hm
  obtain ⟨m0, r0⟩ : ∃ m, rdB W.heap.size W (.slice a0 len0 cap0) m := by obtain ⟨fuel, hf⟩ := h0; obtain ⟨a, c, zs, he, hl⟩ := openBytes Tryd.underlying22 Tryd.underlying5 (by kernel_rfl) hf; simp [Value.cells] at he; obtain ⟨rfl, rfl, rfl⟩ := he; exact ⟨zs, a0, cap0, rfl, hl⟩
  refine (law_FnTables _ m0 W r0 ⟨⟨tabs hL, tabAt hL⟩, errAt hL⟩).mono fun e W' ⟨he, bel⟩ => ?_
  subst he
  exact ⟨_, rfl, _, _, _, [], _, _, hW', trodAll_mk1 (shut_bool Tryd.underlying4 _), (trodAll_cons_mk (Below.trod laidOut (by kernel_rfl) (of_decide_eq_true (by kernel_rfl)) k0 bel lt0) trodAll_mk0), Below.trodVars laidOut bel (by kernel_rfl) hV, bel.frame _, fun h => by cases h⟩

theorem laid_met (os : Os) : laidMet Tryd.prog Rows.fnTablesRow.laid (({ World.holding Tryd.prog os ⟨#[.cells #[.string ⟨#[110, 111, 32, 116, 97, 98, 108, 101]⟩] 164, .cells #[.string ⟨#[110, 111, 32, 112, 97, 105, 114, 32, 111, 102, 32, 116, 104, 105, 115, 32, 107, 101, 121]⟩] 164], #[], []⟩ with heap := (((((World.holding Tryd.prog os ⟨#[.cells #[.string ⟨#[110, 111, 32, 116, 97, 98, 108, 101]⟩] 164, .cells #[.string ⟨#[110, 111, 32, 112, 97, 105, 114, 32, 111, 102, 32, 116, 104, 105, 115, 32, 107, 101, 121]⟩] 164], #[], []⟩).heap.modify 2 (fun ob => match ob with | .cells _ t frozen => .cells cells16 t frozen | ob => ob)).modify 3 (fun ob => match ob with | .cells _ t frozen => .cells cellsF t frozen | ob => ob)).modify 4 (fun ob => match ob with | .cells _ t frozen => .cells cellsA t frozen | ob => ob)).modify 0 (fun ob => match ob with | .cells _ t frozen => .cells #[.iface 141 (.pointer (some ⟨(World.settled Tryd.prog os).heap.size, 0, none⟩))] t frozen | ob => ob)).modify 1 (fun ob => match ob with | .cells _ t frozen => .cells #[.iface 141 (.pointer (some ⟨(World.settled Tryd.prog os).heap.size + 1, 0, none⟩))] t frozen | ob => ob) } : World).forCall (fun _ _ => 0) ⟨#[], #[.slice none 0 0], []⟩).memory :=
  laidMet_of_run3 10 (by kernel_rfl) (by kernel_rfl) (by kernel_rfl)
theorem reads (os : Os) {H : Type} (enc : TypeId × Value → H) : ∃ places, DataW.whole enc Tryd.prog (({ World.holding Tryd.prog os ⟨#[.cells #[.string ⟨#[110, 111, 32, 116, 97, 98, 108, 101]⟩] 164, .cells #[.string ⟨#[110, 111, 32, 112, 97, 105, 114, 32, 111, 102, 32, 116, 104, 105, 115, 32, 107, 101, 121]⟩] 164], #[], []⟩ with heap := (((((World.holding Tryd.prog os ⟨#[.cells #[.string ⟨#[110, 111, 32, 116, 97, 98, 108, 101]⟩] 164, .cells #[.string ⟨#[110, 111, 32, 112, 97, 105, 114, 32, 111, 102, 32, 116, 104, 105, 115, 32, 107, 101, 121]⟩] 164], #[], []⟩).heap.modify 2 (fun ob => match ob with | .cells _ t frozen => .cells cells16 t frozen | ob => ob)).modify 3 (fun ob => match ob with | .cells _ t frozen => .cells cellsF t frozen | ob => ob)).modify 4 (fun ob => match ob with | .cells _ t frozen => .cells cellsA t frozen | ob => ob)).modify 0 (fun ob => match ob with | .cells _ t frozen => .cells #[.iface 141 (.pointer (some ⟨(World.settled Tryd.prog os).heap.size, 0, none⟩))] t frozen | ob => ob)).modify 1 (fun ob => match ob with | .cells _ t frozen => .cells #[.iface 141 (.pointer (some ⟨(World.settled Tryd.prog os).heap.size + 1, 0, none⟩))] t frozen | ob => ob) } : World).forCall (fun _ _ => 0) ⟨#[], #[.slice none 0 0], []⟩).memory Tryd.f3.params.toList Rows.fnTablesSpec.vars false (#[.slice none 0 0] : Array Value).toList 8 = some ([.nil], [tableH, .held (enc (141, .pointer (some ⟨(World.settled Tryd.prog os).heap.size, 0, none⟩))), .held (enc (141, .pointer (some ⟨(World.settled Tryd.prog os).heap.size + 1, 0, none⟩)))], places) := by
  have hw : (DataW.whole enc Tryd.prog (({ World.holding Tryd.prog os ⟨#[.cells #[.string ⟨#[110, 111, 32, 116, 97, 98, 108, 101]⟩] 164, .cells #[.string ⟨#[110, 111, 32, 112, 97, 105, 114, 32, 111, 102, 32, 116, 104, 105, 115, 32, 107, 101, 121]⟩] 164], #[], []⟩ with heap := (((((World.holding Tryd.prog os ⟨#[.cells #[.string ⟨#[110, 111, 32, 116, 97, 98, 108, 101]⟩] 164, .cells #[.string ⟨#[110, 111, 32, 112, 97, 105, 114, 32, 111, 102, 32, 116, 104, 105, 115, 32, 107, 101, 121]⟩] 164], #[], []⟩).heap.modify 2 (fun ob => match ob with | .cells _ t frozen => .cells cells16 t frozen | ob => ob)).modify 3 (fun ob => match ob with | .cells _ t frozen => .cells cellsF t frozen | ob => ob)).modify 4 (fun ob => match ob with | .cells _ t frozen => .cells cellsA t frozen | ob => ob)).modify 0 (fun ob => match ob with | .cells _ t frozen => .cells #[.iface 141 (.pointer (some ⟨(World.settled Tryd.prog os).heap.size, 0, none⟩))] t frozen | ob => ob)).modify 1 (fun ob => match ob with | .cells _ t frozen => .cells #[.iface 141 (.pointer (some ⟨(World.settled Tryd.prog os).heap.size + 1, 0, none⟩))] t frozen | ob => ob) } : World).forCall (fun _ _ => 0) ⟨#[], #[.slice none 0 0], []⟩).memory Tryd.f3.params.toList Rows.fnTablesSpec.vars false (#[.slice none 0 0] : Array Value).toList 8).map (fun x => (x.1, x.2.1)) = some ([.nil], [tableH, .held (enc (141, .pointer (some ⟨(World.settled Tryd.prog os).heap.size, 0, none⟩))), .held (enc (141, .pointer (some ⟨(World.settled Tryd.prog os).heap.size + 1, 0, none⟩)))]) := by kernel_rfl
  obtain ⟨⟨x1, x2, x3⟩, hx, hx1⟩ := Option.map_eq_some_iff.1 hw
  simp only [Prod.mk.injEq] at hx1
  obtain ⟨rfl, rfl⟩ := hx1
  exact ⟨x3, hx⟩

set_option maxRecDepth 100000 in
theorem lifted (os : Os) (started : os.Started) (H : Type) (enc : TypeId × Value → H) (F : Stop.Interp) :
    ReturnsInHanded {} Tryd.checked os 3 .any ((OpenSpec.ofChange Rows.fnTablesSpec).preRow enc Tryd.prog Tryd.f3 Rows.fnTablesRow.domain false Rows.fnTablesRow.laid) (((OpenSpec.ofChange Rows.fnTablesSpec).at F).post enc Tryd.prog Tryd.f3 false true false false) := by
  obtain ⟨places, hx⟩ := reads os enc
  refine returnsInHanded_of_row (C := Tryd.checked) (s := OpenSpec.ofChange Rows.fnTablesSpec) own started (by kernel_rfl) Tryd.func3
    (witness_row_atRef (enc := enc) (C := Tryd.checked) false ({ World.holding Tryd.prog os ⟨#[.cells #[.string ⟨#[110, 111, 32, 116, 97, 98, 108, 101]⟩] 164, .cells #[.string ⟨#[110, 111, 32, 112, 97, 105, 114, 32, 111, 102, 32, 116, 104, 105, 115, 32, 107, 101, 121]⟩] 164], #[], []⟩ with heap := (((((World.holding Tryd.prog os ⟨#[.cells #[.string ⟨#[110, 111, 32, 116, 97, 98, 108, 101]⟩] 164, .cells #[.string ⟨#[110, 111, 32, 112, 97, 105, 114, 32, 111, 102, 32, 116, 104, 105, 115, 32, 107, 101, 121]⟩] 164], #[], []⟩).heap.modify 2 (fun ob => match ob with | .cells _ t frozen => .cells cells16 t frozen | ob => ob)).modify 3 (fun ob => match ob with | .cells _ t frozen => .cells cellsF t frozen | ob => ob)).modify 4 (fun ob => match ob with | .cells _ t frozen => .cells cellsA t frozen | ob => ob)).modify 0 (fun ob => match ob with | .cells _ t frozen => .cells #[.iface 141 (.pointer (some ⟨(World.settled Tryd.prog os).heap.size, 0, none⟩))] t frozen | ob => ob)).modify 1 (fun ob => match ob with | .cells _ t frozen => .cells #[.iface 141 (.pointer (some ⟨(World.settled Tryd.prog os).heap.size + 1, 0, none⟩))] t frozen | ob => ob) } : World) #[.slice none 0 0] rfl (by kernel_rfl) (by kernel_rfl) (by kernel_rfl)
      (OpenSpec.preRow_of_cond 8 hx (by kernel_rfl) (fun k hk => by cases hk) (by kernel_rfl) (laid_met os))) ?_
  intro W base args ds gs before hval hW _ _ _ hL _ _
  exact contract H enc W base args ds gs before hval hW hL

theorem said : Rows.FnTablesSaid :=
  OpenClaim.holds_of_cond 3 Tryd.f3 rfl rfl rfl rfl rfl rfl rfl ⟨rfl, rfl, rfl, rfl, rfl⟩ rfl rfl rfl rfl rfl (by kernel_rfl) Tryd.func3 (by kernel_rfl)
    (of_decide_eq_true (by kernel_rfl)) (by unfold Func.isWrapper; first | (rw [if_pos (by decide +kernel)]; kernel_rfl) | (rw [if_neg (by decide +kernel)]; exact ⟨rfl, rfl⟩))
    (fun os started H enc _ F => by rw [OpenClaim.pre_eq_preRow]; exact lifted os started H enc F)

theorem plain (f : FuncId) (fn : Func) (hf : Tryd.pinned.checked.prog.funcNamed "loop.example/g00184/laws.FnTables" = some f) (hfn : Tryd.pinned.checked.prog.funcs[f]? = some fn) :
    true = Tryd.pinned.checked.prog.looks [] ∧ ∀ (j : Nat) t, fn.params[j]? = some t → Tryd.pinned.checked.prog.wantsStandIn t = false := by
  obtain rfl : f = 3 := Option.some.inj ((show Tryd.prog.funcNamed "loop.example/g00184/laws.FnTables" = some 3 by kernel_rfl).symm.trans hf) |>.symm
  obtain rfl : fn = Tryd.f3 := (Option.some.inj (Tryd.func3.symm.trans hfn)).symm
  refine ⟨by kernel_rfl, fun j t ht => ?_⟩
  rw [Tryd.params3] at ht
  have hm := Array.mem_of_getElem? ht
  simp only [List.mem_toArray, List.mem_cons, List.not_mem_nil, or_false] at hm
  subst hm
  exact (show Tryd.prog.wantsStandIn 22 = false by kernel_rfl)

theorem proved : Rows.FnTablesCardSaid :=
  Claim7.holds_tied_plain_at .later [] _ _ _ _ said (fun _ h => by cases h) (by kernel_rfl) (fun _ h => by cases h) fnTables_row_tie rfl ⟨rfl, rfl⟩ (by kernel_rfl) rfl plain (by kernel_rfl)
end Go.Proofs.YtmedljankefhbaaDoor.fnTables
