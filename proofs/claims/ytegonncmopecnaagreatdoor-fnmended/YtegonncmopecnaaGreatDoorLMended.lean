/-
  The law of mended logs holds at every code: of a drawn disk, what Mend answers is right, the log that is mended has the records that it had and nothing behind them, and one more behind another Log.
-/
import Derived.Test.YtegonncmopecnaaGreatDoorCards
import Derived.Test.YtegonncmopecnaaGreatDoorTie
import Derived.Test.YtegonncmopecnaaGreatDoorMnd29
import Derived.Test.YtegonncmopecnaaGreatDoorMnd28
import Derived.WalkKit
import Derived.ProofKit
import Derived.OpenShut
import Derived.ShutString
import Derived.ChangeOld
import Derived.Below
import Derived.Lib.LaidTab
import Derived.Deep.DeepHandedRow
import Derived.WalkSmall
namespace Go.Proofs.YtegonncmopecnaaGreatDoor.fnMended
open Go.ChangeShapes Go.WideShapes Go.ChangeAt Go.RowKit
open Go.ChangeMaps (open_string shut_string)
set_option linter.unusedVariables false
theorem own : ownKnob Tryz.prog.godebug = none := by kernel_rfl
theorem laidOut : laidOutB Tryz.prog = true := by kernel_rfl
theorem gTab : Tryz.prog.globalNamed "loop.example/g00184/impl.sumTable" = some 0 := by kernel_rfl
theorem gTabType : (Tryz.prog.globals[0]?).map (·.type) = some 114 := by kernel_rfl
theorem cellsArr : Tryz.prog.cellsOf 114 = 16 := by kernel_rfl
theorem cellsElem : Tryz.prog.cellsOf 113 = 1 := by kernel_rfl
def tabL : List Int := [0, 274646895, 549293790, 820201905, 1098587580, 1361435347, 1640403810, 1905808397, 2197175160, 2460548119, 2722870694, 2987750089, 3280807620, 3553878443, 3811616794, 4084100981]
def cells16 : Array Value := (tabL.map fun z => Value.int .u32 z).toArray
abbrev tableH {H : Type} : DataW H := .agg (tabL.map fun z => .lit (.int .u32 z))
theorem table {W : World} (h : laidMetH Tryz.prog Rows.fnMendedRow.laid W) : Lib.TabIs Tryz.prog W "loop.example/g00184/impl.sumTable" .u32 tabL :=
 Lib.tabIs_of_head (rest := []) gTab gTabType Tryz.underlying114 Tryz.underlying113 cellsElem cellsArr h
theorem reads_table {H : Type} (enc : TypeId × Value -> H) (W : World) (sp : Nat -> Bool) : DataW.trod enc Tryz.prog W 0 sp true 3 114 cells16.toList = some (tableH, []) := by kernel_rfl
theorem tab_eq : ∀ r : Fin 16, tabL.getD r.val 0 = tabI (r.val : Int) := by decide +kernel
theorem tabAt {W : World} (h : laidMetH Tryz.prog Rows.fnMendedRow.laid W) : TabAt W := fun r hr => by
 have h1 := (table h).cell gTab r hr
 rw [h1, tab_eq ⟨r, hr⟩]
set_option maxRecDepth 100000 in
theorem contract (H : Type) (enc : TypeId × Value -> H) (W : World) (base : Nat) (args : Array Value) (ds gs : List (DataW H)) (before : List MemPlace)
  (hval0 : ∀ (j : Nat) t v, Tryz.f3.params[j]? = some t -> args[j]? = some v -> Value.okWide Tryz.prog W .any base t v)
  (hW : DataW.Whole enc Tryz.prog Tryz.f3.params.toList Rows.fnMendedSpec.vars false W args.toList ds gs before) (hL : laidMetH Tryz.prog Rows.fnMendedRow.laid W) :
  Calls Tryz.prog 3 args W fun e W' => ∃ v, e = .returned v /\ Rows.fnMendedSpec.post enc Tryz.prog Tryz.f3 false true false false W args v W' := by
 have hval := hval0
 have hW' := hW
 obtain ⟨p, q, hA0, hV, rfl, hfz, hnd⟩ := hW
 have hA : DataW.TrodAll enc Tryz.prog W 0 (fun _ => true) true Tryz.f3.params.toList args.toList ds p := hA0
 rw [Tryz.params3] at hA hval
 obtain ⟨v0, vs0, d0, ds0, p0, q0, hargs, rfl, rfl, h0, r0x⟩ := trodAll_cons hA
 obtain ⟨rfl, rfl, rfl⟩ := trodAll_nil r0x
 obtain rfl : args = #[v0] := by cases args; simp_all
 have hV1 : DataW.TrodVars enc Tryz.prog W (fun _ => true) ["loop.example/g00184/impl.sumTable"] gs q := hV
 obtain ⟨g, t, cs, fuelv, dv, pv, rfl, hg, hty, hvar, hd, rfl⟩ := trodVars_one hV1
 obtain rfl := Option.some.inj (gTab.symm.trans hg)
 obtain rfl := Option.some.inj (gTabType.symm.trans hty)
 obtain rfl : cs = cells16 := Option.some.inj (hvar.symm.trans (table hL))
 obtain ⟨rfl, rfl⟩ := DataW.Trod.unique (v := .agg cells16) ⟨fuelv, hd⟩ ⟨3, reads_table enc W _⟩
 obtain ⟨a0, len0, cap0, rfl⟩ := okWide_slice Tryz.underlying22 (hval 0 22 v0 rfl rfl)
 have k0 := h0
 have lt0 : ∀ x ∈ p0, x.block < W.heap.size := by obtain ⟨m, hm⟩ := k0; exact DataW.trod_lt m _ _ _ hm
 obtain ⟨m0, r0⟩ : ∃ m, rdB W.heap.size W (.slice a0 len0 cap0) m := by obtain ⟨fuel, hf⟩ := h0; obtain ⟨a, c, zs, he, hl⟩ := openBytes Tryz.underlying22 Tryz.underlying5 (by kernel_rfl) hf; simp [Value.cells] at he; obtain ⟨rfl, rfl, rfl⟩ := he; exact ⟨zs, a0, cap0, rfl, hl⟩
 refine (law_FnMended _ m0 W r0 (tabAt hL)).mono fun e W' ⟨he, bel⟩ => ?_
 subst he
 have hsz : 0 < W.heap.size := World.block_lt_of_cell? _ _ (tabAt hL 0 (by decide))
 have hvars : ∀ sp : Nat -> Bool, DataW.TrodVars enc Tryz.prog W' sp ["loop.example/g00184/impl.sumTable"] [tableH] (MemPlace.row ⟨0, 0, none⟩ cells16.size ++ [] ++ []) := fun sp => ⟨0, 114, cells16, 3, [], [], hg, hty, var?_below bel hg hsz hvar, reads_table enc W' _, rfl, rfl⟩
 exact ⟨_, rfl, _, _, _, [], _, _, hW', trodAll_mk1 (shut_bool Tryz.underlying4 _), (trodAll_cons_mk (Below.trod laidOut (by kernel_rfl) (of_decide_eq_true (by kernel_rfl)) k0 bel lt0) trodAll_mk0), hvars _, bel.frame _, fun h => by cases h⟩
theorem laid_met (os : Os) : laidMet Tryz.prog Rows.fnMendedRow.laid (({ World.holding Tryz.prog os ⟨#[], #[], []⟩ with heap := (World.holding Tryz.prog os ⟨#[], #[], []⟩).heap.modify 0 (fun ob => match ob with | .cells _ t frozen => .cells cells16 t frozen | ob => ob) } : World).forCall (fun _ _ => 0) ⟨#[], #[.slice none 0 0], []⟩).memory :=
 laidMet_of_run' 8 (by kernel_rfl) (by kernel_rfl)
theorem reads (os : Os) {H : Type} (enc : TypeId × Value -> H) : ∃ places, DataW.whole enc Tryz.prog (({ World.holding Tryz.prog os ⟨#[], #[], []⟩ with heap := (World.holding Tryz.prog os ⟨#[], #[], []⟩).heap.modify 0 (fun ob => match ob with | .cells _ t frozen => .cells cells16 t frozen | ob => ob) } : World).forCall (fun _ _ => 0) ⟨#[], #[.slice none 0 0], []⟩).memory Tryz.f3.params.toList Rows.fnMendedSpec.vars false (#[.slice none 0 0] : Array Value).toList 8 = some ([.nil], [tableH], places) := by
 have hw : (DataW.whole enc Tryz.prog (({ World.holding Tryz.prog os ⟨#[], #[], []⟩ with heap := (World.holding Tryz.prog os ⟨#[], #[], []⟩).heap.modify 0 (fun ob => match ob with | .cells _ t frozen => .cells cells16 t frozen | ob => ob) } : World).forCall (fun _ _ => 0) ⟨#[], #[.slice none 0 0], []⟩).memory Tryz.f3.params.toList Rows.fnMendedSpec.vars false (#[.slice none 0 0] : Array Value).toList 8).map (fun x => (x.1, x.2.1)) = some ([.nil], [tableH]) := by kernel_rfl
 obtain ⟨⟨x1, x2, x3⟩, hx, hx1⟩ := Option.map_eq_some_iff.1 hw
 simp only [Prod.mk.injEq] at hx1
 obtain ⟨rfl, rfl⟩ := hx1
 exact ⟨x3, hx⟩
set_option maxRecDepth 100000 in
theorem lifted (os : Os) (started : os.Started) (H : Type) (enc : TypeId × Value -> H) (F : Stop.Interp) :
  ReturnsInHanded {} Tryz.checked os 3 .any ((OpenSpec.ofChange Rows.fnMendedSpec).preRow enc Tryz.prog Tryz.f3 Rows.fnMendedRow.domain false Rows.fnMendedRow.laid) (((OpenSpec.ofChange Rows.fnMendedSpec).at F).post enc Tryz.prog Tryz.f3 false true false false) := by
 obtain ⟨places, hx⟩ := reads os enc
 refine returnsInHanded_of_row (C := Tryz.checked) (s := OpenSpec.ofChange Rows.fnMendedSpec) own started (by kernel_rfl) Tryz.func3
  (witness_row_at (enc := enc) (C := Tryz.checked) false ({ World.holding Tryz.prog os ⟨#[], #[], []⟩ with heap := (World.holding Tryz.prog os ⟨#[], #[], []⟩).heap.modify 0 (fun ob => match ob with | .cells _ t frozen => .cells cells16 t frozen | ob => ob) } : World) #[.slice none 0 0] rfl (by kernel_rfl) (by kernel_rfl) (by kernel_rfl)
   (OpenSpec.preRow_of_cond 8 hx (by kernel_rfl) (fun k hk => by cases hk) (by kernel_rfl) (laid_met os))) ?_
 intro W base args ds gs before hval hW _ _ _ hL _ _
 exact contract H enc W base args ds gs before hval hW hL
theorem said : Rows.FnMendedSaid :=
 OpenClaim.holds_of_cond 3 Tryz.f3 rfl rfl rfl rfl rfl rfl rfl ⟨rfl, rfl, rfl, rfl, rfl⟩ rfl rfl rfl rfl rfl (by kernel_rfl) Tryz.func3 (by kernel_rfl)
  (of_decide_eq_true (by kernel_rfl)) (by unfold Func.isWrapper; first | (rw [if_pos (by decide +kernel)]; kernel_rfl) | (rw [if_neg (by decide +kernel)]; exact ⟨rfl, rfl⟩))
  (fun os started H enc _ F => by rw [OpenClaim.pre_eq_preRow]; exact lifted os started H enc F)
theorem plain (f : FuncId) (fn : Func) (hf : Tryz.pinned.checked.prog.funcNamed "loop.example/g00184/laws.FnMended" = some f) (hfn : Tryz.pinned.checked.prog.funcs[f]? = some fn) :
  false = Tryz.pinned.checked.prog.looks [] /\ ∀ (j : Nat) t, fn.params[j]? = some t -> Tryz.pinned.checked.prog.wantsStandIn t = false := by
 obtain rfl : f = 3 := Option.some.inj ((show Tryz.prog.funcNamed "loop.example/g00184/laws.FnMended" = some 3 by kernel_rfl).symm.trans hf) |>.symm
 obtain rfl : fn = Tryz.f3 := (Option.some.inj (Tryz.func3.symm.trans hfn)).symm
 refine ⟨by kernel_rfl, fun j t ht => ?_⟩
 rw [Tryz.params3] at ht
 have hm := Array.mem_of_getElem? ht
 simp only [List.mem_toArray, List.mem_cons, List.not_mem_nil, or_false] at hm
 subst hm
 exact (show Tryz.prog.wantsStandIn 22 = false by kernel_rfl)
theorem proved : Rows.FnMendedCardSaid :=
 Claim7.holds_tied_plain_at .later [] _ _ _ _ said (fun _ h => by cases h) (by kernel_rfl) (fun _ h => by cases h) fnMended_row_tie rfl ⟨rfl, rfl⟩ (by kernel_rfl) rfl plain (by kernel_rfl)
end Go.Proofs.YtegonncmopecnaaGreatDoor.fnMended
