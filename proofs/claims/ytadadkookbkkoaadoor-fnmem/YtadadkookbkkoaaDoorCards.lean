/-
  DERIVED. GIVEN WITH THE SEED: THE CARDS: each row of YtadadkookbkkoaaDoorRows.lean that lists a variable, with what it lists TIED to the program's text (the seventh form; the later family's looks); each row that meets fmt, with fmt's text TOLD by the authors' own Lean function (tested against real Go, not proved from fmt's source: count such statements apart). THE CARD IS WHAT COUNTS. Prove the row's statement (the work); the ties are given (YtadadkookbkkoaaDoorTie.lean); close each card by the builder's one call (the guide's Derived/Test/ToyasCard.lean, 'card_holds'). Laid BY PROGRAM, IN A SANDBOX (cutbox-door.mjs). By AI agents, Wed Nov 11 2026. No macro, syntax, notation, axiom, sorry.
-/
import Derived.Test.YtadadkookbkkoaaDoorRows
import GoSem.ClaimSeven
namespace Go.Proofs.YtadadkookbkkoaaDoor
namespace Rows

/-- THE TIED CARD OF 'laws.FnMem'. -/
def fnMemCard : Claim7 := { stood := { row := fnMemRow, standIns := [], harness := (true, "19163e70eac0e31ea64910677a3a522bfb45cf8a87790184a51a3899bfed2e79"), looks := false }, kinds := [], alts := [], laidByText := true, laidKinds := [.data, .pinned], laidTests := true, laidLooks := .later }
def FnMemCardSaid : Prop := Claim7.holds Tryd.pinned (.plain (OpenSpec.ofChange fnMemSpec)) fnMemCard

/-- THE TIED CARD OF 'laws.FnLeaps'. -/
def fnLeapsCard : Claim7 := { stood := { row := fnLeapsRow, standIns := [], harness := (true, "19163e70eac0e31ea64910677a3a522bfb45cf8a87790184a51a3899bfed2e79"), looks := false }, kinds := [], alts := [], laidByText := true, laidKinds := [.data, .pinned], laidTests := true, laidLooks := .later }
def FnLeapsCardSaid : Prop := Claim7.holds Tryd.pinned (.plain (OpenSpec.ofChange fnLeapsSpec)) fnLeapsCard

/-- THE TIED CARD OF 'laws.FnExactMemOk'. -/
def fnExactMemOkCard : Claim7 := { stood := { row := fnExactMemOkRow, standIns := [], harness := (true, "19163e70eac0e31ea64910677a3a522bfb45cf8a87790184a51a3899bfed2e79"), looks := false }, kinds := [], alts := [], laidByText := true, laidKinds := [.data, .pinned], laidTests := true, laidLooks := .later }
def FnExactMemOkCardSaid : Prop := Claim7.holds Tryd.pinned (.plain (OpenSpec.ofChange fnExactMemOkSpec)) fnExactMemOkCard

/-- THE TIED CARD OF 'laws.FnExactLeaps'. -/
def fnExactLeapsCard : Claim7 := { stood := { row := fnExactLeapsRow, standIns := [], harness := (true, "19163e70eac0e31ea64910677a3a522bfb45cf8a87790184a51a3899bfed2e79"), looks := false }, kinds := [], alts := [], laidByText := true, laidKinds := [.data, .pinned], laidTests := true, laidLooks := .later }
def FnExactLeapsCardSaid : Prop := Claim7.holds Tryd.pinned (.plain (OpenSpec.ofChange fnExactLeapsSpec)) fnExactLeapsCard

/-- THE SECOND FORM's CARD OF 'laws.FnMem'. -/
def fnMemUptoCard : Claim7 := { stood := { row := fnMemUptoRow, standIns := [], harness := (true, "19163e70eac0e31ea64910677a3a522bfb45cf8a87790184a51a3899bfed2e79"), looks := false }, kinds := [], alts := [], laidByText := true, laidKinds := [.data, .pinned], laidTests := true, laidLooks := .later }
def FnMemUptoCardSaid : Prop := Claim7.holds Tryd.pinned (.plain (OpenSpec.upto fnMemSpec)) fnMemUptoCard

/-- THE SECOND FORM's CARD OF 'laws.FnLeaps'. -/
def fnLeapsUptoCard : Claim7 := { stood := { row := fnLeapsUptoRow, standIns := [], harness := (true, "19163e70eac0e31ea64910677a3a522bfb45cf8a87790184a51a3899bfed2e79"), looks := false }, kinds := [], alts := [], laidByText := true, laidKinds := [.data, .pinned], laidTests := true, laidLooks := .later }
def FnLeapsUptoCardSaid : Prop := Claim7.holds Tryd.pinned (.plain (OpenSpec.upto fnLeapsSpec)) fnLeapsUptoCard

/-- THE SECOND FORM's CARD OF 'laws.FnExactMemOk'. -/
def fnExactMemOkUptoCard : Claim7 := { stood := { row := fnExactMemOkUptoRow, standIns := [], harness := (true, "19163e70eac0e31ea64910677a3a522bfb45cf8a87790184a51a3899bfed2e79"), looks := false }, kinds := [], alts := [], laidByText := true, laidKinds := [.data, .pinned], laidTests := true, laidLooks := .later }
def FnExactMemOkUptoCardSaid : Prop := Claim7.holds Tryd.pinned (.plain (OpenSpec.upto fnExactMemOkSpec)) fnExactMemOkUptoCard

/-- THE SECOND FORM's CARD OF 'laws.FnExactLeaps'. -/
def fnExactLeapsUptoCard : Claim7 := { stood := { row := fnExactLeapsUptoRow, standIns := [], harness := (true, "19163e70eac0e31ea64910677a3a522bfb45cf8a87790184a51a3899bfed2e79"), looks := false }, kinds := [], alts := [], laidByText := true, laidKinds := [.data, .pinned], laidTests := true, laidLooks := .later }
def FnExactLeapsUptoCardSaid : Prop := Claim7.holds Tryd.pinned (.plain (OpenSpec.upto fnExactLeapsSpec)) fnExactLeapsUptoCard
end Rows
end Go.Proofs.YtadadkookbkkoaaDoor
