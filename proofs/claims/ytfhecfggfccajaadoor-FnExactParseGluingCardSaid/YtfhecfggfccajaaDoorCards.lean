/-
  DERIVED. GIVEN WITH THE SEED: THE CARDS: each row of YtfhecfggfccajaaDoorRows.lean that lists a variable, with what it lists TIED to the program's text (the seventh form; the later family's looks); each row that meets fmt, with fmt's text TOLD by the authors' own Lean function (tested against real Go, not proved from fmt's source: count such statements apart). THE CARD IS WHAT COUNTS. Prove the row's statement (the work); the ties are given (YtfhecfggfccajaaDoorTie.lean); close each card by the builder's one call (the guide's Derived/Test/ToyasCard.lean, 'card_holds'). Laid BY PROGRAM, IN A SANDBOX (cutbox-door.mjs). By AI agents, Wed Nov 11 2026. No macro, syntax, notation, axiom, sorry.
-/
import Derived.Test.YtfhecfggfccajaaDoorRows
import GoSem.ClaimSeven
namespace Go.Proofs.YtfhecfggfccajaaDoor
namespace Rows

/-- THE TIED CARD OF 'laws.FnGluings'. -/
def fnGluingsCard : Claim7 := { stood := { row := fnGluingsRow, standIns := [], harness := (true, "18d92adb0265367b2389ac084d522d2093f1464c07956872aff928bdf9c81d82"), looks := false }, kinds := [], alts := [], laidByText := true, laidKinds := [.data, .pinned], laidTests := true, laidLooks := .later }
def FnGluingsCardSaid : Prop := Claim7.holds Tryd.pinned (.plain (OpenSpec.ofChange fnGluingsSpec)) fnGluingsCard

/-- THE TIED CARD OF 'laws.FnExactParseGluing'. -/
def fnExactParseGluingCard : Claim7 := { stood := { row := fnExactParseGluingRow, standIns := [], harness := (true, "18d92adb0265367b2389ac084d522d2093f1464c07956872aff928bdf9c81d82"), looks := false }, kinds := [], alts := [], laidByText := true, laidKinds := [.data, .pinned], laidTests := true, laidLooks := .later }
def FnExactParseGluingCardSaid : Prop := Claim7.holds Tryd.pinned (.plain (OpenSpec.ofChange fnExactParseGluingSpec)) fnExactParseGluingCard

/-- THE SECOND FORM's CARD OF 'laws.FnGluings'. -/
def fnGluingsUptoCard : Claim7 := { stood := { row := fnGluingsUptoRow, standIns := [], harness := (true, "18d92adb0265367b2389ac084d522d2093f1464c07956872aff928bdf9c81d82"), looks := false }, kinds := [], alts := [], laidByText := true, laidKinds := [.data, .pinned], laidTests := true, laidLooks := .later }
def FnGluingsUptoCardSaid : Prop := Claim7.holds Tryd.pinned (.plain (OpenSpec.upto fnGluingsSpec)) fnGluingsUptoCard

/-- THE SECOND FORM's CARD OF 'laws.FnExactParseGluing'. -/
def fnExactParseGluingUptoCard : Claim7 := { stood := { row := fnExactParseGluingUptoRow, standIns := [], harness := (true, "18d92adb0265367b2389ac084d522d2093f1464c07956872aff928bdf9c81d82"), looks := false }, kinds := [], alts := [], laidByText := true, laidKinds := [.data, .pinned], laidTests := true, laidLooks := .later }
def FnExactParseGluingUptoCardSaid : Prop := Claim7.holds Tryd.pinned (.plain (OpenSpec.upto fnExactParseGluingSpec)) fnExactParseGluingUptoCard
end Rows
end Go.Proofs.YtfhecfggfccajaaDoor
