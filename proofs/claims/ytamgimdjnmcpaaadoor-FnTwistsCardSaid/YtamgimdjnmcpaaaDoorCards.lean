/-
  DERIVED. GIVEN WITH THE SEED: THE CARDS: each row of YtamgimdjnmcpaaaDoorRows.lean that lists a variable, with what it lists TIED to the program's text (the seventh form; the later family's looks); each row that meets fmt, with fmt's text TOLD by the authors' own Lean function (tested against real Go, not proved from fmt's source: count such statements apart). THE CARD IS WHAT COUNTS. Prove the row's statement (the work); the ties are given (YtamgimdjnmcpaaaDoorTie.lean); close each card by the builder's one call (the guide's Derived/Test/ToyasCard.lean, 'card_holds'). Laid BY PROGRAM, IN A SANDBOX (cutbox-door.mjs). By AI agents, Wed Nov 11 2026. No macro, syntax, notation, axiom, sorry.
-/
import Derived.Test.YtamgimdjnmcpaaaDoorRows
import GoSem.ClaimSeven
namespace Go.Proofs.YtamgimdjnmcpaaaDoor
namespace Rows

/-- THE TIED CARD OF 'laws.FnTwists'. -/
def fnTwistsCard : Claim7 := { stood := { row := fnTwistsRow, standIns := [], harness := (true, "57b2214fa7aef4da70091ba9144cc6f5d9a6a5a9ee41d53c6d17bff1b6ccbb02"), looks := true }, kinds := [], alts := [], laidByText := true, laidKinds := [.sentinel], laidTests := true, laidLooks := .later }
def FnTwistsCardSaid : Prop := Claim7.holds Tryd.pinned (.plain (OpenSpec.ofChange fnTwistsSpec)) fnTwistsCard

/-- THE TIED CARD OF 'laws.FnExactIsClass'. -/
def fnExactIsClassCard : Claim7 := { stood := { row := fnExactIsClassRow, standIns := [], harness := (true, "57b2214fa7aef4da70091ba9144cc6f5d9a6a5a9ee41d53c6d17bff1b6ccbb02"), looks := true }, kinds := [], alts := [], laidByText := true, laidKinds := [.sentinel], laidTests := true, laidLooks := .later }
def FnExactIsClassCardSaid : Prop := Claim7.holds Tryd.pinned (.plain (OpenSpec.ofChange fnExactIsClassSpec)) fnExactIsClassCard

/-- THE TIED CARD OF 'laws.FnExactFormOf'. -/
def fnExactFormOfCard : Claim7 := { stood := { row := fnExactFormOfRow, standIns := [], harness := (true, "57b2214fa7aef4da70091ba9144cc6f5d9a6a5a9ee41d53c6d17bff1b6ccbb02"), looks := true }, kinds := [], alts := [], laidByText := true, laidKinds := [.sentinel], laidTests := true, laidLooks := .later }
def FnExactFormOfCardSaid : Prop := Claim7.holds Tryd.pinned (.plain (OpenSpec.ofChange fnExactFormOfSpec)) fnExactFormOfCard

/-- THE TIED CARD OF 'laws.FnExactTwistClass'. -/
def fnExactTwistClassCard : Claim7 := { stood := { row := fnExactTwistClassRow, standIns := [], harness := (true, "57b2214fa7aef4da70091ba9144cc6f5d9a6a5a9ee41d53c6d17bff1b6ccbb02"), looks := true }, kinds := [], alts := [], laidByText := true, laidKinds := [.sentinel], laidTests := true, laidLooks := .later }
def FnExactTwistClassCardSaid : Prop := Claim7.holds Tryd.pinned (.plain (OpenSpec.ofChange fnExactTwistClassSpec)) fnExactTwistClassCard

/-- THE TIED CARD OF 'laws.FnExactTwistMatrix'. -/
def fnExactTwistMatrixCard : Claim7 := { stood := { row := fnExactTwistMatrixRow, standIns := [], harness := (true, "57b2214fa7aef4da70091ba9144cc6f5d9a6a5a9ee41d53c6d17bff1b6ccbb02"), looks := true }, kinds := [], alts := [], laidByText := true, laidKinds := [.sentinel], laidTests := true, laidLooks := .later }
def FnExactTwistMatrixCardSaid : Prop := Claim7.holds Tryd.pinned (.plain (OpenSpec.ofChange fnExactTwistMatrixSpec)) fnExactTwistMatrixCard

/-- THE TIED CARD OF 'laws.FnExactApplyTable'. -/
def fnExactApplyTableCard : Claim7 := { stood := { row := fnExactApplyTableRow, standIns := [], harness := (true, "57b2214fa7aef4da70091ba9144cc6f5d9a6a5a9ee41d53c6d17bff1b6ccbb02"), looks := true }, kinds := [], alts := [], laidByText := true, laidKinds := [.sentinel], laidTests := true, laidLooks := .later }
def FnExactApplyTableCardSaid : Prop := Claim7.holds Tryd.pinned (.plain (OpenSpec.ofChange fnExactApplyTableSpec)) fnExactApplyTableCard

/-- THE TIED CARD OF 'laws.FnExactTimesTable'. -/
def fnExactTimesTableCard : Claim7 := { stood := { row := fnExactTimesTableRow, standIns := [], harness := (true, "57b2214fa7aef4da70091ba9144cc6f5d9a6a5a9ee41d53c6d17bff1b6ccbb02"), looks := true }, kinds := [], alts := [], laidByText := true, laidKinds := [.sentinel], laidTests := true, laidLooks := .later }
def FnExactTimesTableCardSaid : Prop := Claim7.holds Tryd.pinned (.plain (OpenSpec.ofChange fnExactTimesTableSpec)) fnExactTimesTableCard

/-- THE TIED CARD OF 'laws.FnExactIsSymplectic'. -/
def fnExactIsSymplecticCard : Claim7 := { stood := { row := fnExactIsSymplecticRow, standIns := [], harness := (true, "57b2214fa7aef4da70091ba9144cc6f5d9a6a5a9ee41d53c6d17bff1b6ccbb02"), looks := true }, kinds := [], alts := [], laidByText := true, laidKinds := [.sentinel], laidTests := true, laidLooks := .later }
def FnExactIsSymplecticCardSaid : Prop := Claim7.holds Tryd.pinned (.plain (OpenSpec.ofChange fnExactIsSymplecticSpec)) fnExactIsSymplecticCard

/-- THE TIED CARD OF 'laws.FnExactIsPrimitiveClass'. -/
def fnExactIsPrimitiveClassCard : Claim7 := { stood := { row := fnExactIsPrimitiveClassRow, standIns := [], harness := (true, "57b2214fa7aef4da70091ba9144cc6f5d9a6a5a9ee41d53c6d17bff1b6ccbb02"), looks := true }, kinds := [], alts := [], laidByText := true, laidKinds := [.sentinel], laidTests := true, laidLooks := .later }
def FnExactIsPrimitiveClassCardSaid : Prop := Claim7.holds Tryd.pinned (.plain (OpenSpec.ofChange fnExactIsPrimitiveClassSpec)) fnExactIsPrimitiveClassCard

/-- THE SECOND FORM's CARD OF 'laws.FnTwists'. -/
def fnTwistsUptoCard : Claim7 := { stood := { row := fnTwistsUptoRow, standIns := [], harness := (true, "57b2214fa7aef4da70091ba9144cc6f5d9a6a5a9ee41d53c6d17bff1b6ccbb02"), looks := true }, kinds := [], alts := [], laidByText := true, laidKinds := [.sentinel], laidTests := true, laidLooks := .later }
def FnTwistsUptoCardSaid : Prop := Claim7.holds Tryd.pinned (.plain (OpenSpec.upto fnTwistsSpec)) fnTwistsUptoCard

/-- THE SECOND FORM's CARD OF 'laws.FnExactIsClass'. -/
def fnExactIsClassUptoCard : Claim7 := { stood := { row := fnExactIsClassUptoRow, standIns := [], harness := (true, "57b2214fa7aef4da70091ba9144cc6f5d9a6a5a9ee41d53c6d17bff1b6ccbb02"), looks := true }, kinds := [], alts := [], laidByText := true, laidKinds := [.sentinel], laidTests := true, laidLooks := .later }
def FnExactIsClassUptoCardSaid : Prop := Claim7.holds Tryd.pinned (.plain (OpenSpec.upto fnExactIsClassSpec)) fnExactIsClassUptoCard

/-- THE SECOND FORM's CARD OF 'laws.FnExactFormOf'. -/
def fnExactFormOfUptoCard : Claim7 := { stood := { row := fnExactFormOfUptoRow, standIns := [], harness := (true, "57b2214fa7aef4da70091ba9144cc6f5d9a6a5a9ee41d53c6d17bff1b6ccbb02"), looks := true }, kinds := [], alts := [], laidByText := true, laidKinds := [.sentinel], laidTests := true, laidLooks := .later }
def FnExactFormOfUptoCardSaid : Prop := Claim7.holds Tryd.pinned (.plain (OpenSpec.upto fnExactFormOfSpec)) fnExactFormOfUptoCard

/-- THE SECOND FORM's CARD OF 'laws.FnExactTwistClass'. -/
def fnExactTwistClassUptoCard : Claim7 := { stood := { row := fnExactTwistClassUptoRow, standIns := [], harness := (true, "57b2214fa7aef4da70091ba9144cc6f5d9a6a5a9ee41d53c6d17bff1b6ccbb02"), looks := true }, kinds := [], alts := [], laidByText := true, laidKinds := [.sentinel], laidTests := true, laidLooks := .later }
def FnExactTwistClassUptoCardSaid : Prop := Claim7.holds Tryd.pinned (.plain (OpenSpec.upto fnExactTwistClassSpec)) fnExactTwistClassUptoCard

/-- THE SECOND FORM's CARD OF 'laws.FnExactTwistMatrix'. -/
def fnExactTwistMatrixUptoCard : Claim7 := { stood := { row := fnExactTwistMatrixUptoRow, standIns := [], harness := (true, "57b2214fa7aef4da70091ba9144cc6f5d9a6a5a9ee41d53c6d17bff1b6ccbb02"), looks := true }, kinds := [], alts := [], laidByText := true, laidKinds := [.sentinel], laidTests := true, laidLooks := .later }
def FnExactTwistMatrixUptoCardSaid : Prop := Claim7.holds Tryd.pinned (.plain (OpenSpec.upto fnExactTwistMatrixSpec)) fnExactTwistMatrixUptoCard

/-- THE SECOND FORM's CARD OF 'laws.FnExactApplyTable'. -/
def fnExactApplyTableUptoCard : Claim7 := { stood := { row := fnExactApplyTableUptoRow, standIns := [], harness := (true, "57b2214fa7aef4da70091ba9144cc6f5d9a6a5a9ee41d53c6d17bff1b6ccbb02"), looks := true }, kinds := [], alts := [], laidByText := true, laidKinds := [.sentinel], laidTests := true, laidLooks := .later }
def FnExactApplyTableUptoCardSaid : Prop := Claim7.holds Tryd.pinned (.plain (OpenSpec.upto fnExactApplyTableSpec)) fnExactApplyTableUptoCard

/-- THE SECOND FORM's CARD OF 'laws.FnExactTimesTable'. -/
def fnExactTimesTableUptoCard : Claim7 := { stood := { row := fnExactTimesTableUptoRow, standIns := [], harness := (true, "57b2214fa7aef4da70091ba9144cc6f5d9a6a5a9ee41d53c6d17bff1b6ccbb02"), looks := true }, kinds := [], alts := [], laidByText := true, laidKinds := [.sentinel], laidTests := true, laidLooks := .later }
def FnExactTimesTableUptoCardSaid : Prop := Claim7.holds Tryd.pinned (.plain (OpenSpec.upto fnExactTimesTableSpec)) fnExactTimesTableUptoCard

/-- THE SECOND FORM's CARD OF 'laws.FnExactIsSymplectic'. -/
def fnExactIsSymplecticUptoCard : Claim7 := { stood := { row := fnExactIsSymplecticUptoRow, standIns := [], harness := (true, "57b2214fa7aef4da70091ba9144cc6f5d9a6a5a9ee41d53c6d17bff1b6ccbb02"), looks := true }, kinds := [], alts := [], laidByText := true, laidKinds := [.sentinel], laidTests := true, laidLooks := .later }
def FnExactIsSymplecticUptoCardSaid : Prop := Claim7.holds Tryd.pinned (.plain (OpenSpec.upto fnExactIsSymplecticSpec)) fnExactIsSymplecticUptoCard

/-- THE SECOND FORM's CARD OF 'laws.FnExactIsPrimitiveClass'. -/
def fnExactIsPrimitiveClassUptoCard : Claim7 := { stood := { row := fnExactIsPrimitiveClassUptoRow, standIns := [], harness := (true, "57b2214fa7aef4da70091ba9144cc6f5d9a6a5a9ee41d53c6d17bff1b6ccbb02"), looks := true }, kinds := [], alts := [], laidByText := true, laidKinds := [.sentinel], laidTests := true, laidLooks := .later }
def FnExactIsPrimitiveClassUptoCardSaid : Prop := Claim7.holds Tryd.pinned (.plain (OpenSpec.upto fnExactIsPrimitiveClassSpec)) fnExactIsPrimitiveClassUptoCard
end Rows
end Go.Proofs.YtamgimdjnmcpaaaDoor
