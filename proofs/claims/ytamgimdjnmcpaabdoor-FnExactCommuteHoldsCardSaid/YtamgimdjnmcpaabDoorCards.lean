/-
  DERIVED. GIVEN WITH THE SEED: THE CARDS: each row of YtamgimdjnmcpaabDoorRows.lean that lists a variable, with what it lists TIED to the program's text (the seventh form; the later family's looks); each row that meets fmt, with fmt's text TOLD by the authors' own Lean function (tested against real Go, not proved from fmt's source: count such statements apart). THE CARD IS WHAT COUNTS. Prove the row's statement (the work); the ties are given (YtamgimdjnmcpaabDoorTie.lean); close each card by the builder's one call (the guide's Derived/Test/ToyasCard.lean, 'card_holds'). Laid BY PROGRAM, IN A SANDBOX (cutbox-door.mjs). By AI agents, Wed Nov 11 2026. No macro, syntax, notation, axiom, sorry.
-/
import Derived.Test.YtamgimdjnmcpaabDoorRows
import GoSem.ClaimSeven
namespace Go.Proofs.YtamgimdjnmcpaabDoor
namespace Rows

/-- THE TIED CARD OF 'laws.FnExactBraidHolds'. -/
def fnExactBraidHoldsCard : Claim7 := { stood := { row := fnExactBraidHoldsRow, standIns := [], harness := (true, "cc2f2795d58190ff07938d527c76008a87c30fd8d5c765e52abdc1dcfc612e82"), looks := true }, kinds := [], alts := [], laidByText := true, laidKinds := [.sentinel], laidTests := true, laidLooks := .later }
def FnExactBraidHoldsCardSaid : Prop := Claim7.holds Tryd.pinned (.plain (OpenSpec.ofChange fnExactBraidHoldsSpec)) fnExactBraidHoldsCard

/-- THE TIED CARD OF 'laws.FnExactCommuteHolds'. -/
def fnExactCommuteHoldsCard : Claim7 := { stood := { row := fnExactCommuteHoldsRow, standIns := [], harness := (true, "cc2f2795d58190ff07938d527c76008a87c30fd8d5c765e52abdc1dcfc612e82"), looks := true }, kinds := [], alts := [], laidByText := true, laidKinds := [.sentinel], laidTests := true, laidLooks := .later }
def FnExactCommuteHoldsCardSaid : Prop := Claim7.holds Tryd.pinned (.plain (OpenSpec.ofChange fnExactCommuteHoldsSpec)) fnExactCommuteHoldsCard

/-- THE SECOND FORM's CARD OF 'laws.FnExactBraidHolds'. -/
def fnExactBraidHoldsUptoCard : Claim7 := { stood := { row := fnExactBraidHoldsUptoRow, standIns := [], harness := (true, "cc2f2795d58190ff07938d527c76008a87c30fd8d5c765e52abdc1dcfc612e82"), looks := true }, kinds := [], alts := [], laidByText := true, laidKinds := [.sentinel], laidTests := true, laidLooks := .later }
def FnExactBraidHoldsUptoCardSaid : Prop := Claim7.holds Tryd.pinned (.plain (OpenSpec.upto fnExactBraidHoldsSpec)) fnExactBraidHoldsUptoCard

/-- THE SECOND FORM's CARD OF 'laws.FnExactCommuteHolds'. -/
def fnExactCommuteHoldsUptoCard : Claim7 := { stood := { row := fnExactCommuteHoldsUptoRow, standIns := [], harness := (true, "cc2f2795d58190ff07938d527c76008a87c30fd8d5c765e52abdc1dcfc612e82"), looks := true }, kinds := [], alts := [], laidByText := true, laidKinds := [.sentinel], laidTests := true, laidLooks := .later }
def FnExactCommuteHoldsUptoCardSaid : Prop := Claim7.holds Tryd.pinned (.plain (OpenSpec.upto fnExactCommuteHoldsSpec)) fnExactCommuteHoldsUptoCard
end Rows
end Go.Proofs.YtamgimdjnmcpaabDoor
