/-
  DERIVED. GIVEN WITH THE SEED: THE CARDS: each row of YtehibigjdbpikaaGreatDoorRows.lean that lists a variable, with what it lists TIED to the program's text (the seventh form; the later family's looks); each row that meets fmt, with fmt's text TOLD by the authors' own Lean function (tested against real Go, not proved from fmt's source: count such statements apart). THE CARD IS WHAT COUNTS. Prove the row's statement (the work); the ties are given (YtehibigjdbpikaaGreatDoorTie.lean); close each card by the builder's one call (the guide's Derived/Test/ToyasCard.lean, 'card_holds'). Laid BY PROGRAM, IN A SANDBOX (cutbox-door.mjs). By AI agents, Wed Nov 11 2026. No macro, syntax, notation, axiom, sorry.
-/
import Derived.Test.YtehibigjdbpikaaGreatDoorRows
import GoSem.ClaimSeven
namespace Go.Proofs.YtehibigjdbpikaaGreatDoor
namespace Rows

/-- THE TIED CARD OF 'laws.FnGraphs'. -/
def fnGraphsCard : Claim7 := { stood := { row := fnGraphsRow, standIns := [], harness := (true, "ed60eb67052e334aede0891145fed93ed0820d9a426b0e59fb13e456c3e445a3"), looks := true }, kinds := [], alts := [], laidByText := true, laidKinds := [.data, .data, .data, .data, .pinned], laidTests := true, laidLooks := .later }
def FnGraphsCardSaid : Prop := Claim7.holds Tryz.pinned (.plain (OpenSpec.ofChange fnGraphsSpec)) fnGraphsCard

/-- THE TIED CARD OF 'laws.FnSlopes'. -/
def fnSlopesCard : Claim7 := { stood := { row := fnSlopesRow, standIns := [], harness := (true, "ed60eb67052e334aede0891145fed93ed0820d9a426b0e59fb13e456c3e445a3"), looks := true }, kinds := [], alts := [], laidByText := true, laidKinds := [.data, .data, .data, .sentinel, .sentinel, .sentinel], laidTests := true, laidLooks := .later }
def FnSlopesCardSaid : Prop := Claim7.holds Tryz.pinned (.plain (OpenSpec.ofChange fnSlopesSpec)) fnSlopesCard

/-- THE SECOND FORM's CARD OF 'laws.FnGraphs'. -/
def fnGraphsUptoCard : Claim7 := { stood := { row := fnGraphsUptoRow, standIns := [], harness := (true, "ed60eb67052e334aede0891145fed93ed0820d9a426b0e59fb13e456c3e445a3"), looks := true }, kinds := [], alts := [], laidByText := true, laidKinds := [.data, .data, .data, .data, .pinned], laidTests := true, laidLooks := .later }
def FnGraphsUptoCardSaid : Prop := Claim7.holds Tryz.pinned (.plain (OpenSpec.upto fnGraphsSpec)) fnGraphsUptoCard

/-- THE SECOND FORM's CARD OF 'laws.FnSlopes'. -/
def fnSlopesUptoCard : Claim7 := { stood := { row := fnSlopesUptoRow, standIns := [], harness := (true, "ed60eb67052e334aede0891145fed93ed0820d9a426b0e59fb13e456c3e445a3"), looks := true }, kinds := [], alts := [], laidByText := true, laidKinds := [.data, .data, .data, .sentinel, .sentinel, .sentinel], laidTests := true, laidLooks := .later }
def FnSlopesUptoCardSaid : Prop := Claim7.holds Tryz.pinned (.plain (OpenSpec.upto fnSlopesSpec)) fnSlopesUptoCard
end Rows
end Go.Proofs.YtehibigjdbpikaaGreatDoor
