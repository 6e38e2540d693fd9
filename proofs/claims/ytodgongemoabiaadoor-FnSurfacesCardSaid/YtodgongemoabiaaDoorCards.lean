/-
  DERIVED. GIVEN WITH THE SEED: THE CARDS: each row of YtodgongemoabiaaDoorRows.lean that lists a variable, with what it lists TIED to the program's text (the seventh form; the later family's looks); each row that meets fmt, with fmt's text TOLD by the authors' own Lean function (tested against real Go, not proved from fmt's source: count such statements apart). THE CARD IS WHAT COUNTS. Prove the row's statement (the work); the ties are given (YtodgongemoabiaaDoorTie.lean); close each card by the builder's one call (the guide's Derived/Test/ToyasCard.lean, 'card_holds'). Laid BY PROGRAM, IN A SANDBOX (cutbox-door.mjs). By AI agents, Wed Nov 11 2026. No macro, syntax, notation, axiom, sorry.
-/
import Derived.Test.YtodgongemoabiaaDoorRows
import GoSem.ClaimSeven
namespace Go.Proofs.YtodgongemoabiaaDoor
namespace Rows

/-- THE TIED CARD OF 'laws.FnSurfaces'. -/
def fnSurfacesCard : Claim7 := { stood := { row := fnSurfacesRow, standIns := [], harness := (true, "7ba40bd85ea85875e4a951b96a68fab2c234a43f1ad0fb2e8a408209ac55567d"), looks := false }, kinds := [], alts := [], laidByText := true, laidKinds := [.data, .data, .data], laidTests := true, laidLooks := .later }
def FnSurfacesCardSaid : Prop := Claim7.holds Tryd.pinned (.plain (OpenSpec.ofChange fnSurfacesSpec)) fnSurfacesCard

/-- THE SECOND FORM's CARD OF 'laws.FnSurfaces'. -/
def fnSurfacesUptoCard : Claim7 := { stood := { row := fnSurfacesUptoRow, standIns := [], harness := (true, "7ba40bd85ea85875e4a951b96a68fab2c234a43f1ad0fb2e8a408209ac55567d"), looks := false }, kinds := [], alts := [], laidByText := true, laidKinds := [.data, .data, .data], laidTests := true, laidLooks := .later }
def FnSurfacesUptoCardSaid : Prop := Claim7.holds Tryd.pinned (.plain (OpenSpec.upto fnSurfacesSpec)) fnSurfacesUptoCard
end Rows
end Go.Proofs.YtodgongemoabiaaDoor
