/-
  DERIVED. GIVEN WITH THE SEED: THE CARDS: each row of YtmopgapeibdpoaaDoorRows.lean that lists a variable, with what it lists TIED to the program's text (the seventh form; the later family's looks); each row that meets fmt, with fmt's text TOLD by the authors' own Lean function (tested against real Go, not proved from fmt's source: count such statements apart). THE CARD IS WHAT COUNTS. Prove the row's statement (the work); the ties are given (YtmopgapeibdpoaaDoorTie.lean); close each card by the builder's one call (the guide's Derived/Test/ToyasCard.lean, 'card_holds'). Laid BY PROGRAM, IN A SANDBOX (cutbox-door.mjs). By AI agents, Wed Nov 11 2026. No macro, syntax, notation, axiom, sorry.
-/
import Derived.Test.YtmopgapeibdpoaaDoorRows
import GoSem.ClaimSeven
namespace Go.Proofs.YtmopgapeibdpoaaDoor
namespace Rows

/-- THE TIED CARD OF 'laws.FnGluings'. -/
def fnGluingsCard : Claim7 := { stood := { row := fnGluingsRow, standIns := [], harness := (true, "fd8e445c42f7fe109b2bf33e7143823335ff7c3f0cc57464ce2dd86a6f82adec"), looks := false }, kinds := [], alts := [], laidByText := true, laidKinds := [.data, .pinned], laidTests := true, laidLooks := .later }
def FnGluingsCardSaid : Prop := Claim7.holds Tryd.pinned (.plain (OpenSpec.ofChange fnGluingsSpec)) fnGluingsCard

/-- THE TIED CARD OF 'laws.FnSurfaces'. -/
def fnSurfacesCard : Claim7 := { stood := { row := fnSurfacesRow, standIns := [], harness := (true, "fd8e445c42f7fe109b2bf33e7143823335ff7c3f0cc57464ce2dd86a6f82adec"), looks := false }, kinds := [], alts := [], laidByText := true, laidKinds := [.data, .data, .data], laidTests := true, laidLooks := .later }
def FnSurfacesCardSaid : Prop := Claim7.holds Tryd.pinned (.plain (OpenSpec.ofChange fnSurfacesSpec)) fnSurfacesCard

/-- THE TIED CARD OF 'laws.FnExactSurfaceName'. -/
def fnExactSurfaceNameCard : Claim7 := { stood := { row := fnExactSurfaceNameRow, standIns := [], harness := (true, "fd8e445c42f7fe109b2bf33e7143823335ff7c3f0cc57464ce2dd86a6f82adec"), looks := false }, kinds := [], alts := [], laidByText := true, laidKinds := [.data, .data, .data], laidTests := true, laidLooks := .later }
def FnExactSurfaceNameCardSaid : Prop := Claim7.holds Tryd.pinned (.plain (OpenSpec.ofChange fnExactSurfaceNameSpec)) fnExactSurfaceNameCard

/-- THE SECOND FORM's CARD OF 'laws.FnGluings'. -/
def fnGluingsUptoCard : Claim7 := { stood := { row := fnGluingsUptoRow, standIns := [], harness := (true, "fd8e445c42f7fe109b2bf33e7143823335ff7c3f0cc57464ce2dd86a6f82adec"), looks := false }, kinds := [], alts := [], laidByText := true, laidKinds := [.data, .pinned], laidTests := true, laidLooks := .later }
def FnGluingsUptoCardSaid : Prop := Claim7.holds Tryd.pinned (.plain (OpenSpec.upto fnGluingsSpec)) fnGluingsUptoCard

/-- THE SECOND FORM's CARD OF 'laws.FnSurfaces'. -/
def fnSurfacesUptoCard : Claim7 := { stood := { row := fnSurfacesUptoRow, standIns := [], harness := (true, "fd8e445c42f7fe109b2bf33e7143823335ff7c3f0cc57464ce2dd86a6f82adec"), looks := false }, kinds := [], alts := [], laidByText := true, laidKinds := [.data, .data, .data], laidTests := true, laidLooks := .later }
def FnSurfacesUptoCardSaid : Prop := Claim7.holds Tryd.pinned (.plain (OpenSpec.upto fnSurfacesSpec)) fnSurfacesUptoCard

/-- THE SECOND FORM's CARD OF 'laws.FnExactSurfaceName'. -/
def fnExactSurfaceNameUptoCard : Claim7 := { stood := { row := fnExactSurfaceNameUptoRow, standIns := [], harness := (true, "fd8e445c42f7fe109b2bf33e7143823335ff7c3f0cc57464ce2dd86a6f82adec"), looks := false }, kinds := [], alts := [], laidByText := true, laidKinds := [.data, .data, .data], laidTests := true, laidLooks := .later }
def FnExactSurfaceNameUptoCardSaid : Prop := Claim7.holds Tryd.pinned (.plain (OpenSpec.upto fnExactSurfaceNameSpec)) fnExactSurfaceNameUptoCard
end Rows
end Go.Proofs.YtmopgapeibdpoaaDoor
