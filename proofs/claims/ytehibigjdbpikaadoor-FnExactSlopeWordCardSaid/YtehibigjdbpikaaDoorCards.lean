/-
  DERIVED. GIVEN WITH THE SEED: THE CARDS: each row of YtehibigjdbpikaaDoorRows.lean that lists a variable, with what it lists TIED to the program's text (the seventh form; the later family's looks); each row that meets fmt, with fmt's text TOLD by the authors' own Lean function (tested against real Go, not proved from fmt's source: count such statements apart). THE CARD IS WHAT COUNTS. Prove the row's statement (the work); the ties are given (YtehibigjdbpikaaDoorTie.lean); close each card by the builder's one call (the guide's Derived/Test/ToyasCard.lean, 'card_holds'). Laid BY PROGRAM, IN A SANDBOX (cutbox-door.mjs). By AI agents, Wed Nov 11 2026. No macro, syntax, notation, axiom, sorry.
-/
import Derived.Test.YtehibigjdbpikaaDoorRows
import GoSem.ClaimSeven
namespace Go.Proofs.YtehibigjdbpikaaDoor
namespace Rows

/-- THE TIED CARD OF 'laws.FnExactIsSlope'. -/
def fnExactIsSlopeCard : Claim7 := { stood := { row := fnExactIsSlopeRow, standIns := [], harness := (true, "9ed15f3a02c3b0e34f4dae34c62ba7b6bda6ad277556d5c298b394d752c0e919"), looks := true }, kinds := [], alts := [], laidByText := true, laidKinds := [.sentinel], laidTests := true, laidLooks := .later }
def FnExactIsSlopeCardSaid : Prop := Claim7.holds Tryd.pinned (.plain (OpenSpec.ofChange fnExactIsSlopeSpec)) fnExactIsSlopeCard

/-- THE TIED CARD OF 'laws.FnExactSlopeOf'. -/
def fnExactSlopeOfCard : Claim7 := { stood := { row := fnExactSlopeOfRow, standIns := [], harness := (true, "9ed15f3a02c3b0e34f4dae34c62ba7b6bda6ad277556d5c298b394d752c0e919"), looks := true }, kinds := [], alts := [], laidByText := true, laidKinds := [.sentinel], laidTests := true, laidLooks := .later }
def FnExactSlopeOfCardSaid : Prop := Claim7.holds Tryd.pinned (.plain (OpenSpec.ofChange fnExactSlopeOfSpec)) fnExactSlopeOfCard

/-- THE TIED CARD OF 'laws.FnExactSlopeText'. -/
def fnExactSlopeTextCard : Claim7 := { stood := { row := fnExactSlopeTextRow, standIns := [], harness := (true, "9ed15f3a02c3b0e34f4dae34c62ba7b6bda6ad277556d5c298b394d752c0e919"), looks := true }, kinds := [], alts := [], laidByText := true, laidKinds := [.data, .data, .data, .sentinel], laidTests := true, laidLooks := .later }
def FnExactSlopeTextCardSaid : Prop := Claim7.holds Tryd.pinned (.plain (OpenSpec.ofChange fnExactSlopeTextSpec)) fnExactSlopeTextCard

/-- THE TIED CARD OF 'laws.FnExactParseSlope'. -/
def fnExactParseSlopeCard : Claim7 := { stood := { row := fnExactParseSlopeRow, standIns := [], harness := (true, "9ed15f3a02c3b0e34f4dae34c62ba7b6bda6ad277556d5c298b394d752c0e919"), looks := true }, kinds := [], alts := [], laidByText := true, laidKinds := [.data, .data, .data, .sentinel, .sentinel, .sentinel], laidTests := true, laidLooks := .later }
def FnExactParseSlopeCardSaid : Prop := Claim7.holds Tryd.pinned (.plain (OpenSpec.ofChange fnExactParseSlopeSpec)) fnExactParseSlopeCard

/-- THE TIED CARD OF 'laws.FnExactCrossNumber'. -/
def fnExactCrossNumberCard : Claim7 := { stood := { row := fnExactCrossNumberRow, standIns := [], harness := (true, "9ed15f3a02c3b0e34f4dae34c62ba7b6bda6ad277556d5c298b394d752c0e919"), looks := true }, kinds := [], alts := [], laidByText := true, laidKinds := [.sentinel], laidTests := true, laidLooks := .later }
def FnExactCrossNumberCardSaid : Prop := Claim7.holds Tryd.pinned (.plain (OpenSpec.ofChange fnExactCrossNumberSpec)) fnExactCrossNumberCard

/-- THE TIED CARD OF 'laws.FnExactSumSlope'. -/
def fnExactSumSlopeCard : Claim7 := { stood := { row := fnExactSumSlopeRow, standIns := [], harness := (true, "9ed15f3a02c3b0e34f4dae34c62ba7b6bda6ad277556d5c298b394d752c0e919"), looks := true }, kinds := [], alts := [], laidByText := true, laidKinds := [.sentinel], laidTests := true, laidLooks := .later }
def FnExactSumSlopeCardSaid : Prop := Claim7.holds Tryd.pinned (.plain (OpenSpec.ofChange fnExactSumSlopeSpec)) fnExactSumSlopeCard

/-- THE TIED CARD OF 'laws.FnExactTwistSlope'. -/
def fnExactTwistSlopeCard : Claim7 := { stood := { row := fnExactTwistSlopeRow, standIns := [], harness := (true, "9ed15f3a02c3b0e34f4dae34c62ba7b6bda6ad277556d5c298b394d752c0e919"), looks := true }, kinds := [], alts := [], laidByText := true, laidKinds := [.sentinel], laidTests := true, laidLooks := .later }
def FnExactTwistSlopeCardSaid : Prop := Claim7.holds Tryd.pinned (.plain (OpenSpec.ofChange fnExactTwistSlopeSpec)) fnExactTwistSlopeCard

/-- THE TIED CARD OF 'laws.FnExactSlopeWord'. -/
def fnExactSlopeWordCard : Claim7 := { stood := { row := fnExactSlopeWordRow, standIns := [], harness := (true, "9ed15f3a02c3b0e34f4dae34c62ba7b6bda6ad277556d5c298b394d752c0e919"), looks := true }, kinds := [], alts := [], laidByText := true, laidKinds := [.sentinel], laidTests := true, laidLooks := .later }
def FnExactSlopeWordCardSaid : Prop := Claim7.holds Tryd.pinned (.plain (OpenSpec.ofChange fnExactSlopeWordSpec)) fnExactSlopeWordCard

/-- THE TIED CARD OF 'laws.FnExactIsBasisPair'. -/
def fnExactIsBasisPairCard : Claim7 := { stood := { row := fnExactIsBasisPairRow, standIns := [], harness := (true, "9ed15f3a02c3b0e34f4dae34c62ba7b6bda6ad277556d5c298b394d752c0e919"), looks := true }, kinds := [], alts := [], laidByText := true, laidKinds := [.sentinel], laidTests := true, laidLooks := .later }
def FnExactIsBasisPairCardSaid : Prop := Claim7.holds Tryd.pinned (.plain (OpenSpec.ofChange fnExactIsBasisPairSpec)) fnExactIsBasisPairCard

/-- THE SECOND FORM's CARD OF 'laws.FnExactIsSlope'. -/
def fnExactIsSlopeUptoCard : Claim7 := { stood := { row := fnExactIsSlopeUptoRow, standIns := [], harness := (true, "9ed15f3a02c3b0e34f4dae34c62ba7b6bda6ad277556d5c298b394d752c0e919"), looks := true }, kinds := [], alts := [], laidByText := true, laidKinds := [.sentinel], laidTests := true, laidLooks := .later }
def FnExactIsSlopeUptoCardSaid : Prop := Claim7.holds Tryd.pinned (.plain (OpenSpec.upto fnExactIsSlopeSpec)) fnExactIsSlopeUptoCard

/-- THE SECOND FORM's CARD OF 'laws.FnExactSlopeOf'. -/
def fnExactSlopeOfUptoCard : Claim7 := { stood := { row := fnExactSlopeOfUptoRow, standIns := [], harness := (true, "9ed15f3a02c3b0e34f4dae34c62ba7b6bda6ad277556d5c298b394d752c0e919"), looks := true }, kinds := [], alts := [], laidByText := true, laidKinds := [.sentinel], laidTests := true, laidLooks := .later }
def FnExactSlopeOfUptoCardSaid : Prop := Claim7.holds Tryd.pinned (.plain (OpenSpec.upto fnExactSlopeOfSpec)) fnExactSlopeOfUptoCard

/-- THE SECOND FORM's CARD OF 'laws.FnExactSlopeText'. -/
def fnExactSlopeTextUptoCard : Claim7 := { stood := { row := fnExactSlopeTextUptoRow, standIns := [], harness := (true, "9ed15f3a02c3b0e34f4dae34c62ba7b6bda6ad277556d5c298b394d752c0e919"), looks := true }, kinds := [], alts := [], laidByText := true, laidKinds := [.data, .data, .data, .sentinel], laidTests := true, laidLooks := .later }
def FnExactSlopeTextUptoCardSaid : Prop := Claim7.holds Tryd.pinned (.plain (OpenSpec.upto fnExactSlopeTextSpec)) fnExactSlopeTextUptoCard

/-- THE SECOND FORM's CARD OF 'laws.FnExactParseSlope'. -/
def fnExactParseSlopeUptoCard : Claim7 := { stood := { row := fnExactParseSlopeUptoRow, standIns := [], harness := (true, "9ed15f3a02c3b0e34f4dae34c62ba7b6bda6ad277556d5c298b394d752c0e919"), looks := true }, kinds := [], alts := [], laidByText := true, laidKinds := [.data, .data, .data, .sentinel, .sentinel, .sentinel], laidTests := true, laidLooks := .later }
def FnExactParseSlopeUptoCardSaid : Prop := Claim7.holds Tryd.pinned (.plain (OpenSpec.upto fnExactParseSlopeSpec)) fnExactParseSlopeUptoCard

/-- THE SECOND FORM's CARD OF 'laws.FnExactCrossNumber'. -/
def fnExactCrossNumberUptoCard : Claim7 := { stood := { row := fnExactCrossNumberUptoRow, standIns := [], harness := (true, "9ed15f3a02c3b0e34f4dae34c62ba7b6bda6ad277556d5c298b394d752c0e919"), looks := true }, kinds := [], alts := [], laidByText := true, laidKinds := [.sentinel], laidTests := true, laidLooks := .later }
def FnExactCrossNumberUptoCardSaid : Prop := Claim7.holds Tryd.pinned (.plain (OpenSpec.upto fnExactCrossNumberSpec)) fnExactCrossNumberUptoCard

/-- THE SECOND FORM's CARD OF 'laws.FnExactSumSlope'. -/
def fnExactSumSlopeUptoCard : Claim7 := { stood := { row := fnExactSumSlopeUptoRow, standIns := [], harness := (true, "9ed15f3a02c3b0e34f4dae34c62ba7b6bda6ad277556d5c298b394d752c0e919"), looks := true }, kinds := [], alts := [], laidByText := true, laidKinds := [.sentinel], laidTests := true, laidLooks := .later }
def FnExactSumSlopeUptoCardSaid : Prop := Claim7.holds Tryd.pinned (.plain (OpenSpec.upto fnExactSumSlopeSpec)) fnExactSumSlopeUptoCard

/-- THE SECOND FORM's CARD OF 'laws.FnExactTwistSlope'. -/
def fnExactTwistSlopeUptoCard : Claim7 := { stood := { row := fnExactTwistSlopeUptoRow, standIns := [], harness := (true, "9ed15f3a02c3b0e34f4dae34c62ba7b6bda6ad277556d5c298b394d752c0e919"), looks := true }, kinds := [], alts := [], laidByText := true, laidKinds := [.sentinel], laidTests := true, laidLooks := .later }
def FnExactTwistSlopeUptoCardSaid : Prop := Claim7.holds Tryd.pinned (.plain (OpenSpec.upto fnExactTwistSlopeSpec)) fnExactTwistSlopeUptoCard

/-- THE SECOND FORM's CARD OF 'laws.FnExactSlopeWord'. -/
def fnExactSlopeWordUptoCard : Claim7 := { stood := { row := fnExactSlopeWordUptoRow, standIns := [], harness := (true, "9ed15f3a02c3b0e34f4dae34c62ba7b6bda6ad277556d5c298b394d752c0e919"), looks := true }, kinds := [], alts := [], laidByText := true, laidKinds := [.sentinel], laidTests := true, laidLooks := .later }
def FnExactSlopeWordUptoCardSaid : Prop := Claim7.holds Tryd.pinned (.plain (OpenSpec.upto fnExactSlopeWordSpec)) fnExactSlopeWordUptoCard

/-- THE SECOND FORM's CARD OF 'laws.FnExactIsBasisPair'. -/
def fnExactIsBasisPairUptoCard : Claim7 := { stood := { row := fnExactIsBasisPairUptoRow, standIns := [], harness := (true, "9ed15f3a02c3b0e34f4dae34c62ba7b6bda6ad277556d5c298b394d752c0e919"), looks := true }, kinds := [], alts := [], laidByText := true, laidKinds := [.sentinel], laidTests := true, laidLooks := .later }
def FnExactIsBasisPairUptoCardSaid : Prop := Claim7.holds Tryd.pinned (.plain (OpenSpec.upto fnExactIsBasisPairSpec)) fnExactIsBasisPairUptoCard
end Rows
end Go.Proofs.YtehibigjdbpikaaDoor
