/-
  No cell of these rows narrows 'for every input' (looked for: loops, veiled, ifaces, maps, wideKeys, modest, calm, conditions, laid).
  DERIVED. THE GIVEN ROWS OF THIS SEAT. 9 by the template 'for every input the law returns true; each argument reads behind the call as it read before'; 0 by the template 'total and deterministic' (their statements: YtmopgapeibdpoaaTotals.lean).
  GIVEN WITH THE SEED: the statements are not yours to turn. If you find one false, say at which input.
  Laid BY PROGRAM, IN A SANDBOX (cutbox-rows.mjs): the forced cells as the released guide's own fill.sh prints them over the translation b3bd223b9f928be9… (all of the seat's roots in one cut). By AI agents, Wed Nov 11 2026. No macro, syntax, notation, axiom, sorry.
-/
import Derived.Test.YtmopgapeibdpoaaChecked
import GoSem.Claim
import GoSem.ClaimJoined
import GoSem.ClaimMapViews
import Derived.JoinedTies
import Derived.KernelRfl
namespace Go.Proofs.Ytmopgapeibdpoaa
/- THE CELL 'sum', in the pinned program and in every row, IS THE sha256 OF THE DUMP (.gsa) THAT YtmopgapeibdpoaaProg.lean LOADS. Nothing in Lean hashes anything: it is a label: what it is worth is what the hold of that sum in a sandbox is worth. -/
noncomputable def Try.pinned : Pinned := { name := "ytmopgapeibdpoaa", sum := "b3bd223b9f928be995d2f25e5ed23066403cacdef6d650c8d649443c6a8825b0", checked := Try.checked }
namespace Rows
def none {H : Type} : Left H := { results := [], args := [] }

/-- 'laws.FnExactIsSurface': WHATEVER THE INPUT: true; the input reads as it did. -/
def fnExactIsSurfaceSpec : ChangeSpec := { name := "fnExactIsSurface", fn := fun _ => fun
  | [d] => { results := [.lit (.bool true)], args := [d] }
  | _ => none }
def fnExactIsSurfaceRow : OpenClaim := { program := "ytmopgapeibdpoaa", sum := "b3bd223b9f928be995d2f25e5ed23066403cacdef6d650c8d649443c6a8825b0", func := "loop.example/g03105/laws.FnExactIsSurface", spec := "fnExactIsSurface", apart := false }
def FnExactIsSurfaceSaid : Prop := fnExactIsSurfaceRow.holds Try.pinned (OpenSpec.ofChange fnExactIsSurfaceSpec)

/-- ITS FALSE NEIGHBOUR: 'it returns false'. Refute it at one input. -/
def fnExactIsSurfaceWrong : ChangeSpec := { name := "fnExactIsSurface", fn := fun _ => fun
  | [d] => { results := [.lit (.bool false)], args := [d] }
  | _ => none }
def FnExactIsSurfaceWrongFalsely : Prop := fnExactIsSurfaceRow.holds Try.pinned (OpenSpec.ofChange fnExactIsSurfaceWrong)

/-- 'laws.FnExactEulerNumber': WHATEVER THE INPUT: true; the input reads as it did. -/
def fnExactEulerNumberSpec : ChangeSpec := { name := "fnExactEulerNumber", fn := fun _ => fun
  | [d] => { results := [.lit (.bool true)], args := [d] }
  | _ => none }
def fnExactEulerNumberRow : OpenClaim := { program := "ytmopgapeibdpoaa", sum := "b3bd223b9f928be995d2f25e5ed23066403cacdef6d650c8d649443c6a8825b0", func := "loop.example/g03105/laws.FnExactEulerNumber", spec := "fnExactEulerNumber", apart := false }
def FnExactEulerNumberSaid : Prop := fnExactEulerNumberRow.holds Try.pinned (OpenSpec.ofChange fnExactEulerNumberSpec)

/-- ITS FALSE NEIGHBOUR: 'it returns false'. Refute it at one input. -/
def fnExactEulerNumberWrong : ChangeSpec := { name := "fnExactEulerNumber", fn := fun _ => fun
  | [d] => { results := [.lit (.bool false)], args := [d] }
  | _ => none }
def FnExactEulerNumberWrongFalsely : Prop := fnExactEulerNumberRow.holds Try.pinned (OpenSpec.ofChange fnExactEulerNumberWrong)

/-- 'laws.FnExactSurfaceOf': WHATEVER THE INPUT: true; the input reads as it did. -/
def fnExactSurfaceOfSpec : ChangeSpec := { name := "fnExactSurfaceOf", fn := fun _ => fun
  | [d] => { results := [.lit (.bool true)], args := [d] }
  | _ => none }
def fnExactSurfaceOfRow : OpenClaim := { program := "ytmopgapeibdpoaa", sum := "b3bd223b9f928be995d2f25e5ed23066403cacdef6d650c8d649443c6a8825b0", func := "loop.example/g03105/laws.FnExactSurfaceOf", spec := "fnExactSurfaceOf", apart := false }
def FnExactSurfaceOfSaid : Prop := fnExactSurfaceOfRow.holds Try.pinned (OpenSpec.ofChange fnExactSurfaceOfSpec)

/-- ITS FALSE NEIGHBOUR: 'it returns false'. Refute it at one input. -/
def fnExactSurfaceOfWrong : ChangeSpec := { name := "fnExactSurfaceOf", fn := fun _ => fun
  | [d] => { results := [.lit (.bool false)], args := [d] }
  | _ => none }
def FnExactSurfaceOfWrongFalsely : Prop := fnExactSurfaceOfRow.holds Try.pinned (OpenSpec.ofChange fnExactSurfaceOfWrong)

/-- 'laws.FnExactSumSurface': WHATEVER THE INPUT: true; the input reads as it did. -/
def fnExactSumSurfaceSpec : ChangeSpec := { name := "fnExactSumSurface", fn := fun _ => fun
  | [d1, d2] => { results := [.lit (.bool true)], args := [d1, d2] }
  | _ => none }
def fnExactSumSurfaceRow : OpenClaim := { program := "ytmopgapeibdpoaa", sum := "b3bd223b9f928be995d2f25e5ed23066403cacdef6d650c8d649443c6a8825b0", func := "loop.example/g03105/laws.FnExactSumSurface", spec := "fnExactSumSurface", apart := false }
def FnExactSumSurfaceSaid : Prop := fnExactSumSurfaceRow.holds Try.pinned (OpenSpec.ofChange fnExactSumSurfaceSpec)

/-- ITS FALSE NEIGHBOUR: 'it returns false'. Refute it at one input. -/
def fnExactSumSurfaceWrong : ChangeSpec := { name := "fnExactSumSurface", fn := fun _ => fun
  | [d1, d2] => { results := [.lit (.bool false)], args := [d1, d2] }
  | _ => none }
def FnExactSumSurfaceWrongFalsely : Prop := fnExactSumSurfaceRow.holds Try.pinned (OpenSpec.ofChange fnExactSumSurfaceWrong)

/-- 'laws.FnExactCapBorder': WHATEVER THE INPUT: true; the input reads as it did. -/
def fnExactCapBorderSpec : ChangeSpec := { name := "fnExactCapBorder", fn := fun _ => fun
  | [d] => { results := [.lit (.bool true)], args := [d] }
  | _ => none }
def fnExactCapBorderRow : OpenClaim := { program := "ytmopgapeibdpoaa", sum := "b3bd223b9f928be995d2f25e5ed23066403cacdef6d650c8d649443c6a8825b0", func := "loop.example/g03105/laws.FnExactCapBorder", spec := "fnExactCapBorder", apart := false }
def FnExactCapBorderSaid : Prop := fnExactCapBorderRow.holds Try.pinned (OpenSpec.ofChange fnExactCapBorderSpec)

/-- ITS FALSE NEIGHBOUR: 'it returns false'. Refute it at one input. -/
def fnExactCapBorderWrong : ChangeSpec := { name := "fnExactCapBorder", fn := fun _ => fun
  | [d] => { results := [.lit (.bool false)], args := [d] }
  | _ => none }
def FnExactCapBorderWrongFalsely : Prop := fnExactCapBorderRow.holds Try.pinned (OpenSpec.ofChange fnExactCapBorderWrong)

/-- 'laws.FnExactWithHandle': WHATEVER THE INPUT: true; the input reads as it did. -/
def fnExactWithHandleSpec : ChangeSpec := { name := "fnExactWithHandle", fn := fun _ => fun
  | [d] => { results := [.lit (.bool true)], args := [d] }
  | _ => none }
def fnExactWithHandleRow : OpenClaim := { program := "ytmopgapeibdpoaa", sum := "b3bd223b9f928be995d2f25e5ed23066403cacdef6d650c8d649443c6a8825b0", func := "loop.example/g03105/laws.FnExactWithHandle", spec := "fnExactWithHandle", apart := false }
def FnExactWithHandleSaid : Prop := fnExactWithHandleRow.holds Try.pinned (OpenSpec.ofChange fnExactWithHandleSpec)

/-- ITS FALSE NEIGHBOUR: 'it returns false'. Refute it at one input. -/
def fnExactWithHandleWrong : ChangeSpec := { name := "fnExactWithHandle", fn := fun _ => fun
  | [d] => { results := [.lit (.bool false)], args := [d] }
  | _ => none }
def FnExactWithHandleWrongFalsely : Prop := fnExactWithHandleRow.holds Try.pinned (OpenSpec.ofChange fnExactWithHandleWrong)

/-- 'laws.FnExactWithCrosscap': WHATEVER THE INPUT: true; the input reads as it did. -/
def fnExactWithCrosscapSpec : ChangeSpec := { name := "fnExactWithCrosscap", fn := fun _ => fun
  | [d] => { results := [.lit (.bool true)], args := [d] }
  | _ => none }
def fnExactWithCrosscapRow : OpenClaim := { program := "ytmopgapeibdpoaa", sum := "b3bd223b9f928be995d2f25e5ed23066403cacdef6d650c8d649443c6a8825b0", func := "loop.example/g03105/laws.FnExactWithCrosscap", spec := "fnExactWithCrosscap", apart := false }
def FnExactWithCrosscapSaid : Prop := fnExactWithCrosscapRow.holds Try.pinned (OpenSpec.ofChange fnExactWithCrosscapSpec)

/-- ITS FALSE NEIGHBOUR: 'it returns false'. Refute it at one input. -/
def fnExactWithCrosscapWrong : ChangeSpec := { name := "fnExactWithCrosscap", fn := fun _ => fun
  | [d] => { results := [.lit (.bool false)], args := [d] }
  | _ => none }
def FnExactWithCrosscapWrongFalsely : Prop := fnExactWithCrosscapRow.holds Try.pinned (OpenSpec.ofChange fnExactWithCrosscapWrong)

/-- 'laws.FnExactWithBorder': WHATEVER THE INPUT: true; the input reads as it did. -/
def fnExactWithBorderSpec : ChangeSpec := { name := "fnExactWithBorder", fn := fun _ => fun
  | [d] => { results := [.lit (.bool true)], args := [d] }
  | _ => none }
def fnExactWithBorderRow : OpenClaim := { program := "ytmopgapeibdpoaa", sum := "b3bd223b9f928be995d2f25e5ed23066403cacdef6d650c8d649443c6a8825b0", func := "loop.example/g03105/laws.FnExactWithBorder", spec := "fnExactWithBorder", apart := false }
def FnExactWithBorderSaid : Prop := fnExactWithBorderRow.holds Try.pinned (OpenSpec.ofChange fnExactWithBorderSpec)

/-- ITS FALSE NEIGHBOUR: 'it returns false'. Refute it at one input. -/
def fnExactWithBorderWrong : ChangeSpec := { name := "fnExactWithBorder", fn := fun _ => fun
  | [d] => { results := [.lit (.bool false)], args := [d] }
  | _ => none }
def FnExactWithBorderWrongFalsely : Prop := fnExactWithBorderRow.holds Try.pinned (OpenSpec.ofChange fnExactWithBorderWrong)

/-- 'laws.FnExactStandardGluing': WHATEVER THE INPUT: true; the input reads as it did. -/
def fnExactStandardGluingSpec : ChangeSpec := { name := "fnExactStandardGluing", fn := fun _ => fun
  | [d] => { results := [.lit (.bool true)], args := [d] }
  | _ => none }
def fnExactStandardGluingRow : OpenClaim := { program := "ytmopgapeibdpoaa", sum := "b3bd223b9f928be995d2f25e5ed23066403cacdef6d650c8d649443c6a8825b0", func := "loop.example/g03105/laws.FnExactStandardGluing", spec := "fnExactStandardGluing", apart := false }
def FnExactStandardGluingSaid : Prop := fnExactStandardGluingRow.holds Try.pinned (OpenSpec.ofChange fnExactStandardGluingSpec)

/-- ITS FALSE NEIGHBOUR: 'it returns false'. Refute it at one input. -/
def fnExactStandardGluingWrong : ChangeSpec := { name := "fnExactStandardGluing", fn := fun _ => fun
  | [d] => { results := [.lit (.bool false)], args := [d] }
  | _ => none }
def FnExactStandardGluingWrongFalsely : Prop := fnExactStandardGluingRow.holds Try.pinned (OpenSpec.ofChange fnExactStandardGluingWrong)

/- THE SECOND FORM. 'bulk': how many values and letters a reading holds, each counted each time it is reached (what is shared counts as often as it is met; a slice's spare places count too). A statement '..UptoSaid' is the law's where the arguments, and the package variables that the reading takes, are together of bulk at most 1048576: NARROWER than '..Said'. Prove '..Said' where nothing that the law and all that it calls make is longer than what came in: it says more and counts as full. Else prove '..UptoSaid'. A law counts once. -/
mutual
def uptoBulk {H : Type} : DataW H → Nat
  | .lit (.string bytes) => bytes.length + 1
  | .lit _ => 1
  | .nil => 1
  | .ptr d => uptoBulk d + 1
  | .slice elems spare => uptoBulkAll elems + uptoBulkAll spare + 1
  | .agg parts => uptoBulkAll parts + 1
  | .iface _ d => uptoBulk d + 1
  | .map entries => uptoBulkEntries entries + 1
  | .held _ => 1
def uptoBulkAll {H : Type} : List (DataW H) → Nat
  | [] => 0
  | d :: r => uptoBulk d + uptoBulkAll r
def uptoBulkEntries {H : Type} : List (Lit × DataW H) → Nat
  | [] => 0
  | x :: r => uptoBulkEntry x + uptoBulkEntries r
def uptoBulkEntry {H : Type} : Lit × DataW H → Nat
  | (.string bytes, d) => bytes.length + uptoBulk d + 1
  | (_, d) => uptoBulk d + 1
 end
def uptoSmall : (H : Type) → List (DataW H) → Bool := fun _ ds => decide (uptoBulkAll ds ≤ 1048576)
def OpenSpec.upto (s : _root_.Go.ChangeSpec) : _root_.Go.OpenSpec := { _root_.Go.OpenSpec.ofChange s with cond := some uptoSmall }

/-- 'laws.FnExactIsSurface', WHERE WHAT IT READS IS OF BULK AT MOST 1048576: true; the input reads as it did. -/
def fnExactIsSurfaceUptoRow : OpenClaim := { program := "ytmopgapeibdpoaa", sum := "b3bd223b9f928be995d2f25e5ed23066403cacdef6d650c8d649443c6a8825b0", func := "loop.example/g03105/laws.FnExactIsSurface", spec := "fnExactIsSurface", apart := false, narrowed := true }
def FnExactIsSurfaceUptoSaid : Prop := fnExactIsSurfaceUptoRow.holds Try.pinned (OpenSpec.upto fnExactIsSurfaceSpec)

/-- 'laws.FnExactEulerNumber', WHERE WHAT IT READS IS OF BULK AT MOST 1048576: true; the input reads as it did. -/
def fnExactEulerNumberUptoRow : OpenClaim := { program := "ytmopgapeibdpoaa", sum := "b3bd223b9f928be995d2f25e5ed23066403cacdef6d650c8d649443c6a8825b0", func := "loop.example/g03105/laws.FnExactEulerNumber", spec := "fnExactEulerNumber", apart := false, narrowed := true }
def FnExactEulerNumberUptoSaid : Prop := fnExactEulerNumberUptoRow.holds Try.pinned (OpenSpec.upto fnExactEulerNumberSpec)

/-- 'laws.FnExactSurfaceOf', WHERE WHAT IT READS IS OF BULK AT MOST 1048576: true; the input reads as it did. -/
def fnExactSurfaceOfUptoRow : OpenClaim := { program := "ytmopgapeibdpoaa", sum := "b3bd223b9f928be995d2f25e5ed23066403cacdef6d650c8d649443c6a8825b0", func := "loop.example/g03105/laws.FnExactSurfaceOf", spec := "fnExactSurfaceOf", apart := false, narrowed := true }
def FnExactSurfaceOfUptoSaid : Prop := fnExactSurfaceOfUptoRow.holds Try.pinned (OpenSpec.upto fnExactSurfaceOfSpec)

/-- 'laws.FnExactSumSurface', WHERE WHAT IT READS IS OF BULK AT MOST 1048576: true; the input reads as it did. -/
def fnExactSumSurfaceUptoRow : OpenClaim := { program := "ytmopgapeibdpoaa", sum := "b3bd223b9f928be995d2f25e5ed23066403cacdef6d650c8d649443c6a8825b0", func := "loop.example/g03105/laws.FnExactSumSurface", spec := "fnExactSumSurface", apart := false, narrowed := true }
def FnExactSumSurfaceUptoSaid : Prop := fnExactSumSurfaceUptoRow.holds Try.pinned (OpenSpec.upto fnExactSumSurfaceSpec)

/-- 'laws.FnExactCapBorder', WHERE WHAT IT READS IS OF BULK AT MOST 1048576: true; the input reads as it did. -/
def fnExactCapBorderUptoRow : OpenClaim := { program := "ytmopgapeibdpoaa", sum := "b3bd223b9f928be995d2f25e5ed23066403cacdef6d650c8d649443c6a8825b0", func := "loop.example/g03105/laws.FnExactCapBorder", spec := "fnExactCapBorder", apart := false, narrowed := true }
def FnExactCapBorderUptoSaid : Prop := fnExactCapBorderUptoRow.holds Try.pinned (OpenSpec.upto fnExactCapBorderSpec)

/-- 'laws.FnExactWithHandle', WHERE WHAT IT READS IS OF BULK AT MOST 1048576: true; the input reads as it did. -/
def fnExactWithHandleUptoRow : OpenClaim := { program := "ytmopgapeibdpoaa", sum := "b3bd223b9f928be995d2f25e5ed23066403cacdef6d650c8d649443c6a8825b0", func := "loop.example/g03105/laws.FnExactWithHandle", spec := "fnExactWithHandle", apart := false, narrowed := true }
def FnExactWithHandleUptoSaid : Prop := fnExactWithHandleUptoRow.holds Try.pinned (OpenSpec.upto fnExactWithHandleSpec)

/-- 'laws.FnExactWithCrosscap', WHERE WHAT IT READS IS OF BULK AT MOST 1048576: true; the input reads as it did. -/
def fnExactWithCrosscapUptoRow : OpenClaim := { program := "ytmopgapeibdpoaa", sum := "b3bd223b9f928be995d2f25e5ed23066403cacdef6d650c8d649443c6a8825b0", func := "loop.example/g03105/laws.FnExactWithCrosscap", spec := "fnExactWithCrosscap", apart := false, narrowed := true }
def FnExactWithCrosscapUptoSaid : Prop := fnExactWithCrosscapUptoRow.holds Try.pinned (OpenSpec.upto fnExactWithCrosscapSpec)

/-- 'laws.FnExactWithBorder', WHERE WHAT IT READS IS OF BULK AT MOST 1048576: true; the input reads as it did. -/
def fnExactWithBorderUptoRow : OpenClaim := { program := "ytmopgapeibdpoaa", sum := "b3bd223b9f928be995d2f25e5ed23066403cacdef6d650c8d649443c6a8825b0", func := "loop.example/g03105/laws.FnExactWithBorder", spec := "fnExactWithBorder", apart := false, narrowed := true }
def FnExactWithBorderUptoSaid : Prop := fnExactWithBorderUptoRow.holds Try.pinned (OpenSpec.upto fnExactWithBorderSpec)

/-- 'laws.FnExactStandardGluing', WHERE WHAT IT READS IS OF BULK AT MOST 1048576: true; the input reads as it did. -/
def fnExactStandardGluingUptoRow : OpenClaim := { program := "ytmopgapeibdpoaa", sum := "b3bd223b9f928be995d2f25e5ed23066403cacdef6d650c8d649443c6a8825b0", func := "loop.example/g03105/laws.FnExactStandardGluing", spec := "fnExactStandardGluing", apart := false, narrowed := true }
def FnExactStandardGluingUptoSaid : Prop := fnExactStandardGluingUptoRow.holds Try.pinned (OpenSpec.upto fnExactStandardGluingSpec)

end Rows
end Go.Proofs.Ytmopgapeibdpoaa
