/-
  No cell of these rows narrows 'for every input' (looked for: loops, veiled, ifaces, maps, wideKeys, modest, calm, conditions, laid).
  DERIVED. THE GIVEN ROWS OF THIS SEAT. 9 by the template 'for every input the law returns true; each argument reads behind the call as it read before'; 0 by the template 'total and deterministic' (their statements: YtpgdmbolckogcaaTotals.lean).
  GIVEN WITH THE SEED: the statements are not yours to turn. If you find one false, say at which input.
  Laid BY PROGRAM, IN A SANDBOX (cutbox-rows.mjs): the forced cells as the released guide's own fill.sh prints them over the translation 76135513f0b5cc54… (all of the seat's roots in one cut). By AI agents, Wed Nov 11 2026. No macro, syntax, notation, axiom, sorry.
-/
import Derived.Test.YtpgdmbolckogcaaChecked
import GoSem.Claim
import GoSem.ClaimJoined
import GoSem.ClaimMapViews
import Derived.JoinedTies
import Derived.KernelRfl
namespace Go.Proofs.Ytpgdmbolckogcaa
/- THE CELL 'sum', in the pinned program and in every row, IS THE sha256 OF THE DUMP (.gsa) THAT YtpgdmbolckogcaaProg.lean LOADS. Nothing in Lean hashes anything: it is a label: what it is worth is what the hold of that sum in a sandbox is worth. -/
noncomputable def Try.pinned : Pinned := { name := "ytpgdmbolckogcaa", sum := "76135513f0b5cc54cabf035166e9e72182b0e0ad17a0febb277277dc648e0e7e", checked := Try.checked }
namespace Rows
def none {H : Type} : Left H := { results := [], args := [] }

/-- 'laws.FnExactIsGraph': WHATEVER THE INPUT: true; the input reads as it did. -/
def fnExactIsGraphSpec : ChangeSpec := { name := "fnExactIsGraph", fn := fun _ => fun
  | [d] => { results := [.lit (.bool true)], args := [d] }
  | _ => none }
def fnExactIsGraphRow : OpenClaim := { program := "ytpgdmbolckogcaa", sum := "76135513f0b5cc54cabf035166e9e72182b0e0ad17a0febb277277dc648e0e7e", func := "loop.example/g03105/laws.FnExactIsGraph", spec := "fnExactIsGraph", apart := false }
def FnExactIsGraphSaid : Prop := fnExactIsGraphRow.holds Try.pinned (OpenSpec.ofChange fnExactIsGraphSpec)

/-- ITS FALSE NEIGHBOUR: 'it returns false'. Refute it at one input. -/
def fnExactIsGraphWrong : ChangeSpec := { name := "fnExactIsGraph", fn := fun _ => fun
  | [d] => { results := [.lit (.bool false)], args := [d] }
  | _ => none }
def FnExactIsGraphWrongFalsely : Prop := fnExactIsGraphRow.holds Try.pinned (OpenSpec.ofChange fnExactIsGraphWrong)

/-- 'laws.FnExactDegreesOf': WHATEVER THE INPUT: true; the input reads as it did. -/
def fnExactDegreesOfSpec : ChangeSpec := { name := "fnExactDegreesOf", fn := fun _ => fun
  | [d] => { results := [.lit (.bool true)], args := [d] }
  | _ => none }
def fnExactDegreesOfRow : OpenClaim := { program := "ytpgdmbolckogcaa", sum := "76135513f0b5cc54cabf035166e9e72182b0e0ad17a0febb277277dc648e0e7e", func := "loop.example/g03105/laws.FnExactDegreesOf", spec := "fnExactDegreesOf", apart := false }
def FnExactDegreesOfSaid : Prop := fnExactDegreesOfRow.holds Try.pinned (OpenSpec.ofChange fnExactDegreesOfSpec)

/-- ITS FALSE NEIGHBOUR: 'it returns false'. Refute it at one input. -/
def fnExactDegreesOfWrong : ChangeSpec := { name := "fnExactDegreesOf", fn := fun _ => fun
  | [d] => { results := [.lit (.bool false)], args := [d] }
  | _ => none }
def FnExactDegreesOfWrongFalsely : Prop := fnExactDegreesOfRow.holds Try.pinned (OpenSpec.ofChange fnExactDegreesOfWrong)

/-- 'laws.FnExactCountRotations': WHATEVER THE INPUT: true; the input reads as it did. -/
def fnExactCountRotationsSpec : ChangeSpec := { name := "fnExactCountRotations", fn := fun _ => fun
  | [d] => { results := [.lit (.bool true)], args := [d] }
  | _ => none }
def fnExactCountRotationsRow : OpenClaim := { program := "ytpgdmbolckogcaa", sum := "76135513f0b5cc54cabf035166e9e72182b0e0ad17a0febb277277dc648e0e7e", func := "loop.example/g03105/laws.FnExactCountRotations", spec := "fnExactCountRotations", apart := false }
def FnExactCountRotationsSaid : Prop := fnExactCountRotationsRow.holds Try.pinned (OpenSpec.ofChange fnExactCountRotationsSpec)

/-- ITS FALSE NEIGHBOUR: 'it returns false'. Refute it at one input. -/
def fnExactCountRotationsWrong : ChangeSpec := { name := "fnExactCountRotations", fn := fun _ => fun
  | [d] => { results := [.lit (.bool false)], args := [d] }
  | _ => none }
def FnExactCountRotationsWrongFalsely : Prop := fnExactCountRotationsRow.holds Try.pinned (OpenSpec.ofChange fnExactCountRotationsWrong)

/-- 'laws.FnExactFirstRotation': WHATEVER THE INPUT: true; the input reads as it did. -/
def fnExactFirstRotationSpec : ChangeSpec := { name := "fnExactFirstRotation", fn := fun _ => fun
  | [d] => { results := [.lit (.bool true)], args := [d] }
  | _ => none }
def fnExactFirstRotationRow : OpenClaim := { program := "ytpgdmbolckogcaa", sum := "76135513f0b5cc54cabf035166e9e72182b0e0ad17a0febb277277dc648e0e7e", func := "loop.example/g03105/laws.FnExactFirstRotation", spec := "fnExactFirstRotation", apart := false }
def FnExactFirstRotationSaid : Prop := fnExactFirstRotationRow.holds Try.pinned (OpenSpec.ofChange fnExactFirstRotationSpec)

/-- ITS FALSE NEIGHBOUR: 'it returns false'. Refute it at one input. -/
def fnExactFirstRotationWrong : ChangeSpec := { name := "fnExactFirstRotation", fn := fun _ => fun
  | [d] => { results := [.lit (.bool false)], args := [d] }
  | _ => none }
def FnExactFirstRotationWrongFalsely : Prop := fnExactFirstRotationRow.holds Try.pinned (OpenSpec.ofChange fnExactFirstRotationWrong)

/-- 'laws.FnExactGenusRow': WHATEVER THE INPUT: true; the input reads as it did. -/
def fnExactGenusRowSpec : ChangeSpec := { name := "fnExactGenusRow", fn := fun _ => fun
  | [d] => { results := [.lit (.bool true)], args := [d] }
  | _ => none }
def fnExactGenusRowRow : OpenClaim := { program := "ytpgdmbolckogcaa", sum := "76135513f0b5cc54cabf035166e9e72182b0e0ad17a0febb277277dc648e0e7e", func := "loop.example/g03105/laws.FnExactGenusRow", spec := "fnExactGenusRow", unfollowed := true, recurses := true, apart := false }
def FnExactGenusRowSaid : Prop := fnExactGenusRowRow.holds Try.pinned (OpenSpec.ofChange fnExactGenusRowSpec)

/-- ITS FALSE NEIGHBOUR: 'it returns false'. Refute it at one input. -/
def fnExactGenusRowWrong : ChangeSpec := { name := "fnExactGenusRow", fn := fun _ => fun
  | [d] => { results := [.lit (.bool false)], args := [d] }
  | _ => none }
def FnExactGenusRowWrongFalsely : Prop := fnExactGenusRowRow.holds Try.pinned (OpenSpec.ofChange fnExactGenusRowWrong)

/-- 'laws.FnExactLeastGenus': WHATEVER THE INPUT: true; the input reads as it did. -/
def fnExactLeastGenusSpec : ChangeSpec := { name := "fnExactLeastGenus", fn := fun _ => fun
  | [d] => { results := [.lit (.bool true)], args := [d] }
  | _ => none }
def fnExactLeastGenusRow : OpenClaim := { program := "ytpgdmbolckogcaa", sum := "76135513f0b5cc54cabf035166e9e72182b0e0ad17a0febb277277dc648e0e7e", func := "loop.example/g03105/laws.FnExactLeastGenus", spec := "fnExactLeastGenus", unfollowed := true, recurses := true, apart := false }
def FnExactLeastGenusSaid : Prop := fnExactLeastGenusRow.holds Try.pinned (OpenSpec.ofChange fnExactLeastGenusSpec)

/-- ITS FALSE NEIGHBOUR: 'it returns false'. Refute it at one input. -/
def fnExactLeastGenusWrong : ChangeSpec := { name := "fnExactLeastGenus", fn := fun _ => fun
  | [d] => { results := [.lit (.bool false)], args := [d] }
  | _ => none }
def FnExactLeastGenusWrongFalsely : Prop := fnExactLeastGenusRow.holds Try.pinned (OpenSpec.ofChange fnExactLeastGenusWrong)

/-- 'laws.FnExactCompleteGraph': WHATEVER THE INPUT: true; the input reads as it did. -/
def fnExactCompleteGraphSpec : ChangeSpec := { name := "fnExactCompleteGraph", fn := fun _ => fun
  | [d] => { results := [.lit (.bool true)], args := [d] }
  | _ => none }
def fnExactCompleteGraphRow : OpenClaim := { program := "ytpgdmbolckogcaa", sum := "76135513f0b5cc54cabf035166e9e72182b0e0ad17a0febb277277dc648e0e7e", func := "loop.example/g03105/laws.FnExactCompleteGraph", spec := "fnExactCompleteGraph", apart := false }
def FnExactCompleteGraphSaid : Prop := fnExactCompleteGraphRow.holds Try.pinned (OpenSpec.ofChange fnExactCompleteGraphSpec)

/-- ITS FALSE NEIGHBOUR: 'it returns false'. Refute it at one input. -/
def fnExactCompleteGraphWrong : ChangeSpec := { name := "fnExactCompleteGraph", fn := fun _ => fun
  | [d] => { results := [.lit (.bool false)], args := [d] }
  | _ => none }
def FnExactCompleteGraphWrongFalsely : Prop := fnExactCompleteGraphRow.holds Try.pinned (OpenSpec.ofChange fnExactCompleteGraphWrong)

/-- 'laws.FnExactBipartiteGraph': WHATEVER THE INPUT: true; the input reads as it did. -/
def fnExactBipartiteGraphSpec : ChangeSpec := { name := "fnExactBipartiteGraph", fn := fun _ => fun
  | [d1, d2] => { results := [.lit (.bool true)], args := [d1, d2] }
  | _ => none }
def fnExactBipartiteGraphRow : OpenClaim := { program := "ytpgdmbolckogcaa", sum := "76135513f0b5cc54cabf035166e9e72182b0e0ad17a0febb277277dc648e0e7e", func := "loop.example/g03105/laws.FnExactBipartiteGraph", spec := "fnExactBipartiteGraph", apart := false }
def FnExactBipartiteGraphSaid : Prop := fnExactBipartiteGraphRow.holds Try.pinned (OpenSpec.ofChange fnExactBipartiteGraphSpec)

/-- ITS FALSE NEIGHBOUR: 'it returns false'. Refute it at one input. -/
def fnExactBipartiteGraphWrong : ChangeSpec := { name := "fnExactBipartiteGraph", fn := fun _ => fun
  | [d1, d2] => { results := [.lit (.bool false)], args := [d1, d2] }
  | _ => none }
def FnExactBipartiteGraphWrongFalsely : Prop := fnExactBipartiteGraphRow.holds Try.pinned (OpenSpec.ofChange fnExactBipartiteGraphWrong)

/-- 'laws.FnExactRingGraph': WHATEVER THE INPUT: true; the input reads as it did. -/
def fnExactRingGraphSpec : ChangeSpec := { name := "fnExactRingGraph", fn := fun _ => fun
  | [d] => { results := [.lit (.bool true)], args := [d] }
  | _ => none }
def fnExactRingGraphRow : OpenClaim := { program := "ytpgdmbolckogcaa", sum := "76135513f0b5cc54cabf035166e9e72182b0e0ad17a0febb277277dc648e0e7e", func := "loop.example/g03105/laws.FnExactRingGraph", spec := "fnExactRingGraph", apart := false }
def FnExactRingGraphSaid : Prop := fnExactRingGraphRow.holds Try.pinned (OpenSpec.ofChange fnExactRingGraphSpec)

/-- ITS FALSE NEIGHBOUR: 'it returns false'. Refute it at one input. -/
def fnExactRingGraphWrong : ChangeSpec := { name := "fnExactRingGraph", fn := fun _ => fun
  | [d] => { results := [.lit (.bool false)], args := [d] }
  | _ => none }
def FnExactRingGraphWrongFalsely : Prop := fnExactRingGraphRow.holds Try.pinned (OpenSpec.ofChange fnExactRingGraphWrong)

/- THE SECOND FORM. 'bulk': how many values and letters a reading holds, each counted each time it is reached (what is shared counts as often as it is met; a slice's spare places count too). A statement '..UptoSaid' is the law's where the arguments, and the package variables that the reading takes, are together of bulk at most 1048576: NARROWER than '..Said'. Prove '..Said' where nothing that the law and all that it calls make is longer than what came in: it says more and counts as full. Else prove '..UptoSaid'. A law counts once. -/
mutual
def uptoBulk {H : Type} : DataW H → Nat
  | .lit (.string bytes) => bytes.length + 1
  | .lit _ => 1
  | .nil => 1
  | .ptr d => uptoBulk d + 1
  | .slice elems spare => uptoBulkAll elems + uptoBulkAll spare + 1
  | .agg parts => uptoBulkAll parts + 1
  | .iface _ d => uptoBulk d + 1
  | .map entries => uptoBulkEntries entries + 1
  | .held _ => 1
def uptoBulkAll {H : Type} : List (DataW H) → Nat
  | [] => 0
  | d :: r => uptoBulk d + uptoBulkAll r
def uptoBulkEntries {H : Type} : List (Lit × DataW H) → Nat
  | [] => 0
  | x :: r => uptoBulkEntry x + uptoBulkEntries r
def uptoBulkEntry {H : Type} : Lit × DataW H → Nat
  | (.string bytes, d) => bytes.length + uptoBulk d + 1
  | (_, d) => uptoBulk d + 1
 end
def uptoSmall : (H : Type) → List (DataW H) → Bool := fun _ ds => decide (uptoBulkAll ds ≤ 1048576)
def OpenSpec.upto (s : _root_.Go.ChangeSpec) : _root_.Go.OpenSpec := { _root_.Go.OpenSpec.ofChange s with cond := some uptoSmall }

/-- 'laws.FnExactIsGraph', WHERE WHAT IT READS IS OF BULK AT MOST 1048576: true; the input reads as it did. -/
def fnExactIsGraphUptoRow : OpenClaim := { program := "ytpgdmbolckogcaa", sum := "76135513f0b5cc54cabf035166e9e72182b0e0ad17a0febb277277dc648e0e7e", func := "loop.example/g03105/laws.FnExactIsGraph", spec := "fnExactIsGraph", apart := false, narrowed := true }
def FnExactIsGraphUptoSaid : Prop := fnExactIsGraphUptoRow.holds Try.pinned (OpenSpec.upto fnExactIsGraphSpec)

/-- 'laws.FnExactDegreesOf', WHERE WHAT IT READS IS OF BULK AT MOST 1048576: true; the input reads as it did. -/
def fnExactDegreesOfUptoRow : OpenClaim := { program := "ytpgdmbolckogcaa", sum := "76135513f0b5cc54cabf035166e9e72182b0e0ad17a0febb277277dc648e0e7e", func := "loop.example/g03105/laws.FnExactDegreesOf", spec := "fnExactDegreesOf", apart := false, narrowed := true }
def FnExactDegreesOfUptoSaid : Prop := fnExactDegreesOfUptoRow.holds Try.pinned (OpenSpec.upto fnExactDegreesOfSpec)

/-- 'laws.FnExactCountRotations', WHERE WHAT IT READS IS OF BULK AT MOST 1048576: true; the input reads as it did. -/
def fnExactCountRotationsUptoRow : OpenClaim := { program := "ytpgdmbolckogcaa", sum := "76135513f0b5cc54cabf035166e9e72182b0e0ad17a0febb277277dc648e0e7e", func := "loop.example/g03105/laws.FnExactCountRotations", spec := "fnExactCountRotations", apart := false, narrowed := true }
def FnExactCountRotationsUptoSaid : Prop := fnExactCountRotationsUptoRow.holds Try.pinned (OpenSpec.upto fnExactCountRotationsSpec)

/-- 'laws.FnExactFirstRotation', WHERE WHAT IT READS IS OF BULK AT MOST 1048576: true; the input reads as it did. -/
def fnExactFirstRotationUptoRow : OpenClaim := { program := "ytpgdmbolckogcaa", sum := "76135513f0b5cc54cabf035166e9e72182b0e0ad17a0febb277277dc648e0e7e", func := "loop.example/g03105/laws.FnExactFirstRotation", spec := "fnExactFirstRotation", apart := false, narrowed := true }
def FnExactFirstRotationUptoSaid : Prop := fnExactFirstRotationUptoRow.holds Try.pinned (OpenSpec.upto fnExactFirstRotationSpec)

/-- 'laws.FnExactGenusRow', WHERE WHAT IT READS IS OF BULK AT MOST 1048576: true; the input reads as it did. -/
def fnExactGenusRowUptoRow : OpenClaim := { program := "ytpgdmbolckogcaa", sum := "76135513f0b5cc54cabf035166e9e72182b0e0ad17a0febb277277dc648e0e7e", func := "loop.example/g03105/laws.FnExactGenusRow", spec := "fnExactGenusRow", unfollowed := true, recurses := true, apart := false, narrowed := true }
def FnExactGenusRowUptoSaid : Prop := fnExactGenusRowUptoRow.holds Try.pinned (OpenSpec.upto fnExactGenusRowSpec)

/-- 'laws.FnExactLeastGenus', WHERE WHAT IT READS IS OF BULK AT MOST 1048576: true; the input reads as it did. -/
def fnExactLeastGenusUptoRow : OpenClaim := { program := "ytpgdmbolckogcaa", sum := "76135513f0b5cc54cabf035166e9e72182b0e0ad17a0febb277277dc648e0e7e", func := "loop.example/g03105/laws.FnExactLeastGenus", spec := "fnExactLeastGenus", unfollowed := true, recurses := true, apart := false, narrowed := true }
def FnExactLeastGenusUptoSaid : Prop := fnExactLeastGenusUptoRow.holds Try.pinned (OpenSpec.upto fnExactLeastGenusSpec)

/-- 'laws.FnExactCompleteGraph', WHERE WHAT IT READS IS OF BULK AT MOST 1048576: true; the input reads as it did. -/
def fnExactCompleteGraphUptoRow : OpenClaim := { program := "ytpgdmbolckogcaa", sum := "76135513f0b5cc54cabf035166e9e72182b0e0ad17a0febb277277dc648e0e7e", func := "loop.example/g03105/laws.FnExactCompleteGraph", spec := "fnExactCompleteGraph", apart := false, narrowed := true }
def FnExactCompleteGraphUptoSaid : Prop := fnExactCompleteGraphUptoRow.holds Try.pinned (OpenSpec.upto fnExactCompleteGraphSpec)

/-- 'laws.FnExactBipartiteGraph', WHERE WHAT IT READS IS OF BULK AT MOST 1048576: true; the input reads as it did. -/
def fnExactBipartiteGraphUptoRow : OpenClaim := { program := "ytpgdmbolckogcaa", sum := "76135513f0b5cc54cabf035166e9e72182b0e0ad17a0febb277277dc648e0e7e", func := "loop.example/g03105/laws.FnExactBipartiteGraph", spec := "fnExactBipartiteGraph", apart := false, narrowed := true }
def FnExactBipartiteGraphUptoSaid : Prop := fnExactBipartiteGraphUptoRow.holds Try.pinned (OpenSpec.upto fnExactBipartiteGraphSpec)

/-- 'laws.FnExactRingGraph', WHERE WHAT IT READS IS OF BULK AT MOST 1048576: true; the input reads as it did. -/
def fnExactRingGraphUptoRow : OpenClaim := { program := "ytpgdmbolckogcaa", sum := "76135513f0b5cc54cabf035166e9e72182b0e0ad17a0febb277277dc648e0e7e", func := "loop.example/g03105/laws.FnExactRingGraph", spec := "fnExactRingGraph", apart := false, narrowed := true }
def FnExactRingGraphUptoSaid : Prop := fnExactRingGraphUptoRow.holds Try.pinned (OpenSpec.upto fnExactRingGraphSpec)

end Rows
end Go.Proofs.Ytpgdmbolckogcaa
