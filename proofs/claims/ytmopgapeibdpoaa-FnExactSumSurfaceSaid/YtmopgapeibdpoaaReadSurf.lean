/-
  A struct of three integers that comes in by value: its numbers are known.
-/
import Derived.Test.YtmopgapeibdpoaaBase
import Derived.Test.YtmopgapeibdpoaaSlice
import Derived.Test.YtmopgapeibdpoaaIntRow
import Derived.Lib.SmallJoins
import Derived.OpenShut
namespace Go.Proofs.Ytmopgapeibdpoaa
open Go.ChangeShapes Go.WideShapes Go.ChangeAt Go.RowKit Go.WideMaps Go.WideElems Go.Joins
theorem Read.cellsSurf : Try.prog.cellsOf 23 = 3 := by kernel_rfl
theorem Read.surface_of {H : Type} {enc : TypeId × Value → H} {W : World} {base : Nat} {v : Value} {d : DataW H} {p : List MemPlace} (hval : Value.okWide Try.prog W .any base 23 v)
    (h : DataW.Trod enc Try.prog W 0 (fun _ => true) true 23 v d p) :
    ∃ x y z : Int, v = .agg #[.int .i64 x, .int .i64 y, .int .i64 z] ∧ I64s [x, y, z] := by
  obtain ⟨v0, v1, v2, y0, y1, y2, n, rfl, _, _, h0, h1, h2⟩ := open_agg3 Try.underlying23 (by kernel_rfl) Read.cellsSurf hval h
  obtain ⟨a, e0, _, wa⟩ := DataW.trod_int Try.underlying3 h0
  obtain ⟨b, e1, _, wb⟩ := DataW.trod_int Try.underlying3 h1
  obtain ⟨c, e2, _, wc⟩ := DataW.trod_int Try.underlying3 h2
  simp at e0 e1 e2
  subst e0 e1 e2
  refine ⟨a, b, c, rfl, fun q hq => ?_⟩
  simp only [List.mem_cons, List.not_mem_nil, or_false] at hq
  rcases hq with rfl | rfl | rfl
  · exact bounds_i64 wa
  · exact bounds_i64 wb
  · exact bounds_i64 wc
end Go.Proofs.Ytmopgapeibdpoaa
