/-
  Corners of polygons, and their classes: what the document says, and the walks of the program's cornerClasses and the model's l3Ends.
-/
import Derived.Test.YtamgimdjnmcpaaaGreatBase
import Derived.Test.YtamgimdjnmcpaaaGreatSlice
import Derived.Test.YtamgimdjnmcpaaaGreatInts
import Derived.Test.YtamgimdjnmcpaaaGreatWord
import Derived.Test.YtamgimdjnmcpaaaGreatGrid
import Derived.Test.YtamgimdjnmcpaaaGreatGlue
import Derived.Test.YtamgimdjnmcpaaaGreatUses
import Derived.Test.YtamgimdjnmcpaaaGreatClass
import Derived.Test.YtamgimdjnmcpaaaGreatOwn
import Derived.Test.YtamgimdjnmcpaaaGreatLab
import Derived.Deep.QuietTactic
import Derived.BigQuiet
namespace Go.Proofs.YtamgimdjnmcpaaaGreat
open Go.RowKit

namespace Glue
/-- The beginning of a side, the end of one: numbers of the ends of letters. -/
def begN (x : Int) : Nat := if x < 0 then 2 * x.natAbs + 1 else 2 * x.natAbs
def endN (x : Int) : Nat := begN (-x)
theorem begN_lt {x : Int} (h : Word.Letter x) : begN x < 18 := by obtain ⟨h0, h1, h2⟩ := h; unfold begN; split <;> omega
theorem letter_neg {x : Int} (h : Word.Letter x) : Word.Letter (-x) := by obtain ⟨h0, h1, h2⟩ := h; exact ⟨by omega, by omega, by omega⟩
theorem endN_lt {x : Int} (h : Word.Letter x) : endN x < 18 := begN_lt (letter_neg h)
/-- The corner behind the side j of a polygon: the end of that side, the beginning of the next. -/
def corner (r : List Int) (j : Nat) : Nat × Nat := (endN (r.getD j 0), begN (r.getD ((j + 1) % r.length) 0))
def corners (L : List (List Int)) : List (Nat × Nat) := metAll corner L
/-- The classes of corners, by the ends of letters at them. -/
def cor (L : List (List Int)) : Nat → Nat := Cls.mergeAll (corners L)
theorem corner_at {r : List Int} {j : Nat} {x y : Int} (hx : r[j]? = some x) (hy : r[(j + 1) % r.length]? = some y) : corner r j = (endN x, begN y) := by
  unfold corner
  rw [List.getD_eq_getElem?_getD, hx, List.getD_eq_getElem?_getD, hy]; rfl
theorem corner_lt {r : List Int} (h : Word.IsW r) {j : Nat} (hj : j < r.length) : (corner r j).1 < 18 ∧ (corner r j).2 < 18 := by
  have h2 : (j + 1) % r.length < r.length := Nat.mod_lt _ (by omega)
  rw [corner_at (List.getElem?_eq_getElem hj) (List.getElem?_eq_getElem h2)]
  exact ⟨endN_lt (h.at hj), begN_lt (h.at h2)⟩
theorem corners_lt {L : List (List Int)} (h : ∀ p ∈ L, Word.IsW p) : ∀ p ∈ corners L, p.1 < 18 ∧ p.2 < 18 := by
  intro p hp
  obtain ⟨r, hr, j, hj, rfl⟩ := met_mem hp
  exact corner_lt (h r hr) hj
theorem cor_ok {L : List (List Int)} (h : ∀ p ∈ L, Word.IsW p) : Cls.Ok (cor L) 18 := Cls.Ok.all (corners_lt h)
end Glue

theorem mod_cast' (a n : Nat) : ((a : Nat) : Int) % (n : Int) = ((a % n : Nat) : Int) := (Int.natCast_emod a n).symm
theorem tmod_cast' (a n : Nat) : Int.tmod ((a : Nat) : Int) (n : Int) = ((a % n : Nat) : Int) := by
  rw [Int.tmod_eq_emod_of_nonneg (by omega)]; exact mod_cast' a n



set_option maxRecDepth 10000 in
theorem spec_l1Bit (b : Bool) (w : World) : Calls Tryz.prog 35 #[.bool b] w fun e w' => e = .returned (.int .i64 (if b then 1 else 0)) ∧ w' = w := by
  cases b
  · go_enter Tryz.func35, Tryz.ntmps35
    go_wp2
    go_ret
    exact ⟨rfl, rfl⟩
  · go_enter Tryz.func35, Tryz.ntmps35
    go_wp2
    go_ret
    exact ⟨rfl, rfl⟩

end Go.Proofs.YtamgimdjnmcpaaaGreat
