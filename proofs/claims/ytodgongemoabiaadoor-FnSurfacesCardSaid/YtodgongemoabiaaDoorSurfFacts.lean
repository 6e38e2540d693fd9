/-
  What FnSurfaces asks besides: sums add Euler numbers, a handle is two crosscaps where there is one, names are empty for what is no surface.
-/
import Derived.Test.YtodgongemoabiaaDoorBase
import Derived.Test.YtodgongemoabiaaDoorSurf
import Derived.Test.YtodgongemoabiaaDoorSurfI
import Derived.Test.YtodgongemoabiaaDoorSurfSum
import Derived.Test.YtodgongemoabiaaDoorSurfOf
import Derived.Test.YtodgongemoabiaaDoorTopoS
import Derived.Test.YtodgongemoabiaaDoorSurfName
namespace Go.Proofs.YtodgongemoabiaaDoor
open Go.RowKit

namespace Surf
theorem is_small {x y z : Int} (h : Is x y z) : I64s [x, y, z] := fun n hn => by
  obtain ⟨⟨h1, h2⟩, ⟨h3, h4⟩, ⟨h5, h6⟩, _⟩ := h
  simp only [List.mem_cons, List.not_mem_nil, or_false] at hn
  rcases hn with rfl | rfl | rfl <;> omega
theorem zero_small : I64s [0, 0, 0] := fun n hn => by
  simp only [List.mem_cons, List.not_mem_nil, or_false] at hn
  rcases hn with rfl | rfl | rfl <;> omega
theorem sum_small (x y z p q r : Int) : I64s [(sum x y z p q r).1, (sum x y z p q r).2.1, (sum x y z p q r).2.2] := by
  unfold sum
  split
  · rename_i h; exact is_small h.2.2
  · exact zero_small
theorem ofS_small (L : List (List Int)) : I64s [(ofS L).1, (ofS L).2.1, (ofS L).2.2] := by
  by_cases h : Glue.numParts L = 1
  · exact is_small (ofS_is h).1
  · rw [show ofS L = (0, 0, 0) from if_neg h]; exact zero_small
theorem euler_small (x y z : Int) : -100 ≤ euler x y z ∧ euler x y z ≤ 2 := by
  unfold euler
  split
  · rename_i h
    obtain ⟨⟨h1, h2⟩, ⟨h3, h4⟩, ⟨h5, h6⟩, _⟩ := h
    omega
  · omega
theorem sum_euler {x y z p q r : Int} (h : sumOk x y z p q r) : euler (sum x y z p q r).1 (sum x y z p q r).2.1 (sum x y z p q r).2.2 = euler x y z + euler p q r - 2 := by
  obtain ⟨h1, h2, h3⟩ := id h
  rw [show sum x y z p q r = mix x y z p q r from if_pos h]
  rw [show euler x y z = 2 - 2 * x - y - z from if_pos h1, show euler p q r = 2 - 2 * p - q - r from if_pos h2,
    show euler (mix x y z p q r).1 (mix x y z p q r).2.1 (mix x y z p q r).2.2 = 2 - 2 * (mix x y z p q r).1 - (mix x y z p q r).2.1 - (mix x y z p q r).2.2 from if_pos h3]
  unfold mix
  split <;> simp only <;> omega
theorem cross_twice {x y z : Int} (h1 : sumOk x y z 1 0 0) (h2 : sumOk x y z 0 1 0) (hy : 0 < y) :
    sum (sum x y z 0 1 0).1 (sum x y z 0 1 0).2.1 (sum x y z 0 1 0).2.2 0 1 0 = sum x y z 1 0 0 := by
  have hx : x = 0 := by rcases h1.1.2.2.2 with h | h <;> omega
  subst hx
  have m1 : mix 0 y z 1 0 0 = (0, y + 2, z) := by
    unfold mix; rw [if_pos (by omega)]
    rw [show y + 0 + 2 * (0 + 1) = y + 2 by omega, show z + 0 = z by omega]
  have m2 : mix 0 y z 0 1 0 = (0, y + 1, z) := by
    unfold mix; rw [if_pos (by omega)]
    rw [show y + 1 + 2 * (0 + 0) = y + 1 by omega, show z + 0 = z by omega]
  have m3 : mix 0 (y + 1) z 0 1 0 = (0, y + 2, z) := by
    unfold mix; rw [if_pos (by omega)]
    rw [show y + 1 + 1 + 2 * (0 + 0) = y + 2 by omega, show z + 0 = z by omega]
  have k1 := h1.2.2
  rw [m1] at k1
  have k2 := h2.2.2
  rw [m2] at k2
  have e2 : sum 0 y z 0 1 0 = (0, y + 1, z) := by rw [show sum 0 y z 0 1 0 = mix 0 y z 0 1 0 from if_pos h2, m2]
  have e1 : sum 0 y z 1 0 0 = (0, y + 2, z) := by rw [show sum 0 y z 1 0 0 = mix 0 y z 1 0 0 from if_pos h1, m1]
  rw [e1, e2]
  have hok : sumOk 0 (y + 1) z 0 1 0 := ⟨k2, h2.2.1, by rw [m3]; exact k1⟩
  rw [show sum 0 (y + 1) z 0 1 0 = mix 0 (y + 1) z 0 1 0 from if_pos hok, m3]
theorem append_some (a b : ByteArray) (h : 0 < a.size) : 0 < (a ++ b).size := by rw [ByteArray.size_append]; omega
theorem append_some2 (a b : ByteArray) (h : 0 < b.size) : 0 < (a ++ b).size := by rw [ByteArray.size_append]; omega
theorem base_some (x y : Int) : 0 < (base x y).size := by
  unfold base
  split
  · decide
  · split
    · decide
    · split
      · exact append_some2 _ _ (by decide)
      · split
        · decide
        · split
          · decide
          · split
            · exact append_some2 _ _ (by decide)
            · decide
theorem bytes_beq (a b : ByteArray) : (a == b) = (a.data == b.data) := by
  cases a; cases b; rfl
theorem named_empty (x y z : Int) : (named x y z == (⟨#[]⟩ : ByteArray)) = !decide (Is x y z) := by
  unfold named
  by_cases h : Is x y z
  · rw [if_pos h, decide_eq_true h]
    rw [bytes_beq]
    refine beq_eq_false_iff_ne.2 fun e => ?_
    have hs : (if 0 < z then base x y ++ ⟨#[32, 109, 105, 110, 117, 115, 32]⟩ ++ dec z else base x y).size = 0 := by
      have := congrArg Array.size e
      exact this
    have hb := base_some x y
    split at hs
    · have := append_some _ (dec z) (append_some (base x y) ⟨#[32, 109, 105, 110, 117, 115, 32]⟩ hb)
      omega
    · omega
  · rw [if_neg h, decide_eq_false h]; rfl
end Surf
end Go.Proofs.YtodgongemoabiaaDoor
