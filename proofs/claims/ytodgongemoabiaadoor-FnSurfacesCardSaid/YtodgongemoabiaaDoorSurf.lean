/-
  Surfaces, as three numbers; the walks of the laws' helpers over them.
-/
import Derived.Test.YtodgongemoabiaaDoorBase
import Derived.Test.YtodgongemoabiaaDoorSlice
import Derived.Test.YtodgongemoabiaaDoorIntRow
import Derived.Test.YtodgongemoabiaaDoorInts
import Derived.Test.YtodgongemoabiaaDoorWord
import Derived.Test.YtodgongemoabiaaDoorIsWord
import Derived.Laws.Rows
namespace Go.Proofs.YtodgongemoabiaaDoor
open Go.RowKit

/-- A struct of three integers. -/
def agg3 (x y z : Int) : Value := .agg #[.int .i64 x, .int .i64 y, .int .i64 z]



/-- A block that holds three integers. -/
theorem box3 {w w1 : World} {B : Nat} {t : TypeId} {x y z : Int} (hb : Below B (w.alloc (.cells #[.int .i64 x, .int .i64 y, .int .i64 z] t)) w1) (hB : w.heap.size < B) : Blk w1 w.heap.size t #[.int .i64 x, .int .i64 y, .int .i64 z] :=
  (Blk.new w t _).below hb hB
theorem Blk.three {w : World} {g : Nat} {t : TypeId} {x y z : Int} (h : Blk w g t #[.int .i64 x, .int .i64 y, .int .i64 z]) :
    w.cell? ⟨g, 0, none⟩ = some (.int .i64 x) ∧ w.cell? ⟨g, 1, none⟩ = some (.int .i64 y) ∧ w.cell? ⟨g, 2, none⟩ = some (.int .i64 z) := ⟨h.cell 0, h.cell 1, h.cell 2⟩
namespace Surf
def Is (x y z : Int) : Prop := (0 ≤ x ∧ x ≤ 20) ∧ (0 ≤ y ∧ y ≤ 20) ∧ (0 ≤ z ∧ z ≤ 20) ∧ (x = 0 ∨ y = 0)
instance (x y z : Int) : Decidable (Is x y z) := by unfold Is; exact inferInstance
def euler (x y z : Int) : Int := if Is x y z then 2 - 2 * x - y - z else -100
end Surf

set_option maxRecDepth 10000 in
set_option maxHeartbeats 1000000 in
theorem spec_IsSurface (x y z : Int) (w : World) (hb : I64s [x, y, z]) :
    Calls Tryd.prog 24 #[.agg #[.int .i64 x, .int .i64 y, .int .i64 z]] w fun e w' => e = .returned (.bool (decide (Surf.Is x y z))) ∧ Below w.heap.size w w' := by
  have hx := fun W => spec_l1In x 0 20 W
  have hy := fun W => spec_l1In y 0 20 W
  have hz := fun W => spec_l1In z 0 20 W
  generalize hv : decide (Surf.Is x y z) = v
  have Hv := Lib.hid hv; clear hv
  by_cases h1 : 0 ≤ x ∧ x ≤ 20
  · rw [decide_eq_true h1] at hx
    by_cases h2 : 0 ≤ y ∧ y ≤ 20
    · rw [decide_eq_true h2] at hy
      by_cases h3 : 0 ≤ z ∧ z ≤ 20
      · rw [decide_eq_true h3] at hz
        have hx := Lib.hid hx; have hy := Lib.hid hy; have hz := Lib.hid hz
        by_cases h4 : x = 0
        · have hvv : v = true := by rw [← Hv.out]; exact decide_eq_true ⟨h1, h2, h3, Or.inl h4⟩
          have Hvv := Lib.hid hvv; clear hvv
          have hb4 : (x == 0) = true := by simp [h4]
          clear h4
          have hne := Lib.hid (show w.heap.size ≤ w.heap.size from Nat.le_refl _)
          clear h1 h2 h3 hb
          go_enter Tryd.func24, Tryd.ntmps24
          go_wp2_with fail
          refine (hx.out _).mono ?_
          rintro e w1 ⟨rfl, rfl⟩
          go_wp2_with fail
          refine (hy.out _).mono ?_
          rintro e w1 ⟨rfl, rfl⟩
          go_wp2_with fail
          refine (hz.out _).mono ?_
          rintro e w1 ⟨rfl, rfl⟩
          go_wp2
          go_ret
          exact ⟨by rw [Hvv.out]; rfl, (Below.refl w.heap.size w).alloc (Nat.le_refl _) _⟩
        · have hb4 : (x == 0) = false := by simp [h4]
          by_cases h5 : y = 0
          · have hvv : v = true := by rw [← Hv.out]; exact decide_eq_true ⟨h1, h2, h3, Or.inr h5⟩
            have Hvv := Lib.hid hvv; clear hvv
            have hb5 : (y == 0) = true := by simp [h5]
            clear h1 h2 h3 h4 h5 hb
            go_enter Tryd.func24, Tryd.ntmps24
            go_wp2_with fail
            refine (hx.out _).mono ?_
            rintro e w1 ⟨rfl, rfl⟩
            go_wp2_with fail
            refine (hy.out _).mono ?_
            rintro e w1 ⟨rfl, rfl⟩
            go_wp2_with fail
            refine (hz.out _).mono ?_
            rintro e w1 ⟨rfl, rfl⟩
            go_wp2
            go_ret
            exact ⟨by rw [Hvv.out]; rfl, (Below.refl w.heap.size w).alloc (Nat.le_refl _) _⟩
          · have hvv : v = false := by rw [← Hv.out]; exact decide_eq_false (fun h => h.2.2.2.elim h4 h5)
            have Hvv := Lib.hid hvv; clear hvv
            have hb5 : (y == 0) = false := by simp [h5]
            clear h1 h2 h3 h4 h5 hb
            go_enter Tryd.func24, Tryd.ntmps24
            go_wp2_with fail
            refine (hx.out _).mono ?_
            rintro e w1 ⟨rfl, rfl⟩
            go_wp2_with fail
            refine (hy.out _).mono ?_
            rintro e w1 ⟨rfl, rfl⟩
            go_wp2_with fail
            refine (hz.out _).mono ?_
            rintro e w1 ⟨rfl, rfl⟩
            go_wp2
            go_ret
            exact ⟨by rw [Hvv.out]; rfl, (Below.refl w.heap.size w).alloc (Nat.le_refl _) _⟩
      · rw [decide_eq_false h3] at hz
        have hx := Lib.hid hx; have hy := Lib.hid hy; have hz := Lib.hid hz
        have hvv : v = false := by rw [← Hv.out]; exact decide_eq_false (fun h => h3 h.2.2.1)
        have Hvv := Lib.hid hvv; clear hvv h1 h2 h3 hb
        go_enter Tryd.func24, Tryd.ntmps24
        go_wp2_with fail
        refine (hx.out _).mono ?_
        rintro e w1 ⟨rfl, rfl⟩
        go_wp2_with fail
        refine (hy.out _).mono ?_
        rintro e w1 ⟨rfl, rfl⟩
        go_wp2_with fail
        refine (hz.out _).mono ?_
        rintro e w1 ⟨rfl, rfl⟩
        go_wp2
        go_ret
        exact ⟨by rw [Hvv.out]; rfl, (Below.refl w.heap.size w).alloc (Nat.le_refl _) _⟩
    · rw [decide_eq_false h2] at hy
      have hx := Lib.hid hx; have hy := Lib.hid hy
      have hvv : v = false := by rw [← Hv.out]; exact decide_eq_false (fun h => h2 h.2.1)
      have Hvv := Lib.hid hvv; clear hvv h1 h2 hb hz
      go_enter Tryd.func24, Tryd.ntmps24
      go_wp2_with fail
      refine (hx.out _).mono ?_
      rintro e w1 ⟨rfl, rfl⟩
      go_wp2_with fail
      refine (hy.out _).mono ?_
      rintro e w1 ⟨rfl, rfl⟩
      go_wp2
      go_ret
      exact ⟨by rw [Hvv.out]; rfl, (Below.refl w.heap.size w).alloc (Nat.le_refl _) _⟩
  · rw [decide_eq_false h1] at hx
    have hx := Lib.hid hx
    have hvv : v = false := by rw [← Hv.out]; exact decide_eq_false (fun h => h1 h.1)
    have Hvv := Lib.hid hvv; clear hvv h1 hb hy hz
    go_enter Tryd.func24, Tryd.ntmps24
    go_wp2_with fail
    refine (hx.out _).mono ?_
    rintro e w1 ⟨rfl, rfl⟩
    go_wp2
    go_ret
    exact ⟨by rw [Hvv.out]; rfl, (Below.refl w.heap.size w).alloc (Nat.le_refl _) _⟩

set_option maxRecDepth 10000 in
set_option maxHeartbeats 1000000 in
theorem spec_EulerNumber (x y z : Int) (w : World) (hb : I64s [x, y, z]) :
    Calls Tryd.prog 26 #[.agg #[.int .i64 x, .int .i64 y, .int .i64 z]] w fun e w' => e = .returned (.int .i64 (Surf.euler x y z)) ∧ Below w.heap.size w w' := by
  have hI := fun W => spec_IsSurface x y z W hb
  generalize hv : Surf.euler x y z = v
  unfold Surf.euler at hv
  by_cases hs : Surf.Is x y z
  · rw [if_pos hs] at hv
    rw [decide_eq_true hs] at hI
    obtain ⟨⟨h1, h2⟩, ⟨h3, h4⟩, ⟨h5, h6⟩, _⟩ := hs
    have HI := Lib.hid hI; have Hv := Lib.hid hv
    clear hI hv hb
    go_enter Tryd.func26, Tryd.ntmps26
    generalize hN : w.heap.size = N at *
    have HN := Lib.hid hN
    go_wp2_with fail
    refine (HI.out _).mono ?_
    rintro e w1 ⟨rfl, hb1⟩
    have hsz : (w.alloc (.cells #[.int .i64 x, .int .i64 y, .int .i64 z] 25)).heap.size = N + 1 := by rw [← HN.out]; simp
    rw [hsz] at hb1
    have hbx := box3 hb1 (by have := HN.out; omega)
    rw [HN.out] at hbx
    obtain ⟨hc0, hc1, hc2⟩ := hbx.three
    have Hb1 := Lib.hid hb1
    clear hb1 hbx hsz
    go_wp2
    go_ret
    refine ⟨by rw [← Hv.out]; rfl, ?_⟩
    have h0 := (Below.refl w.heap.size w).alloc (Nat.le_refl _) (.cells #[.int .i64 x, .int .i64 y, .int .i64 z] 25)
    rw [HN.out] at h0
    exact h0.trans (Hb1.out.mono (Nat.le_succ N))
  · rw [if_neg hs] at hv
    rw [decide_eq_false hs] at hI
    have HI := Lib.hid hI; have Hv := Lib.hid hv
    clear hI hv hb hs
    go_enter Tryd.func26, Tryd.ntmps26
    go_wp2_with fail
    refine (HI.out _).mono ?_
    rintro e w1 ⟨rfl, hb1⟩
    go_wp2
    go_ret
    exact ⟨by rw [← Hv.out]; rfl, ((Below.refl w.heap.size w).alloc (Nat.le_refl _) _).trans (hb1.mono (by simp))⟩

namespace Surf
/-- A surface, and whether it is one; the zero one if not. -/
def right (s : Int × Int × Int) : Int × Int × Int := if Is s.1 s.2.1 s.2.2 then s else (0, 0, 0)
end Surf
/-- The call gives this struct and a bool. -/
def GivesS (w : World) (s : Int × Int × Int) (b : Bool) (e : Ending) (w' : World) : Prop := e = .returned (.tuple #[.agg #[.int .i64 s.1, .int .i64 s.2.1, .int .i64 s.2.2], .bool b]) ∧ Below w.heap.size w w'

end Go.Proofs.YtodgongemoabiaaDoor
