/-
  Surfaces, as three numbers; the walks of the laws' helpers over them. Surfaces: the walks of the program's IsSurface, EulerNumber and sums. Sums of surfaces: what the document says, and the walks of the program's and the model's SumSurface. Standard gluings: what the document says, and the walks of the program's and the model's StandardGluing.
-/
import Derived.Test.YtamgimdjnmcpaaaGreatBase
import Derived.Test.YtamgimdjnmcpaaaGreatSlice
import Derived.Test.YtamgimdjnmcpaaaGreatIntRow
import Derived.Test.YtamgimdjnmcpaaaGreatInts
import Derived.Test.YtamgimdjnmcpaaaGreatWord
import Derived.Test.YtamgimdjnmcpaaaGreatIsWord
import Derived.Laws.Rows
import Derived.Test.YtamgimdjnmcpaaaGreatOwn
import Derived.Test.YtamgimdjnmcpaaaGreatGrid
import Derived.Test.YtamgimdjnmcpaaaGreatGridRows
import Derived.Test.YtamgimdjnmcpaaaGreatGlue
import Derived.Test.YtamgimdjnmcpaaaGreatIsGluing
namespace Go.Proofs.YtamgimdjnmcpaaaGreat
open Go.RowKit

/-- A struct of three integers. -/
def agg3 (x y z : Int) : Value := .agg #[.int .i64 x, .int .i64 y, .int .i64 z]



/-- A block that holds three integers. -/
theorem box3 {w w1 : World} {B : Nat} {t : TypeId} {x y z : Int} (hb : Below B (w.alloc (.cells #[.int .i64 x, .int .i64 y, .int .i64 z] t)) w1) (hB : w.heap.size < B) : Blk w1 w.heap.size t #[.int .i64 x, .int .i64 y, .int .i64 z] :=
  (Blk.new w t _).below hb hB
theorem Blk.three {w : World} {g : Nat} {t : TypeId} {x y z : Int} (h : Blk w g t #[.int .i64 x, .int .i64 y, .int .i64 z]) :
    w.cell? ⟨g, 0, none⟩ = some (.int .i64 x) ∧ w.cell? ⟨g, 1, none⟩ = some (.int .i64 y) ∧ w.cell? ⟨g, 2, none⟩ = some (.int .i64 z) := ⟨h.cell 0, h.cell 1, h.cell 2⟩
namespace Surf
def Is (x y z : Int) : Prop := (0 ≤ x ∧ x ≤ 20) ∧ (0 ≤ y ∧ y ≤ 20) ∧ (0 ≤ z ∧ z ≤ 20) ∧ (x = 0 ∨ y = 0)
instance (x y z : Int) : Decidable (Is x y z) := by unfold Is; exact inferInstance
def euler (x y z : Int) : Int := if Is x y z then 2 - 2 * x - y - z else -100
end Surf

set_option maxRecDepth 10000 in
set_option maxHeartbeats 1000000 in
theorem spec_IsSurface (x y z : Int) (w : World) (hb : I64s [x, y, z]) :
    Calls Tryz.prog 75 #[.agg #[.int .i64 x, .int .i64 y, .int .i64 z]] w fun e w' => e = .returned (.bool (decide (Surf.Is x y z))) ∧ Below w.heap.size w w' := by
  have hx := fun W => spec_l1In x 0 20 W
  have hy := fun W => spec_l1In y 0 20 W
  have hz := fun W => spec_l1In z 0 20 W
  generalize hv : decide (Surf.Is x y z) = v
  have Hv := Lib.hid hv; clear hv
  by_cases h1 : 0 ≤ x ∧ x ≤ 20
  · rw [decide_eq_true h1] at hx
    by_cases h2 : 0 ≤ y ∧ y ≤ 20
    · rw [decide_eq_true h2] at hy
      by_cases h3 : 0 ≤ z ∧ z ≤ 20
      · rw [decide_eq_true h3] at hz
        have hx := Lib.hid hx; have hy := Lib.hid hy; have hz := Lib.hid hz
        by_cases h4 : x = 0
        · have hvv : v = true := by rw [← Hv.out]; exact decide_eq_true ⟨h1, h2, h3, Or.inl h4⟩
          have Hvv := Lib.hid hvv; clear hvv
          have hb4 : (x == 0) = true := by simp [h4]
          clear h4
          have hne := Lib.hid (show w.heap.size ≤ w.heap.size from Nat.le_refl _)
          clear h1 h2 h3 hb
          go_enter Tryz.func75, Tryz.ntmps75
          go_wp2_with fail
          refine (hx.out _).mono ?_
          rintro e w1 ⟨rfl, rfl⟩
          go_wp2_with fail
          refine (hy.out _).mono ?_
          rintro e w1 ⟨rfl, rfl⟩
          go_wp2_with fail
          refine (hz.out _).mono ?_
          rintro e w1 ⟨rfl, rfl⟩
          go_wp2
          go_ret
          exact ⟨by rw [Hvv.out]; rfl, (Below.refl w.heap.size w).alloc (Nat.le_refl _) _⟩
        · have hb4 : (x == 0) = false := by simp [h4]
          by_cases h5 : y = 0
          · have hvv : v = true := by rw [← Hv.out]; exact decide_eq_true ⟨h1, h2, h3, Or.inr h5⟩
            have Hvv := Lib.hid hvv; clear hvv
            have hb5 : (y == 0) = true := by simp [h5]
            clear h1 h2 h3 h4 h5 hb
            go_enter Tryz.func75, Tryz.ntmps75
            go_wp2_with fail
            refine (hx.out _).mono ?_
            rintro e w1 ⟨rfl, rfl⟩
            go_wp2_with fail
            refine (hy.out _).mono ?_
            rintro e w1 ⟨rfl, rfl⟩
            go_wp2_with fail
            refine (hz.out _).mono ?_
            rintro e w1 ⟨rfl, rfl⟩
            go_wp2
            go_ret
            exact ⟨by rw [Hvv.out]; rfl, (Below.refl w.heap.size w).alloc (Nat.le_refl _) _⟩
          · have hvv : v = false := by rw [← Hv.out]; exact decide_eq_false (fun h => h.2.2.2.elim h4 h5)
            have Hvv := Lib.hid hvv; clear hvv
            have hb5 : (y == 0) = false := by simp [h5]
            clear h1 h2 h3 h4 h5 hb
            go_enter Tryz.func75, Tryz.ntmps75
            go_wp2_with fail
            refine (hx.out _).mono ?_
            rintro e w1 ⟨rfl, rfl⟩
            go_wp2_with fail
            refine (hy.out _).mono ?_
            rintro e w1 ⟨rfl, rfl⟩
            go_wp2_with fail
            refine (hz.out _).mono ?_
            rintro e w1 ⟨rfl, rfl⟩
            go_wp2
            go_ret
            exact ⟨by rw [Hvv.out]; rfl, (Below.refl w.heap.size w).alloc (Nat.le_refl _) _⟩
      · rw [decide_eq_false h3] at hz
        have hx := Lib.hid hx; have hy := Lib.hid hy; have hz := Lib.hid hz
        have hvv : v = false := by rw [← Hv.out]; exact decide_eq_false (fun h => h3 h.2.2.1)
        have Hvv := Lib.hid hvv; clear hvv h1 h2 h3 hb
        go_enter Tryz.func75, Tryz.ntmps75
        go_wp2_with fail
        refine (hx.out _).mono ?_
        rintro e w1 ⟨rfl, rfl⟩
        go_wp2_with fail
        refine (hy.out _).mono ?_
        rintro e w1 ⟨rfl, rfl⟩
        go_wp2_with fail
        refine (hz.out _).mono ?_
        rintro e w1 ⟨rfl, rfl⟩
        go_wp2
        go_ret
        exact ⟨by rw [Hvv.out]; rfl, (Below.refl w.heap.size w).alloc (Nat.le_refl _) _⟩
    · rw [decide_eq_false h2] at hy
      have hx := Lib.hid hx; have hy := Lib.hid hy
      have hvv : v = false := by rw [← Hv.out]; exact decide_eq_false (fun h => h2 h.2.1)
      have Hvv := Lib.hid hvv; clear hvv h1 h2 hb hz
      go_enter Tryz.func75, Tryz.ntmps75
      go_wp2_with fail
      refine (hx.out _).mono ?_
      rintro e w1 ⟨rfl, rfl⟩
      go_wp2_with fail
      refine (hy.out _).mono ?_
      rintro e w1 ⟨rfl, rfl⟩
      go_wp2
      go_ret
      exact ⟨by rw [Hvv.out]; rfl, (Below.refl w.heap.size w).alloc (Nat.le_refl _) _⟩
  · rw [decide_eq_false h1] at hx
    have hx := Lib.hid hx
    have hvv : v = false := by rw [← Hv.out]; exact decide_eq_false (fun h => h1 h.1)
    have Hvv := Lib.hid hvv; clear hvv h1 hb hy hz
    go_enter Tryz.func75, Tryz.ntmps75
    go_wp2_with fail
    refine (hx.out _).mono ?_
    rintro e w1 ⟨rfl, rfl⟩
    go_wp2
    go_ret
    exact ⟨by rw [Hvv.out]; rfl, (Below.refl w.heap.size w).alloc (Nat.le_refl _) _⟩

set_option maxRecDepth 10000 in
set_option maxHeartbeats 1000000 in
theorem spec_EulerNumber (x y z : Int) (w : World) (hb : I64s [x, y, z]) :
    Calls Tryz.prog 28 #[.agg #[.int .i64 x, .int .i64 y, .int .i64 z]] w fun e w' => e = .returned (.int .i64 (Surf.euler x y z)) ∧ Below w.heap.size w w' := by
  have hI := fun W => spec_IsSurface x y z W hb
  generalize hv : Surf.euler x y z = v
  unfold Surf.euler at hv
  by_cases hs : Surf.Is x y z
  · rw [if_pos hs] at hv
    rw [decide_eq_true hs] at hI
    obtain ⟨⟨h1, h2⟩, ⟨h3, h4⟩, ⟨h5, h6⟩, _⟩ := hs
    have HI := Lib.hid hI; have Hv := Lib.hid hv
    clear hI hv hb
    go_enter Tryz.func28, Tryz.ntmps28
    generalize hN : w.heap.size = N at *
    have HN := Lib.hid hN
    go_wp2_with fail
    refine (HI.out _).mono ?_
    rintro e w1 ⟨rfl, hb1⟩
    have hsz : (w.alloc (.cells #[.int .i64 x, .int .i64 y, .int .i64 z] 46)).heap.size = N + 1 := by rw [← HN.out]; simp
    rw [hsz] at hb1
    have hbx := box3 hb1 (by have := HN.out; omega)
    rw [HN.out] at hbx
    obtain ⟨hc0, hc1, hc2⟩ := hbx.three
    have Hb1 := Lib.hid hb1
    clear hb1 hbx hsz
    go_wp2
    go_ret
    refine ⟨by rw [← Hv.out]; rfl, ?_⟩
    have h0 := (Below.refl w.heap.size w).alloc (Nat.le_refl _) (.cells #[.int .i64 x, .int .i64 y, .int .i64 z] 46)
    rw [HN.out] at h0
    exact h0.trans (Hb1.out.mono (Nat.le_succ N))
  · rw [if_neg hs] at hv
    rw [decide_eq_false hs] at hI
    have HI := Lib.hid hI; have Hv := Lib.hid hv
    clear hI hv hb hs
    go_enter Tryz.func28, Tryz.ntmps28
    go_wp2_with fail
    refine (HI.out _).mono ?_
    rintro e w1 ⟨rfl, hb1⟩
    go_wp2
    go_ret
    exact ⟨by rw [← Hv.out]; rfl, ((Below.refl w.heap.size w).alloc (Nat.le_refl _) _).trans (hb1.mono (by simp))⟩

namespace Surf
/-- A surface, and whether it is one; the zero one if not. -/
def right (s : Int × Int × Int) : Int × Int × Int := if Is s.1 s.2.1 s.2.2 then s else (0, 0, 0)
end Surf
/-- The call gives this struct and a bool. -/
def GivesS (w : World) (s : Int × Int × Int) (b : Bool) (e : Ending) (w' : World) : Prop := e = .returned (.tuple #[.agg #[.int .i64 s.1, .int .i64 s.2.1, .int .i64 s.2.2], .bool b]) ∧ Below w.heap.size w w'

end Go.Proofs.YtamgimdjnmcpaaaGreat
namespace Go.Proofs.YtamgimdjnmcpaaaGreat
open Go.RowKit

theorem Blk.six {w : World} {g : Nat} {t : TypeId} {x y z : Int} (h : Blk w g t #[.int .i64 x, .int .i64 y, .int .i64 z]) :
    w.cell? ⟨g, 0, none⟩ = some (.int .i64 x) ∧ w.cell? ⟨g, 1, none⟩ = some (.int .i64 y) ∧ w.cell? ⟨g, 2, none⟩ = some (.int .i64 z) ∧
      w.frozen? ⟨g, 0, none⟩ = false ∧ w.frozen? ⟨g, 1, none⟩ = false ∧ w.frozen? ⟨g, 2, none⟩ = false := ⟨h.cell 0, h.cell 1, h.cell 2, h.frozen 0, h.frozen 1, h.frozen 2⟩
theorem Blk.put3 {w : World} {g : Nat} {t : TypeId} {a b c x y z : Value} (h : Blk w g t #[a, b, c]) : Blk (((w.setCell ⟨g, 0, none⟩ x).setCell ⟨g, 1, none⟩ y).setCell ⟨g, 2, none⟩ z) g t #[x, y, z] :=
  ((h.put 0 x).put 1 y).put 2 z
theorem Blk.new' {w : World} {N : Nat} (hN : w.heap.size = N) (t : TypeId) (cs : Array Value) : Blk (w.alloc (.cells cs t)) N t cs := by subst hN; exact Blk.new w t cs
theorem size1 {w : World} {N : Nat} (hN : w.heap.size = N) (o : Obj) : (w.alloc o).heap.size = N + 1 := by subst hN; simp
theorem Below.put3 {N g : Nat} {w w1 : World} (h : Below N w w1) (hg : N ≤ g) (x y z : Value) : Below N w (((w1.setCell ⟨g, 0, none⟩ x).setCell ⟨g, 1, none⟩ y).setCell ⟨g, 2, none⟩ z) :=
  ((h.setCell hg x).setCell hg y).setCell hg z
theorem Blk.far3 {w : World} {g k : Nat} {t : TypeId} {cs : Array Value} (h : Blk w g t cs) (hk : g ≠ k) (x y z : Value) : Blk (((w.setCell ⟨k, 0, none⟩ x).setCell ⟨k, 1, none⟩ y).setCell ⟨k, 2, none⟩ z) g t cs :=
  ((h.far (p := ⟨k, 0, none⟩) hk x).far (p := ⟨k, 1, none⟩) hk y).far (p := ⟨k, 2, none⟩) hk z

namespace Surf
theorem is_b (x y z : Int) : decide (Is x y z) = ((!(decide (0 < x) && decide (0 < y))) && (decide (0 ≤ x ∧ x ≤ 20) && (decide (0 ≤ y ∧ y ≤ 20) && decide (0 ≤ z ∧ z ≤ 20)))) := by
  by_cases h1 : 0 < x
  · by_cases h2 : 0 < y
    · rw [decide_eq_true h1, decide_eq_true h2, decide_eq_false (fun h : Is x y z => by unfold Is at h; omega)]; rfl
    · rw [decide_eq_true h1, decide_eq_false h2, Bool.eq_iff_iff, decide_eq_true_iff]; simp only [Bool.not_false, Bool.and_false, Bool.false_and, Bool.true_and, Bool.and_eq_true, decide_eq_true_eq]; exact ⟨fun h => ⟨h.1, h.2.1, h.2.2.1⟩, fun h => ⟨h.1, h.2.1, h.2.2, by have := h.1; have := h.2.1; omega⟩⟩
  · rw [decide_eq_false h1, Bool.eq_iff_iff, decide_eq_true_iff]; simp only [Bool.not_false, Bool.and_false, Bool.false_and, Bool.true_and, Bool.and_eq_true, decide_eq_true_eq]; exact ⟨fun h => ⟨h.1, h.2.1, h.2.2.1⟩, fun h => ⟨h.1, h.2.1, h.2.2, by have := h.1; have := h.2.1; omega⟩⟩
end Surf

set_option maxRecDepth 10000 in
set_option maxHeartbeats 1000000 in
theorem impl_isNumberOfKind (x : Int) (w : World) :
    Calls Tryz.prog 118 #[.int .i64 x] w fun e w' => e = .returned (.bool (decide (0 ≤ x ∧ x ≤ 20))) ∧ w' = w := by
  by_cases h1 : 0 ≤ x
  · have d1 : decide (0 ≤ x) = true := decide_eq_true h1
    by_cases h2 : x ≤ 20
    · have d2 : decide (x ≤ 20) = true := decide_eq_true h2
      rw [decide_eq_true (show 0 ≤ x ∧ x ≤ 20 from ⟨h1, h2⟩)]
      go_enter Tryz.func118, Tryz.ntmps118
      go_wp2
      go_ret
      exact ⟨rfl, rfl⟩
    · have d2 : decide (x ≤ 20) = false := decide_eq_false h2
      rw [decide_eq_false (show ¬ (0 ≤ x ∧ x ≤ 20) from fun h => h2 h.2)]
      go_enter Tryz.func118, Tryz.ntmps118
      go_wp2
      go_ret
      exact ⟨rfl, rfl⟩
  · have d1 : decide (0 ≤ x) = false := decide_eq_false h1
    rw [decide_eq_false (show ¬ (0 ≤ x ∧ x ≤ 20) from fun h => h1 h.1)]
    go_enter Tryz.func118, Tryz.ntmps118
    go_wp2
    go_ret
    exact ⟨rfl, rfl⟩

set_option maxRecDepth 10000 in
set_option maxHeartbeats 2000000 in
theorem impl_IsSurface (x y z : Int) (w : World) (hb : I64s [x, y, z]) :
    Calls Tryz.prog 100 #[.agg #[.int .i64 x, .int .i64 y, .int .i64 z]] w fun e w' => e = .returned (.bool (decide (Surf.Is x y z))) ∧ Below w.heap.size w w' := by
  clear hb
  rw [Surf.is_b]
  have hx := fun W => impl_isNumberOfKind x W
  have hy := fun W => impl_isNumberOfKind y W
  have hz := fun W => impl_isNumberOfKind z W
  generalize decide (0 ≤ x ∧ x ≤ 20) = kx at *
  generalize decide (0 ≤ y ∧ y ≤ 20) = ky at *
  generalize decide (0 ≤ z ∧ z ≤ 20) = kz at *
  have hx := Lib.hid hx; have hy := Lib.hid hy; have hz := Lib.hid hz
  by_cases h1 : 0 < x
  · have d1 : decide (0 < x) = true := decide_eq_true h1
    rw [d1]
    by_cases h2 : 0 < y
    · have d2 : decide (0 < y) = true := decide_eq_true h2
      rw [d2]
      clear h1 h2
      go_enter Tryz.func100, Tryz.ntmps100
      go_wp2
      go_ret
      exact ⟨rfl, (Below.refl w.heap.size w).alloc (Nat.le_refl _) _⟩
    · have d2 : decide (0 < y) = false := decide_eq_false h2
      rw [d2]
      clear h1 h2
      cases kx with
      | false =>
        go_enter Tryz.func100, Tryz.ntmps100
        go_wp2_with fail
        refine (hx.out _).mono ?_
        rintro e w1 ⟨rfl, rfl⟩
        go_wp2
        go_ret
        exact ⟨rfl, (Below.refl w.heap.size w).alloc (Nat.le_refl _) _⟩
      | true =>
        cases ky with
        | false =>
          go_enter Tryz.func100, Tryz.ntmps100
          go_wp2_with fail
          refine (hx.out _).mono ?_
          rintro e w1 ⟨rfl, rfl⟩
          go_wp2_with fail
          refine (hy.out _).mono ?_
          rintro e w1 ⟨rfl, rfl⟩
          go_wp2
          go_ret
          exact ⟨rfl, (Below.refl w.heap.size w).alloc (Nat.le_refl _) _⟩
        | true =>
          cases kz with
          | false =>
            go_enter Tryz.func100, Tryz.ntmps100
            go_wp2_with fail
            refine (hx.out _).mono ?_
            rintro e w1 ⟨rfl, rfl⟩
            go_wp2_with fail
            refine (hy.out _).mono ?_
            rintro e w1 ⟨rfl, rfl⟩
            go_wp2_with fail
            refine (hz.out _).mono ?_
            rintro e w1 ⟨rfl, rfl⟩
            go_wp2
            go_ret
            exact ⟨rfl, (Below.refl w.heap.size w).alloc (Nat.le_refl _) _⟩
          | true =>
            go_enter Tryz.func100, Tryz.ntmps100
            go_wp2_with fail
            refine (hx.out _).mono ?_
            rintro e w1 ⟨rfl, rfl⟩
            go_wp2_with fail
            refine (hy.out _).mono ?_
            rintro e w1 ⟨rfl, rfl⟩
            go_wp2_with fail
            refine (hz.out _).mono ?_
            rintro e w1 ⟨rfl, rfl⟩
            go_wp2
            go_ret
            exact ⟨rfl, (Below.refl w.heap.size w).alloc (Nat.le_refl _) _⟩
  · have d1 : decide (0 < x) = false := decide_eq_false h1
    rw [d1]
    clear h1
    cases kx with
    | false =>
      go_enter Tryz.func100, Tryz.ntmps100
      go_wp2_with fail
      refine (hx.out _).mono ?_
      rintro e w1 ⟨rfl, rfl⟩
      go_wp2
      go_ret
      exact ⟨rfl, (Below.refl w.heap.size w).alloc (Nat.le_refl _) _⟩
    | true =>
      cases ky with
      | false =>
        go_enter Tryz.func100, Tryz.ntmps100
        go_wp2_with fail
        refine (hx.out _).mono ?_
        rintro e w1 ⟨rfl, rfl⟩
        go_wp2_with fail
        refine (hy.out _).mono ?_
        rintro e w1 ⟨rfl, rfl⟩
        go_wp2
        go_ret
        exact ⟨rfl, (Below.refl w.heap.size w).alloc (Nat.le_refl _) _⟩
      | true =>
        cases kz with
        | false =>
          go_enter Tryz.func100, Tryz.ntmps100
          go_wp2_with fail
          refine (hx.out _).mono ?_
          rintro e w1 ⟨rfl, rfl⟩
          go_wp2_with fail
          refine (hy.out _).mono ?_
          rintro e w1 ⟨rfl, rfl⟩
          go_wp2_with fail
          refine (hz.out _).mono ?_
          rintro e w1 ⟨rfl, rfl⟩
          go_wp2
          go_ret
          exact ⟨rfl, (Below.refl w.heap.size w).alloc (Nat.le_refl _) _⟩
        | true =>
          go_enter Tryz.func100, Tryz.ntmps100
          go_wp2_with fail
          refine (hx.out _).mono ?_
          rintro e w1 ⟨rfl, rfl⟩
          go_wp2_with fail
          refine (hy.out _).mono ?_
          rintro e w1 ⟨rfl, rfl⟩
          go_wp2_with fail
          refine (hz.out _).mono ?_
          rintro e w1 ⟨rfl, rfl⟩
          go_wp2
          go_ret
          exact ⟨rfl, (Below.refl w.heap.size w).alloc (Nat.le_refl _) _⟩

set_option maxRecDepth 10000 in
set_option maxHeartbeats 1000000 in
theorem impl_EulerNumber (x y z : Int) (w : World) (hb : I64s [x, y, z]) :
    Calls Tryz.prog 78 #[.agg #[.int .i64 x, .int .i64 y, .int .i64 z]] w fun e w' => e = .returned (.int .i64 (Surf.euler x y z)) ∧ Below w.heap.size w w' := by
  have hI := fun W => impl_IsSurface x y z W hb
  generalize hv : Surf.euler x y z = v
  unfold Surf.euler at hv
  by_cases hs : Surf.Is x y z
  · rw [if_pos hs] at hv
    rw [decide_eq_true hs] at hI
    obtain ⟨⟨h1, h2⟩, ⟨h3, h4⟩, ⟨h5, h6⟩, _⟩ := hs
    have HI := Lib.hid hI; have Hv := Lib.hid hv
    clear hI hv hb
    go_enter Tryz.func78, Tryz.ntmps78
    generalize hN : w.heap.size = N at *
    have HN := Lib.hid hN
    go_wp2_with fail
    refine (HI.out _).mono ?_
    rintro e w1 ⟨rfl, hb1⟩
    have hsz : (w.alloc (.cells #[.int .i64 x, .int .i64 y, .int .i64 z] 46)).heap.size = N + 1 := by rw [← HN.out]; simp
    rw [hsz] at hb1
    have hbx := box3 hb1 (by have := HN.out; omega)
    rw [HN.out] at hbx
    obtain ⟨hc0, hc1, hc2⟩ := hbx.three
    have Hb1 := Lib.hid hb1
    clear hb1 hbx hsz
    go_wp2
    go_ret
    refine ⟨by rw [← Hv.out]; rfl, ?_⟩
    have h0 := (Below.refl w.heap.size w).alloc (Nat.le_refl _) (.cells #[.int .i64 x, .int .i64 y, .int .i64 z] 46)
    rw [HN.out] at h0
    exact h0.trans (Hb1.out.mono (Nat.le_succ N))
  · rw [if_neg hs] at hv
    rw [decide_eq_false hs] at hI
    have HI := Lib.hid hI; have Hv := Lib.hid hv
    clear hI hv hb hs
    go_enter Tryz.func78, Tryz.ntmps78
    go_wp2_with fail
    refine (HI.out _).mono ?_
    rintro e w1 ⟨rfl, hb1⟩
    go_wp2
    go_ret
    exact ⟨by rw [← Hv.out]; rfl, ((Below.refl w.heap.size w).alloc (Nat.le_refl _) _).trans (hb1.mono (by simp))⟩

theorem results_cell_tmp {P : Program} {fn : Func} {p q : Tmp} {ty : TypeId} (h : fn.results = #[.cell p ty, .tmp q]) (tmps : Array Value) (w : World) (g : Nat) (t : TypeId) (cs : Array Value) (fr : Nat × Nat) (d : TypeDesc)
    (hp : tmps.getD p undef = .pointer (some ⟨g, 0, none⟩)) (hg : w.heap[g]? = some (.cells cs t fr))
    (hu : P.underlying ty = some d) (hd : (match d with | .struct _ | .array _ _ => true | _ => false) = true) (hi : (P.info? ty).map (·.size) = some cs.size) :
    (results fn tmps).run P w = .ok (.tuple #[.agg cs, tmps.getD q undef]) w := by
  have hp' : tmps[p]?.getD undef = .pointer (some ⟨g, 0, none⟩) := by simpa using hp
  simp [results, h, hp', asAddr, run_loadVar_row w g t ty cs fr d hg hu hd hi]




end Go.Proofs.YtamgimdjnmcpaaaGreat
namespace Go.Proofs.YtamgimdjnmcpaaaGreat
open Go.RowKit

/-- Three blocks that a call's frame has laid, behind the first callee. -/
theorem Blk.of3 {w w1 : World} {N M : Nat} {t : TypeId} {A B C : Array Value} (hN : w.heap.size = N) (hb : Below M (((w.alloc (.cells A t)).alloc (.cells B t)).alloc (.cells C t)) w1) (hM : M = N + 3) :
    Blk w1 N t A ∧ Blk w1 (N + 1) t B ∧ Blk w1 (N + 1 + 1) t C ∧ Below N w w1 := by
  subst hM
  have s1 := size1 hN (.cells A t)
  have s2 := size1 s1 (.cells B t)
  have h0 : Below N w (((w.alloc (.cells A t)).alloc (.cells B t)).alloc (.cells C t)) := by
    have h := (((Below.refl w.heap.size w).alloc (Nat.le_refl _) (.cells A t)).alloc (by simp) (.cells B t)).alloc (by simp; omega) (.cells C t)
    rwa [hN] at h
  exact ⟨(((Blk.new' hN t A).alloc _).alloc _).below hb (by omega), ((Blk.new' s1 t B).alloc _).below hb (by omega), (Blk.new' s2 t C).below hb (by omega), h0.trans (hb.mono (by omega))⟩
/-- One block. -/
theorem Blk.of1 {w w1 : World} {N M : Nat} {t : TypeId} {A : Array Value} (hN : w.heap.size = N) (hb : Below M (w.alloc (.cells A t)) w1) (hM : M = N + 1) : Blk w1 N t A ∧ Below N w w1 := by
  subst hM
  have h0 : Below N w (w.alloc (.cells A t)) := by
    have h := (Below.refl w.heap.size w).alloc (Nat.le_refl _) (.cells A t)
    rwa [hN] at h
  exact ⟨(Blk.new' hN t A).below hb (by omega), h0.trans (hb.mono (by omega))⟩
/-- Two blocks. -/
theorem Blk.of2 {w w1 : World} {N M : Nat} {t : TypeId} {A B : Array Value} (hN : w.heap.size = N) (hb : Below M ((w.alloc (.cells A t)).alloc (.cells B t)) w1) (hM : M = N + 2) :
    Blk w1 N t A ∧ Blk w1 (N + 1) t B ∧ Below N w w1 := by
  subst hM
  have s1 := size1 hN (.cells A t)
  have h0 : Below N w ((w.alloc (.cells A t)).alloc (.cells B t)) := by
    have h := ((Below.refl w.heap.size w).alloc (Nat.le_refl _) (.cells A t)).alloc (by simp) (.cells B t)
    rwa [hN] at h
  exact ⟨((Blk.new' hN t A).alloc _).below hb (by omega), (Blk.new' s1 t B).below hb (by omega), h0.trans (hb.mono (by omega))⟩

theorem below_lay {N : Nat} {w w2 w3 : World} {o : Obj} (hl : Below N w w2) (hN : N ≤ w2.heap.size) (hb : Below (w2.alloc o).heap.size (w2.alloc o) w3) : Below N w w3 :=
  hl.trans ((((Below.refl w2.heap.size w2).alloc (Nat.le_refl _) o).trans (hb.mono (by simp))).mono hN)

theorem below_put3 {N g : Nat} {w w1 : World} (h : Below N w w1) (hg : N ≤ g) (x y z : Value) : Below N w (((w1.setCell ⟨g, 0, none⟩ x).setCell ⟨g, 1, none⟩ y).setCell ⟨g, 2, none⟩ z) :=
  ((h.setCell hg x).setCell hg y).setCell hg z
namespace Surf
def mix (x y z p q r : Int) : Int × Int × Int := if 0 < y + q then (0, y + q + 2 * (x + p), z + r) else (x + p, y + q, z + r)
def sumOk (x y z p q r : Int) : Prop := Is x y z ∧ Is p q r ∧ Is (mix x y z p q r).1 (mix x y z p q r).2.1 (mix x y z p q r).2.2
instance (x y z p q r : Int) : Decidable (sumOk x y z p q r) := by unfold sumOk; exact inferInstance
def sum (x y z p q r : Int) : Int × Int × Int := if sumOk x y z p q r then mix x y z p q r else (0, 0, 0)
theorem sum_of {x y z p q r : Int} (hs : Is x y z) (ht : Is p q r) : sum x y z p q r = right (mix x y z p q r) ∧ decide (sumOk x y z p q r) = decide (Is (mix x y z p q r).1 (mix x y z p q r).2.1 (mix x y z p q r).2.2) := by
  have e : sumOk x y z p q r ↔ Is (mix x y z p q r).1 (mix x y z p q r).2.1 (mix x y z p q r).2.2 := ⟨fun h => h.2.2, fun h => ⟨hs, ht, h⟩⟩
  refine ⟨?_, decide_eq_decide.2 e⟩
  unfold sum right
  by_cases h : Is (mix x y z p q r).1 (mix x y z p q r).2.1 (mix x y z p q r).2.2
  · rw [if_pos h, if_pos (e.2 h)]
  · rw [if_neg h, if_neg (fun k => h (e.1 k))]
theorem sum_not {x y z p q r : Int} (h : ¬ (Is x y z ∧ Is p q r)) : sum x y z p q r = (0, 0, 0) ∧ decide (sumOk x y z p q r) = false := by
  have e : ¬ sumOk x y z p q r := fun k => h ⟨k.1, k.2.1⟩
  exact ⟨if_neg e, decide_eq_false e⟩
end Surf

end Go.Proofs.YtamgimdjnmcpaaaGreat
namespace Go.Proofs.YtamgimdjnmcpaaaGreat
open Go.RowKit

theorem ints_one (l : List Int) : ∀ u ∈ intCells l, u.oneCell' = true := by
  intro u hu
  simp only [intCells, List.mem_map] at hu
  obtain ⟨x, _, rfl⟩ := hu
  rfl
theorem grid_one {w : World} {N c n K : Nat} {a : Option Addr} {l : List Int} (hf : Fresh w N 3 a (intCells l)) (hN : N ≤ w.heap.size) (hn : l.length = n) (hK : w.heap.size = K) (hlc : n ≤ c) :
    GridIn (w.alloc (.cells #[.slice a n c] 30)) N (w.alloc (.cells #[.slice a n c] 30)).heap.size (some ⟨K, 0, none⟩) [l] := by
  subst hn; subst hK
  rw [show (w.alloc (.cells #[.slice a l.length c] 30)).heap.size = w.heap.size + 1 from by simp]
  exact grid_single hf hN hlc
theorem int_append (l m : List Int) : intCells (l ++ m) = intCells l ++ intCells m := by simp [intCells]
namespace Surf
/-- The sides of the first i handles; of i crosscaps and of i borders, whose first letter is s. -/
def hs (i : Nat) : List Int := (List.range i).flatMap fun (k : Nat) => [1 + 2 * (k : Int), 1 + 2 * (k : Int) + 1, -(1 + 2 * (k : Int)), -(1 + 2 * (k : Int)) - 1]
def cs (s : Int) (i : Nat) : List Int := (List.range i).flatMap fun (k : Nat) => [s + 1 * (k : Int), s + 1 * (k : Int)]
def bs (s : Int) (i : Nat) : List Int := (List.range i).flatMap fun (k : Nat) => [s + 2 * (k : Int), s + 2 * (k : Int) + 1, -(s + 2 * (k : Int))]
theorem hs_snoc (i : Nat) : hs (i + 1) = hs i ++ [1 + 2 * (i : Int), 1 + 2 * (i : Int) + 1, -(1 + 2 * (i : Int)), -(1 + 2 * (i : Int)) - 1] := by unfold hs; rw [List.range_succ, List.flatMap_append]; simp
theorem cs_snoc (s : Int) (i : Nat) : cs s (i + 1) = cs s i ++ [s + 1 * (i : Int), s + 1 * (i : Int)] := by unfold cs; rw [List.range_succ, List.flatMap_append]; simp
theorem bs_snoc (s : Int) (i : Nat) : bs s (i + 1) = bs s i ++ [s + 2 * (i : Int), s + 2 * (i : Int) + 1, -(s + 2 * (i : Int))] := by unfold bs; rw [List.range_succ, List.flatMap_append]; simp
theorem hs_len (i : Nat) : (hs i).length = 4 * i := by
  induction i with
  | zero => rfl
  | succ i ih => rw [hs_snoc, List.length_append, ih]; simp; omega
theorem cs_len (s : Int) (i : Nat) : (cs s i).length = 2 * i := by
  induction i with
  | zero => rfl
  | succ i ih => rw [cs_snoc, List.length_append, ih]; simp; omega
theorem bs_len (s : Int) (i : Nat) : (bs s i).length = 3 * i := by
  induction i with
  | zero => rfl
  | succ i ih => rw [bs_snoc, List.length_append, ih]; simp; omega
def poly (h c b : Nat) : List Int := hs h ++ cs (1 + 2 * (h : Int)) c ++ bs (1 + 2 * (h : Int) + (c : Int)) b
theorem poly_len (h c b : Nat) : (poly h c b).length = 4 * h + 2 * c + 3 * b := by unfold poly; rw [List.length_append, List.length_append, hs_len, cs_len, bs_len]
def side (h c b : Nat) : List Int := if h = 0 ∧ c = 0 ∧ b = 0 then [1, -1] else poly h c b
/-- The standard gluing, if the letters are enough. -/
def stdOk (x y z : Int) : Prop := Is x y z ∧ 2 * x + y + 2 * z ≤ 8
instance (x y z : Int) : Decidable (stdOk x y z) := by unfold stdOk; exact inferInstance
def std (x y z : Int) : List (List Int) := if stdOk x y z then [side x.toNat y.toNat z.toNat] else []
theorem std_tot (x y z : Int) : tot (std x y z) ≤ 1000000 := by
  unfold std
  by_cases h : stdOk x y z
  · rw [if_pos h]
    obtain ⟨⟨⟨_, _⟩, ⟨_, _⟩, ⟨_, _⟩, _⟩, h8⟩ := h
    have hl : (side x.toNat y.toNat z.toNat).length ≤ 100 := by
      unfold side; split
      · simp
      · rw [poly_len]; omega
    unfold tot; rw [sumLen_flat]
    simp only [List.flatten_cons, List.flatten_nil, List.append_nil, List.length_singleton]
    omega
  · rw [if_neg h]; decide
end Surf

set_option maxRecDepth 10000 in
set_option maxHeartbeats 4000000 in
theorem impl_standardPolygon (h c b : Nat) (w : World) (hh : h ≤ 20) (hc : c ≤ 20) (hb : b ≤ 20) :
    Calls Tryz.prog 117 #[.agg #[.int .i64 (h : Int), .int .i64 (c : Int), .int .i64 (b : Int)]] w fun e w' => Gives w (Surf.poly h c b) e w' := by
  obtain ⟨i0, hi0, hz0, hz1, hz2⟩ := info_int_parts
  have Hi0 := Lib.hid hi0; have Hz0 := Lib.hid hz0; have Hz1 := Lib.hid hz1; have Hz2 := Lib.hid hz2
  clear hi0 hz0 hz1 hz2
  generalize hN : w.heap.size = N at *
  have HN := Lib.hid hN
  go_enter Tryz.func117, Tryz.ntmps117
  obtain ⟨hA, hl⟩ := Blk.of1 hN (Below.refl (N + 1) (w.alloc (.cells #[.int .i64 (h : Int), .int .i64 (c : Int), .int .i64 (b : Int)] 46))) rfl
  have HA := Lib.hid hA; have Hl := Lib.hid hl; clear hA hl
  go_wp2
  go_loopw [3, 4, 7] (fun ov xv iv wr => ∃ i : Nat, ∃ X : Int, i ≤ h ∧ iv = .int .i64 (i : Int) ∧ xv = .int .i64 X ∧ X = 1 + 2 * (i : Int) ∧ Below N w wr ∧ Blk wr N 46 #[.int .i64 (h : Int), .int .i64 (c : Int), .int .i64 (b : Int)] ∧ wr.ownsRow (N + 1) 3 1 ov (4 * i) (intCells (Surf.hs i))) (fun _ _ iv _ => (h - intOf iv).toNat)
  case atStart => exact ⟨0, 1, Nat.zero_le _, rfl, rfl, rfl, Hl.out, HA.out, ⟨by simp [intCells, Surf.hs], Or.inl ⟨rfl, by simp [intCells, Surf.hs]⟩⟩⟩
  case round =>
    obtain ⟨i, X, hi, rfl, rfl, hX, hb, hbox, hown⟩ := hrel
    have hNle : N + 1 ≤ wr.heap.size := hbox.lt
    obtain ⟨_, _, _, _, _, _⟩ := hbox.six
    have Hbox := Lib.hid hbox; clear hbox
    by_cases hlt : i < h
    · have Hst := Lib.hid (Surf.hs_snoc i)
      have dlt : decide ((i : Int) < (h : Int)) = true := decide_eq_true (by omega)
      have hx0 : 1 ≤ X := by omega
      have hx1 : X ≤ 1000 := by omega
      have HX := Lib.hid hX
      have Hb := Lib.hid hb; have Hlt := Lib.hid hlt; clear hb hlt
      have hc1 : (4 * i) + 4 ≤ maxLen := by unfold maxLen; omega
      have hc2 : ((4 * i) + 4) * 8 ≤ 140737488355328 := by omega
      have Hln := Lib.hid (show (4 * i) + 4 = (4 * (i + 1)) by omega)
      clear hX
      obtain ⟨av, cv, rfl⟩ := own_len hown
      go_wp2_with (at_builtin; refine append_lits [.int .i64 X, .int .i64 (X + 1), .int .i64 (-X), .int .i64 (-X - 1)] 4 rfl rfl (.tmp 9) (.tmp 18) 30 rfl (N + 1) 3 i0 _ 8 Tryz.underlying30 Hi0.out Hz0.out Hz1.out Hz2.out (by rfl) _ _ _ rfl hown (ints_one [X, X + 1, -X, -X - 1]) _ rfl hc1 hc2 hNle ?_; intro v1 w1 hown1 hg1)
      go_roundw
      case rel =>
        refine ⟨i + 1, X + 2, by have := Hlt.out; omega, by go_num, rfl, ?_, Below.grown (Hb.out.alloc (by omega) _) hg1 (by simp; omega) (fun k hk => by have := (hown.lt k hk).1; omega), (Hbox.out.alloc _).grown hg1 (fun e => by have := (hown.lt _ e.symm).1; omega), ?_⟩
        · have := HX.out; rw [this, Int.natCast_add, Int.mul_add]; omega
        · have hX := HX.out; rw [Hst.out, ← Hln.out, int_append]; subst hX; exact hown1
      case measure => have := Hlt.out; simp [intOf] <;> omega
    · have hin : h = i := by omega
      subst hin
      have dlt : decide ((h : Int) < (h : Int)) = false := decide_eq_false (by omega)
      clear hlt hi
      have Hown := Lib.hid hown; have Hb := Lib.hid hb; clear hown hb
      have HX := Lib.hid hX; clear hX
      go_wp2
      go_loopw [3, 4, 25] (fun ov xv iv wr => ∃ i : Nat, ∃ X : Int, i ≤ c ∧ iv = .int .i64 (i : Int) ∧ xv = .int .i64 X ∧ X = (1 + 2 * (h : Int)) + 1 * (i : Int) ∧ Below N w wr ∧ Blk wr N 46 #[.int .i64 (h : Int), .int .i64 (c : Int), .int .i64 (b : Int)] ∧ wr.ownsRow (N + 1) 3 1 ov (4 * h + 2 * i) (intCells (Surf.hs h ++ Surf.cs (1 + 2 * (h : Int)) i))) (fun _ _ iv _ => (c - intOf iv).toNat)
      case atStart => exact ⟨0, X, Nat.zero_le _, rfl, rfl, by have := HX.out; omega, Hb.out, Hbox.out, by simpa [Surf.cs] using Hown.out⟩
      case round =>
        obtain ⟨i, X, hi, rfl, rfl, hX, hb, hbox, hown⟩ := hrel
        have hNle : N + 1 ≤ wr.heap.size := hbox.lt
        obtain ⟨_, _, _, _, _, _⟩ := hbox.six
        have Hbox := Lib.hid hbox; clear hbox
        by_cases hlt : i < c
        · have Hst := Lib.hid (Surf.cs_snoc (1 + 2 * (h : Int)) i)
          have dlt : decide ((i : Int) < (c : Int)) = true := decide_eq_true (by omega)
          have hx0 : 1 ≤ X := by omega
          have hx1 : X ≤ 1000 := by omega
          have HX := Lib.hid hX
          have Hb := Lib.hid hb; have Hlt := Lib.hid hlt; clear hb hlt
          have hc1 : (4 * h + 2 * i) + 2 ≤ maxLen := by unfold maxLen; omega
          have hc2 : ((4 * h + 2 * i) + 2) * 8 ≤ 140737488355328 := by omega
          have Hln := Lib.hid (show (4 * h + 2 * i) + 2 = (4 * h + 2 * (i + 1)) by omega)
          clear hX
          obtain ⟨av, cv, rfl⟩ := own_len hown
          go_wp2_with (at_builtin; refine append_lits [.int .i64 X, .int .i64 X] 2 rfl rfl (.tmp 27) (.tmp 30) 30 rfl (N + 1) 3 i0 _ 8 Tryz.underlying30 Hi0.out Hz0.out Hz1.out Hz2.out (by rfl) _ _ _ rfl hown (ints_one [X, X]) _ rfl hc1 hc2 hNle ?_; intro v1 w1 hown1 hg1)
          go_roundw
          case rel =>
            refine ⟨i + 1, X + 1, by have := Hlt.out; omega, by go_num, rfl, ?_, Below.grown (Hb.out.alloc (by omega) _) hg1 (by simp; omega) (fun k hk => by have := (hown.lt k hk).1; omega), (Hbox.out.alloc _).grown hg1 (fun e => by have := (hown.lt _ e.symm).1; omega), ?_⟩
            · have := HX.out; rw [this, Int.natCast_add, Int.mul_add]; omega
            · have hX := HX.out; rw [Hst.out, ← List.append_assoc, ← Hln.out, int_append]; subst hX; exact hown1
          case measure => have := Hlt.out; simp [intOf] <;> omega
        · have hin : c = i := by omega
          subst hin
          have dlt : decide ((c : Int) < (c : Int)) = false := decide_eq_false (by omega)
          clear hlt hi
          have Hown := Lib.hid hown; have Hb := Lib.hid hb; clear hown hb
          have HX := Lib.hid hX; clear hX
          go_wp2
          go_loopw [3, 4, 37] (fun ov xv iv wr => ∃ i : Nat, ∃ X : Int, i ≤ b ∧ iv = .int .i64 (i : Int) ∧ xv = .int .i64 X ∧ X = (1 + 2 * (h : Int) + (c : Int)) + 2 * (i : Int) ∧ Below N w wr ∧ Blk wr N 46 #[.int .i64 (h : Int), .int .i64 (c : Int), .int .i64 (b : Int)] ∧ wr.ownsRow (N + 1) 3 1 ov (4 * h + 2 * c + 3 * i) (intCells (Surf.hs h ++ Surf.cs (1 + 2 * (h : Int)) c ++ Surf.bs (1 + 2 * (h : Int) + (c : Int)) i))) (fun _ _ iv _ => (b - intOf iv).toNat)
          case atStart => exact ⟨0, X, Nat.zero_le _, rfl, rfl, by have := HX.out; omega, Hb.out, Hbox.out, by simpa [Surf.bs] using Hown.out⟩
          case round =>
            obtain ⟨i, X, hi, rfl, rfl, hX, hb, hbox, hown⟩ := hrel
            have hNle : N + 1 ≤ wr.heap.size := hbox.lt
            obtain ⟨_, _, _, _, _, _⟩ := hbox.six
            have Hbox := Lib.hid hbox; clear hbox
            by_cases hlt : i < b
            · have Hst := Lib.hid (Surf.bs_snoc (1 + 2 * (h : Int) + (c : Int)) i)
              have dlt : decide ((i : Int) < (b : Int)) = true := decide_eq_true (by omega)
              have hx0 : 1 ≤ X := by omega
              have hx1 : X ≤ 1000 := by omega
              have HX := Lib.hid hX
              have Hb := Lib.hid hb; have Hlt := Lib.hid hlt; clear hb hlt
              have hc1 : (4 * h + 2 * c + 3 * i) + 3 ≤ maxLen := by unfold maxLen; omega
              have hc2 : ((4 * h + 2 * c + 3 * i) + 3) * 8 ≤ 140737488355328 := by omega
              have Hln := Lib.hid (show (4 * h + 2 * c + 3 * i) + 3 = (4 * h + 2 * c + 3 * (i + 1)) by omega)
              clear hX
              obtain ⟨av, cv, rfl⟩ := own_len hown
              go_wp2_with (at_builtin; refine append_lits [.int .i64 X, .int .i64 (X + 1), .int .i64 (-X)] 3 rfl rfl (.tmp 39) (.tmp 45) 30 rfl (N + 1) 3 i0 _ 8 Tryz.underlying30 Hi0.out Hz0.out Hz1.out Hz2.out (by rfl) _ _ _ rfl hown (ints_one [X, X + 1, -X]) _ rfl hc1 hc2 hNle ?_; intro v1 w1 hown1 hg1)
              go_roundw
              case rel =>
                refine ⟨i + 1, X + 2, by have := Hlt.out; omega, by go_num, rfl, ?_, Below.grown (Hb.out.alloc (by omega) _) hg1 (by simp; omega) (fun k hk => by have := (hown.lt k hk).1; omega), (Hbox.out.alloc _).grown hg1 (fun e => by have := (hown.lt _ e.symm).1; omega), ?_⟩
                · have := HX.out; rw [this, Int.natCast_add, Int.mul_add]; omega
                · have hX := HX.out; rw [Hst.out, ← List.append_assoc, ← Hln.out, int_append]; subst hX; exact hown1
              case measure => have := Hlt.out; simp [intOf] <;> omega
            · have hin : b = i := by omega
              subst hin
              have dlt : decide ((b : Int) < (b : Int)) = false := decide_eq_false (by omega)
              clear hlt hi
              have Hown := Lib.hid hown; have Hb := Lib.hid hb
              have Hg := Lib.hid (own_gives (w := w) (l := Surf.poly h c b) (own_mono (base' := w.heap.size) (show wr.ownsRow (N + 1) 3 1 _ (4 * h + 2 * c + 3 * b) (intCells (Surf.poly h c b)) from by unfold Surf.poly; exact Hown.out) (by have := HN.out; omega)) (Surf.poly_len h c b) (by rw [HN.out]; exact Hb.out))
              clear hown hb
              go_wp2
              go_ret
              exact Hg.out
theorem impl_standardPolygon' (x y z : Int) (w : World) (hs : Surf.Is x y z) :
    Calls Tryz.prog 117 #[.agg #[.int .i64 x, .int .i64 y, .int .i64 z]] w fun e w' => Gives w (Surf.poly x.toNat y.toNat z.toNat) e w' := by
  obtain ⟨⟨h1, h2⟩, ⟨h3, h4⟩, ⟨h5, h6⟩, _⟩ := hs
  have h := impl_standardPolygon x.toNat y.toNat z.toNat w (by omega) (by omega) (by omega)
  rwa [Int.toNat_of_nonneg h1, Int.toNat_of_nonneg h3, Int.toNat_of_nonneg h5] at h
end Go.Proofs.YtamgimdjnmcpaaaGreat
