/-
  Surfaces: the walks of the program's IsSurface, EulerNumber and sums.
-/
import Derived.Test.YtodgongemoabiaaBase
import Derived.Test.YtodgongemoabiaaSlice
import Derived.Test.YtodgongemoabiaaIntRow
import Derived.Test.YtodgongemoabiaaSurf
import Derived.Laws.Rows
namespace Go.Proofs.Ytodgongemoabiaa
open Go.RowKit

theorem Blk.six {w : World} {g : Nat} {t : TypeId} {x y z : Int} (h : Blk w g t #[.int .i64 x, .int .i64 y, .int .i64 z]) :
    w.cell? ⟨g, 0, none⟩ = some (.int .i64 x) ∧ w.cell? ⟨g, 1, none⟩ = some (.int .i64 y) ∧ w.cell? ⟨g, 2, none⟩ = some (.int .i64 z) ∧
      w.frozen? ⟨g, 0, none⟩ = false ∧ w.frozen? ⟨g, 1, none⟩ = false ∧ w.frozen? ⟨g, 2, none⟩ = false := ⟨h.cell 0, h.cell 1, h.cell 2, h.frozen 0, h.frozen 1, h.frozen 2⟩
theorem Blk.put3 {w : World} {g : Nat} {t : TypeId} {a b c x y z : Value} (h : Blk w g t #[a, b, c]) : Blk (((w.setCell ⟨g, 0, none⟩ x).setCell ⟨g, 1, none⟩ y).setCell ⟨g, 2, none⟩ z) g t #[x, y, z] :=
  ((h.put 0 x).put 1 y).put 2 z
theorem Blk.new' {w : World} {N : Nat} (hN : w.heap.size = N) (t : TypeId) (cs : Array Value) : Blk (w.alloc (.cells cs t)) N t cs := by subst hN; exact Blk.new w t cs
theorem size1 {w : World} {N : Nat} (hN : w.heap.size = N) (o : Obj) : (w.alloc o).heap.size = N + 1 := by subst hN; simp
theorem Below.put3 {N g : Nat} {w w1 : World} (h : Below N w w1) (hg : N ≤ g) (x y z : Value) : Below N w (((w1.setCell ⟨g, 0, none⟩ x).setCell ⟨g, 1, none⟩ y).setCell ⟨g, 2, none⟩ z) :=
  ((h.setCell hg x).setCell hg y).setCell hg z
theorem Blk.far3 {w : World} {g k : Nat} {t : TypeId} {cs : Array Value} (h : Blk w g t cs) (hk : g ≠ k) (x y z : Value) : Blk (((w.setCell ⟨k, 0, none⟩ x).setCell ⟨k, 1, none⟩ y).setCell ⟨k, 2, none⟩ z) g t cs :=
  ((h.far (p := ⟨k, 0, none⟩) hk x).far (p := ⟨k, 1, none⟩) hk y).far (p := ⟨k, 2, none⟩) hk z

namespace Surf
theorem is_b (x y z : Int) : decide (Is x y z) = ((!(decide (0 < x) && decide (0 < y))) && (decide (0 ≤ x ∧ x ≤ 20) && (decide (0 ≤ y ∧ y ≤ 20) && decide (0 ≤ z ∧ z ≤ 20)))) := by
  by_cases h1 : 0 < x
  · by_cases h2 : 0 < y
    · rw [decide_eq_true h1, decide_eq_true h2, decide_eq_false (fun h : Is x y z => by unfold Is at h; omega)]; rfl
    · rw [decide_eq_true h1, decide_eq_false h2, Bool.eq_iff_iff, decide_eq_true_iff]; simp only [Bool.not_false, Bool.and_false, Bool.false_and, Bool.true_and, Bool.and_eq_true, decide_eq_true_eq]; exact ⟨fun h => ⟨h.1, h.2.1, h.2.2.1⟩, fun h => ⟨h.1, h.2.1, h.2.2, by have := h.1; have := h.2.1; omega⟩⟩
  · rw [decide_eq_false h1, Bool.eq_iff_iff, decide_eq_true_iff]; simp only [Bool.not_false, Bool.and_false, Bool.false_and, Bool.true_and, Bool.and_eq_true, decide_eq_true_eq]; exact ⟨fun h => ⟨h.1, h.2.1, h.2.2.1⟩, fun h => ⟨h.1, h.2.1, h.2.2, by have := h.1; have := h.2.1; omega⟩⟩
end Surf

set_option maxRecDepth 10000 in
set_option maxHeartbeats 1000000 in
theorem impl_isNumberOfKind (x : Int) (w : World) :
    Calls Try.prog 208 #[.int .i64 x] w fun e w' => e = .returned (.bool (decide (0 ≤ x ∧ x ≤ 20))) ∧ w' = w := by
  by_cases h1 : 0 ≤ x
  · have d1 : decide (0 ≤ x) = true := decide_eq_true h1
    by_cases h2 : x ≤ 20
    · have d2 : decide (x ≤ 20) = true := decide_eq_true h2
      rw [decide_eq_true (show 0 ≤ x ∧ x ≤ 20 from ⟨h1, h2⟩)]
      go_enter Try.func208, Try.ntmps208
      go_wp2
      go_ret
      exact ⟨rfl, rfl⟩
    · have d2 : decide (x ≤ 20) = false := decide_eq_false h2
      rw [decide_eq_false (show ¬ (0 ≤ x ∧ x ≤ 20) from fun h => h2 h.2)]
      go_enter Try.func208, Try.ntmps208
      go_wp2
      go_ret
      exact ⟨rfl, rfl⟩
  · have d1 : decide (0 ≤ x) = false := decide_eq_false h1
    rw [decide_eq_false (show ¬ (0 ≤ x ∧ x ≤ 20) from fun h => h1 h.1)]
    go_enter Try.func208, Try.ntmps208
    go_wp2
    go_ret
    exact ⟨rfl, rfl⟩

set_option maxRecDepth 10000 in
set_option maxHeartbeats 2000000 in
theorem impl_IsSurface (x y z : Int) (w : World) (hb : I64s [x, y, z]) :
    Calls Try.prog 194 #[.agg #[.int .i64 x, .int .i64 y, .int .i64 z]] w fun e w' => e = .returned (.bool (decide (Surf.Is x y z))) ∧ Below w.heap.size w w' := by
  clear hb
  rw [Surf.is_b]
  have hx := fun W => impl_isNumberOfKind x W
  have hy := fun W => impl_isNumberOfKind y W
  have hz := fun W => impl_isNumberOfKind z W
  generalize decide (0 ≤ x ∧ x ≤ 20) = kx at *
  generalize decide (0 ≤ y ∧ y ≤ 20) = ky at *
  generalize decide (0 ≤ z ∧ z ≤ 20) = kz at *
  have hx := Lib.hid hx; have hy := Lib.hid hy; have hz := Lib.hid hz
  by_cases h1 : 0 < x
  · have d1 : decide (0 < x) = true := decide_eq_true h1
    rw [d1]
    by_cases h2 : 0 < y
    · have d2 : decide (0 < y) = true := decide_eq_true h2
      rw [d2]
      clear h1 h2
      go_enter Try.func194, Try.ntmps194
      go_wp2
      go_ret
      exact ⟨rfl, (Below.refl w.heap.size w).alloc (Nat.le_refl _) _⟩
    · have d2 : decide (0 < y) = false := decide_eq_false h2
      rw [d2]
      clear h1 h2
      cases kx with
      | false =>
        go_enter Try.func194, Try.ntmps194
        go_wp2_with fail
        refine (hx.out _).mono ?_
        rintro e w1 ⟨rfl, rfl⟩
        go_wp2
        go_ret
        exact ⟨rfl, (Below.refl w.heap.size w).alloc (Nat.le_refl _) _⟩
      | true =>
        cases ky with
        | false =>
          go_enter Try.func194, Try.ntmps194
          go_wp2_with fail
          refine (hx.out _).mono ?_
          rintro e w1 ⟨rfl, rfl⟩
          go_wp2_with fail
          refine (hy.out _).mono ?_
          rintro e w1 ⟨rfl, rfl⟩
          go_wp2
          go_ret
          exact ⟨rfl, (Below.refl w.heap.size w).alloc (Nat.le_refl _) _⟩
        | true =>
          cases kz with
          | false =>
            go_enter Try.func194, Try.ntmps194
            go_wp2_with fail
            refine (hx.out _).mono ?_
            rintro e w1 ⟨rfl, rfl⟩
            go_wp2_with fail
            refine (hy.out _).mono ?_
            rintro e w1 ⟨rfl, rfl⟩
            go_wp2_with fail
            refine (hz.out _).mono ?_
            rintro e w1 ⟨rfl, rfl⟩
            go_wp2
            go_ret
            exact ⟨rfl, (Below.refl w.heap.size w).alloc (Nat.le_refl _) _⟩
          | true =>
            go_enter Try.func194, Try.ntmps194
            go_wp2_with fail
            refine (hx.out _).mono ?_
            rintro e w1 ⟨rfl, rfl⟩
            go_wp2_with fail
            refine (hy.out _).mono ?_
            rintro e w1 ⟨rfl, rfl⟩
            go_wp2_with fail
            refine (hz.out _).mono ?_
            rintro e w1 ⟨rfl, rfl⟩
            go_wp2
            go_ret
            exact ⟨rfl, (Below.refl w.heap.size w).alloc (Nat.le_refl _) _⟩
  · have d1 : decide (0 < x) = false := decide_eq_false h1
    rw [d1]
    clear h1
    cases kx with
    | false =>
      go_enter Try.func194, Try.ntmps194
      go_wp2_with fail
      refine (hx.out _).mono ?_
      rintro e w1 ⟨rfl, rfl⟩
      go_wp2
      go_ret
      exact ⟨rfl, (Below.refl w.heap.size w).alloc (Nat.le_refl _) _⟩
    | true =>
      cases ky with
      | false =>
        go_enter Try.func194, Try.ntmps194
        go_wp2_with fail
        refine (hx.out _).mono ?_
        rintro e w1 ⟨rfl, rfl⟩
        go_wp2_with fail
        refine (hy.out _).mono ?_
        rintro e w1 ⟨rfl, rfl⟩
        go_wp2
        go_ret
        exact ⟨rfl, (Below.refl w.heap.size w).alloc (Nat.le_refl _) _⟩
      | true =>
        cases kz with
        | false =>
          go_enter Try.func194, Try.ntmps194
          go_wp2_with fail
          refine (hx.out _).mono ?_
          rintro e w1 ⟨rfl, rfl⟩
          go_wp2_with fail
          refine (hy.out _).mono ?_
          rintro e w1 ⟨rfl, rfl⟩
          go_wp2_with fail
          refine (hz.out _).mono ?_
          rintro e w1 ⟨rfl, rfl⟩
          go_wp2
          go_ret
          exact ⟨rfl, (Below.refl w.heap.size w).alloc (Nat.le_refl _) _⟩
        | true =>
          go_enter Try.func194, Try.ntmps194
          go_wp2_with fail
          refine (hx.out _).mono ?_
          rintro e w1 ⟨rfl, rfl⟩
          go_wp2_with fail
          refine (hy.out _).mono ?_
          rintro e w1 ⟨rfl, rfl⟩
          go_wp2_with fail
          refine (hz.out _).mono ?_
          rintro e w1 ⟨rfl, rfl⟩
          go_wp2
          go_ret
          exact ⟨rfl, (Below.refl w.heap.size w).alloc (Nat.le_refl _) _⟩

set_option maxRecDepth 10000 in
set_option maxHeartbeats 1000000 in
theorem impl_EulerNumber (x y z : Int) (w : World) (hb : I64s [x, y, z]) :
    Calls Try.prog 180 #[.agg #[.int .i64 x, .int .i64 y, .int .i64 z]] w fun e w' => e = .returned (.int .i64 (Surf.euler x y z)) ∧ Below w.heap.size w w' := by
  have hI := fun W => impl_IsSurface x y z W hb
  generalize hv : Surf.euler x y z = v
  unfold Surf.euler at hv
  by_cases hs : Surf.Is x y z
  · rw [if_pos hs] at hv
    rw [decide_eq_true hs] at hI
    obtain ⟨⟨h1, h2⟩, ⟨h3, h4⟩, ⟨h5, h6⟩, _⟩ := hs
    have HI := Lib.hid hI; have Hv := Lib.hid hv
    clear hI hv hb
    go_enter Try.func180, Try.ntmps180
    generalize hN : w.heap.size = N at *
    have HN := Lib.hid hN
    go_wp2_with fail
    refine (HI.out _).mono ?_
    rintro e w1 ⟨rfl, hb1⟩
    have hsz : (w.alloc (.cells #[.int .i64 x, .int .i64 y, .int .i64 z] 88)).heap.size = N + 1 := by rw [← HN.out]; simp
    rw [hsz] at hb1
    have hbx := box3 hb1 (by have := HN.out; omega)
    rw [HN.out] at hbx
    obtain ⟨hc0, hc1, hc2⟩ := hbx.three
    have Hb1 := Lib.hid hb1
    clear hb1 hbx hsz
    go_wp2
    go_ret
    refine ⟨by rw [← Hv.out]; rfl, ?_⟩
    have h0 := (Below.refl w.heap.size w).alloc (Nat.le_refl _) (.cells #[.int .i64 x, .int .i64 y, .int .i64 z] 88)
    rw [HN.out] at h0
    exact h0.trans (Hb1.out.mono (Nat.le_succ N))
  · rw [if_neg hs] at hv
    rw [decide_eq_false hs] at hI
    have HI := Lib.hid hI; have Hv := Lib.hid hv
    clear hI hv hb hs
    go_enter Try.func180, Try.ntmps180
    go_wp2_with fail
    refine (HI.out _).mono ?_
    rintro e w1 ⟨rfl, hb1⟩
    go_wp2
    go_ret
    exact ⟨by rw [← Hv.out]; rfl, ((Below.refl w.heap.size w).alloc (Nat.le_refl _) _).trans (hb1.mono (by simp))⟩

theorem results_cell_tmp {P : Program} {fn : Func} {p q : Tmp} {ty : TypeId} (h : fn.results = #[.cell p ty, .tmp q]) (tmps : Array Value) (w : World) (g : Nat) (t : TypeId) (cs : Array Value) (fr : Nat × Nat) (d : TypeDesc)
    (hp : tmps.getD p undef = .pointer (some ⟨g, 0, none⟩)) (hg : w.heap[g]? = some (.cells cs t fr))
    (hu : P.underlying ty = some d) (hd : (match d with | .struct _ | .array _ _ => true | _ => false) = true) (hi : (P.info? ty).map (·.size) = some cs.size) :
    (results fn tmps).run P w = .ok (.tuple #[.agg cs, tmps.getD q undef]) w := by
  have hp' : tmps[p]?.getD undef = .pointer (some ⟨g, 0, none⟩) := by simpa using hp
  simp [results, h, hp', asAddr, run_loadVar_row w g t ty cs fr d hg hu hd hi]




end Go.Proofs.Ytodgongemoabiaa
