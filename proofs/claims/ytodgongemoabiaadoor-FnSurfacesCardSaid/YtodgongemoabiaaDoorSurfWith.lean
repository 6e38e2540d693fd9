/-
  Surfaces with a border less, a handle, a crosscap or a border more: the walks of the program and of the model.
-/
import Derived.Test.YtodgongemoabiaaDoorBase
import Derived.Test.YtodgongemoabiaaDoorSlice
import Derived.Test.YtodgongemoabiaaDoorIntRow
import Derived.Test.YtodgongemoabiaaDoorSurf
import Derived.Test.YtodgongemoabiaaDoorSurfI
import Derived.Test.YtodgongemoabiaaDoorSurfSum
import Derived.Laws.Rows
namespace Go.Proofs.YtodgongemoabiaaDoor
open Go.RowKit

namespace Surf
def capOk (x y z : Int) : Prop := Is x y z ∧ z ≠ 0
instance (x y z : Int) : Decidable (capOk x y z) := by unfold capOk; exact inferInstance
def cap (x y z : Int) : Int × Int × Int := if capOk x y z then (x, y, z - 1) else (0, 0, 0)
end Surf

set_option maxRecDepth 10000 in
set_option maxHeartbeats 4000000 in
theorem spec_CapBorder (x y z : Int) (w : World) (ha : I64s [x, y, z]) :
    Calls Tryd.prog 15 #[.agg #[.int .i64 x, .int .i64 y, .int .i64 z]] w fun e w' => GivesS w (Surf.cap x y z) (decide (Surf.capOk x y z)) e w' := by
  have hI := fun W => spec_IsSurface x y z W ha
  generalize hN : w.heap.size = N at *
  have HN := Lib.hid hN
  by_cases hs : Surf.Is x y z
  · rw [decide_eq_true hs] at hI
    have HI := Lib.hid hI; clear hI ha
    by_cases hz : z = 0
    · have hn : ¬ Surf.capOk x y z := fun h => h.2 hz
      rw [show Surf.cap x y z = (0, 0, 0) from if_neg hn, decide_eq_false hn]
      have d1 : (z == 0) = true := by simp [hz]
      clear hn hz hs
      go_enter Tryd.func15, Tryd.ntmps15
      go_wp2_with fail
      refine (HI.out _).mono ?_
      rintro e w1 ⟨rfl, hb1⟩
      obtain ⟨hA1, hZ1, hl1⟩ := Blk.of2 HN.out hb1 (by have := HN.out; simp; omega)
      have HA1 := Lib.hid hA1; have HZ1 := Lib.hid hZ1; have Hl1 := Lib.hid hl1
      obtain ⟨_, _, _, _, _, _⟩ := hA1.six
      obtain ⟨_, _, _, _, _, _⟩ := hZ1.six
      clear hb1 hA1 hZ1 hl1
      go_wp2
      have hZ4 := HZ1.out.put3 (x := .int .i64 0) (y := .int .i64 0) (z := .int .i64 0)
      have hl4 := below_put3 Hl1.out (g := N + 1) (by omega) (.int .i64 0) (.int .i64 0) (.int .i64 0)
      exact bodyPost_ret (results_cell_tmp rfl _ _ (N + 1) 25 #[.int .i64 0, .int .i64 0, .int .i64 0] (0, 0) _ rfl hZ4 Tryd.underlying25 rfl (by kernel_rfl)) rfl ⟨rfl, by rw [HN.out]; exact hl4⟩
    · have hn : Surf.capOk x y z := ⟨hs, hz⟩
      rw [show Surf.cap x y z = (x, y, z - 1) from if_pos hn, decide_eq_true hn]
      have d1 : (z == 0) = false := by simp [hz]
      obtain ⟨_, _, ⟨h5, h6⟩, _⟩ := hs
      clear hn hz
      go_enter Tryd.func15, Tryd.ntmps15
      go_wp2_with fail
      refine (HI.out _).mono ?_
      rintro e w1 ⟨rfl, hb1⟩
      obtain ⟨hA1, hZ1, hl1⟩ := Blk.of2 HN.out hb1 (by have := HN.out; simp; omega)
      have HA1 := Lib.hid hA1; have HZ1 := Lib.hid hZ1; have Hl1 := Lib.hid hl1
      obtain ⟨_, _, _, _, _, _⟩ := hA1.six
      obtain ⟨_, _, _, _, _, _⟩ := hZ1.six
      clear hb1 hA1 hZ1 hl1
      go_wp2
      have hZ4 := (HZ1.out.far (p := ⟨N, 2, none⟩) (by simp) (.int .i64 (z - 1))).put3 (x := .int .i64 x) (y := .int .i64 y) (z := .int .i64 (z - 1))
      have hl4 := below_put3 (Hl1.out.setCell (p := ⟨N, 2, none⟩) (Nat.le_refl N) (.int .i64 (z - 1))) (g := N + 1) (by omega) (.int .i64 x) (.int .i64 y) (.int .i64 (z - 1))
      exact bodyPost_ret (results_cell_tmp rfl _ _ (N + 1) 25 #[.int .i64 x, .int .i64 y, .int .i64 (z - 1)] (0, 0) _ rfl hZ4 Tryd.underlying25 rfl (by kernel_rfl)) rfl ⟨rfl, by rw [HN.out]; exact hl4⟩
  · rw [decide_eq_false hs] at hI
    have HI := Lib.hid hI; clear hI ha
    have hn : ¬ Surf.capOk x y z := fun h => hs h.1
    rw [show Surf.cap x y z = (0, 0, 0) from if_neg hn, decide_eq_false hn]
    clear hn hs
    go_enter Tryd.func15, Tryd.ntmps15
    go_wp2_with fail
    refine (HI.out _).mono ?_
    rintro e w1 ⟨rfl, hb1⟩
    obtain ⟨hA1, hZ1, hl1⟩ := Blk.of2 HN.out hb1 (by have := HN.out; simp; omega)
    have HZ1 := Lib.hid hZ1; have Hl1 := Lib.hid hl1
    obtain ⟨_, _, _, _, _, _⟩ := hZ1.six
    clear hb1 hA1 hZ1 hl1
    go_wp2
    have hZ4 := HZ1.out.put3 (x := .int .i64 0) (y := .int .i64 0) (z := .int .i64 0)
    have hl4 := below_put3 Hl1.out (g := N + 1) (by omega) (.int .i64 0) (.int .i64 0) (.int .i64 0)
    exact bodyPost_ret (results_cell_tmp rfl _ _ (N + 1) 25 #[.int .i64 0, .int .i64 0, .int .i64 0] (0, 0) _ rfl hZ4 Tryd.underlying25 rfl (by kernel_rfl)) rfl ⟨rfl, by rw [HN.out]; exact hl4⟩
set_option maxRecDepth 10000 in
set_option maxHeartbeats 4000000 in
theorem impl_CapBorder (x y z : Int) (w : World) (ha : I64s [x, y, z]) :
    Calls Tryd.prog 14 #[.agg #[.int .i64 x, .int .i64 y, .int .i64 z]] w fun e w' => GivesS w (Surf.cap x y z) (decide (Surf.capOk x y z)) e w' := by
  have hI := fun W => impl_IsSurface x y z W ha
  generalize hN : w.heap.size = N at *
  have HN := Lib.hid hN
  by_cases hs : Surf.Is x y z
  · rw [decide_eq_true hs] at hI
    have HI := Lib.hid hI; clear hI ha
    by_cases hz : z = 0
    · have hn : ¬ Surf.capOk x y z := fun h => h.2 hz
      rw [show Surf.cap x y z = (0, 0, 0) from if_neg hn, decide_eq_false hn]
      have d1 : (z == 0) = true := by simp [hz]
      clear hn hz hs
      go_enter Tryd.func14, Tryd.ntmps14
      go_wp2_with fail
      refine (HI.out _).mono ?_
      rintro e w1 ⟨rfl, hb1⟩
      obtain ⟨hA1, hZ1, hl1⟩ := Blk.of2 HN.out hb1 (by have := HN.out; simp; omega)
      have HA1 := Lib.hid hA1; have HZ1 := Lib.hid hZ1; have Hl1 := Lib.hid hl1
      obtain ⟨_, _, _, _, _, _⟩ := hA1.six
      obtain ⟨_, _, _, _, _, _⟩ := hZ1.six
      clear hb1 hA1 hZ1 hl1
      go_wp2
      have hZ4 := HZ1.out.put3 (x := .int .i64 0) (y := .int .i64 0) (z := .int .i64 0)
      have hl4 := below_put3 Hl1.out (g := N + 1) (by omega) (.int .i64 0) (.int .i64 0) (.int .i64 0)
      exact bodyPost_ret (results_cell_tmp rfl _ _ (N + 1) 25 #[.int .i64 0, .int .i64 0, .int .i64 0] (0, 0) _ rfl hZ4 Tryd.underlying25 rfl (by kernel_rfl)) rfl ⟨rfl, by rw [HN.out]; exact hl4⟩
    · have hn : Surf.capOk x y z := ⟨hs, hz⟩
      rw [show Surf.cap x y z = (x, y, z - 1) from if_pos hn, decide_eq_true hn]
      have d1 : (z == 0) = false := by simp [hz]
      obtain ⟨_, _, ⟨h5, h6⟩, _⟩ := hs
      clear hn hz
      go_enter Tryd.func14, Tryd.ntmps14
      go_wp2_with fail
      refine (HI.out _).mono ?_
      rintro e w1 ⟨rfl, hb1⟩
      obtain ⟨hA1, hZ1, hl1⟩ := Blk.of2 HN.out hb1 (by have := HN.out; simp; omega)
      have HA1 := Lib.hid hA1; have HZ1 := Lib.hid hZ1; have Hl1 := Lib.hid hl1
      obtain ⟨_, _, _, _, _, _⟩ := hA1.six
      obtain ⟨_, _, _, _, _, _⟩ := hZ1.six
      clear hb1 hA1 hZ1 hl1
      go_wp2
      have hZ4 := (HZ1.out.far (p := ⟨N, 2, none⟩) (by simp) (.int .i64 (z - 1))).put3 (x := .int .i64 x) (y := .int .i64 y) (z := .int .i64 (z - 1))
      have hl4 := below_put3 (Hl1.out.setCell (p := ⟨N, 2, none⟩) (Nat.le_refl N) (.int .i64 (z - 1))) (g := N + 1) (by omega) (.int .i64 x) (.int .i64 y) (.int .i64 (z - 1))
      exact bodyPost_ret (results_cell_tmp rfl _ _ (N + 1) 25 #[.int .i64 x, .int .i64 y, .int .i64 (z - 1)] (0, 0) _ rfl hZ4 Tryd.underlying25 rfl (by kernel_rfl)) rfl ⟨rfl, by rw [HN.out]; exact hl4⟩
  · rw [decide_eq_false hs] at hI
    have HI := Lib.hid hI; clear hI ha
    have hn : ¬ Surf.capOk x y z := fun h => hs h.1
    rw [show Surf.cap x y z = (0, 0, 0) from if_neg hn, decide_eq_false hn]
    clear hn hs
    go_enter Tryd.func14, Tryd.ntmps14
    go_wp2_with fail
    refine (HI.out _).mono ?_
    rintro e w1 ⟨rfl, hb1⟩
    obtain ⟨hA1, hZ1, hl1⟩ := Blk.of2 HN.out hb1 (by have := HN.out; simp; omega)
    have HZ1 := Lib.hid hZ1; have Hl1 := Lib.hid hl1
    obtain ⟨_, _, _, _, _, _⟩ := hZ1.six
    clear hb1 hA1 hZ1 hl1
    go_wp2
    have hZ4 := HZ1.out.put3 (x := .int .i64 0) (y := .int .i64 0) (z := .int .i64 0)
    have hl4 := below_put3 Hl1.out (g := N + 1) (by omega) (.int .i64 0) (.int .i64 0) (.int .i64 0)
    exact bodyPost_ret (results_cell_tmp rfl _ _ (N + 1) 25 #[.int .i64 0, .int .i64 0, .int .i64 0] (0, 0) _ rfl hZ4 Tryd.underlying25 rfl (by kernel_rfl)) rfl ⟨rfl, by rw [HN.out]; exact hl4⟩
set_option maxRecDepth 10000 in
set_option maxHeartbeats 4000000 in
theorem spec_WithHandle (x y z : Int) (w : World) (ha : I64s [x, y, z]) :
    Calls Tryd.prog 17 #[.agg #[.int .i64 x, .int .i64 y, .int .i64 z]] w fun e w' => GivesS w (Surf.sum x y z 1 0 0) (decide (Surf.sumOk x y z 1 0 0)) e w' := by
  have hR := fun W => spec_SumSurface x y z 1 0 0 W ha (fun n hn => by
    simp only [List.mem_cons, List.not_mem_nil, or_false] at hn
    rcases hn with rfl | rfl | rfl <;> omega)
  generalize Surf.sum x y z 1 0 0 = s at *
  generalize decide (Surf.sumOk x y z 1 0 0) = b at *
  have HR := Lib.hid hR; clear hR ha
  generalize hN : w.heap.size = N at *
  have HN := Lib.hid hN
  go_enter Tryd.func17, Tryd.ntmps17
  go_wp2_with fail
  refine (HR.out _).mono ?_
  rintro e w1 ⟨rfl, hb1⟩
  obtain ⟨hA1, hZ1, hl1⟩ := Blk.of2 HN.out hb1 (by have := HN.out; simp; omega)
  have HZ1 := Lib.hid hZ1; have Hl1 := Lib.hid hl1; have S1 := Lib.hid hZ1.lt
  obtain ⟨_, _, _, _, _, _⟩ := hZ1.six
  clear hb1 hA1 hZ1 hl1
  generalize hK : w1.heap.size = K at *
  have HK := Lib.hid hK
  have n2 : N + 1 ≠ K := by have := S1.out; omega
  obtain ⟨_, _, _, _, _, _⟩ := (HZ1.out.alloc (.cells #[.int .i64 s.1, .int .i64 s.2.1, .int .i64 s.2.2] 25)).six
  go_wp2
  have hZ4 := (HZ1.out.alloc (.cells #[.int .i64 s.1, .int .i64 s.2.1, .int .i64 s.2.2] 25)).put3 (x := .int .i64 s.1) (y := .int .i64 s.2.1) (z := .int .i64 s.2.2)
  have hl4 := below_put3 (Hl1.out.alloc (by have := S1.out; have := HK.out; omega) (.cells #[.int .i64 s.1, .int .i64 s.2.1, .int .i64 s.2.2] 25)) (g := N + 1) (by omega) (.int .i64 s.1) (.int .i64 s.2.1) (.int .i64 s.2.2)
  exact bodyPost_ret (results_cell_tmp rfl _ _ (N + 1) 25 #[.int .i64 s.1, .int .i64 s.2.1, .int .i64 s.2.2] (0, 0) _ rfl hZ4 Tryd.underlying25 rfl (by kernel_rfl)) rfl ⟨rfl, by rw [HN.out]; exact hl4⟩
set_option maxRecDepth 10000 in
set_option maxHeartbeats 4000000 in
theorem spec_WithCrosscap (x y z : Int) (w : World) (ha : I64s [x, y, z]) :
    Calls Tryd.prog 19 #[.agg #[.int .i64 x, .int .i64 y, .int .i64 z]] w fun e w' => GivesS w (Surf.sum x y z 0 1 0) (decide (Surf.sumOk x y z 0 1 0)) e w' := by
  have hR := fun W => spec_SumSurface x y z 0 1 0 W ha (fun n hn => by
    simp only [List.mem_cons, List.not_mem_nil, or_false] at hn
    rcases hn with rfl | rfl | rfl <;> omega)
  generalize Surf.sum x y z 0 1 0 = s at *
  generalize decide (Surf.sumOk x y z 0 1 0) = b at *
  have HR := Lib.hid hR; clear hR ha
  generalize hN : w.heap.size = N at *
  have HN := Lib.hid hN
  go_enter Tryd.func19, Tryd.ntmps19
  go_wp2_with fail
  refine (HR.out _).mono ?_
  rintro e w1 ⟨rfl, hb1⟩
  obtain ⟨hA1, hZ1, hl1⟩ := Blk.of2 HN.out hb1 (by have := HN.out; simp; omega)
  have HZ1 := Lib.hid hZ1; have Hl1 := Lib.hid hl1; have S1 := Lib.hid hZ1.lt
  obtain ⟨_, _, _, _, _, _⟩ := hZ1.six
  clear hb1 hA1 hZ1 hl1
  generalize hK : w1.heap.size = K at *
  have HK := Lib.hid hK
  have n2 : N + 1 ≠ K := by have := S1.out; omega
  obtain ⟨_, _, _, _, _, _⟩ := (HZ1.out.alloc (.cells #[.int .i64 s.1, .int .i64 s.2.1, .int .i64 s.2.2] 25)).six
  go_wp2
  have hZ4 := (HZ1.out.alloc (.cells #[.int .i64 s.1, .int .i64 s.2.1, .int .i64 s.2.2] 25)).put3 (x := .int .i64 s.1) (y := .int .i64 s.2.1) (z := .int .i64 s.2.2)
  have hl4 := below_put3 (Hl1.out.alloc (by have := S1.out; have := HK.out; omega) (.cells #[.int .i64 s.1, .int .i64 s.2.1, .int .i64 s.2.2] 25)) (g := N + 1) (by omega) (.int .i64 s.1) (.int .i64 s.2.1) (.int .i64 s.2.2)
  exact bodyPost_ret (results_cell_tmp rfl _ _ (N + 1) 25 #[.int .i64 s.1, .int .i64 s.2.1, .int .i64 s.2.2] (0, 0) _ rfl hZ4 Tryd.underlying25 rfl (by kernel_rfl)) rfl ⟨rfl, by rw [HN.out]; exact hl4⟩
set_option maxRecDepth 10000 in
set_option maxHeartbeats 4000000 in
theorem spec_WithBorder (x y z : Int) (w : World) (ha : I64s [x, y, z]) :
    Calls Tryd.prog 21 #[.agg #[.int .i64 x, .int .i64 y, .int .i64 z]] w fun e w' => GivesS w (Surf.sum x y z 0 0 1) (decide (Surf.sumOk x y z 0 0 1)) e w' := by
  have hR := fun W => spec_SumSurface x y z 0 0 1 W ha (fun n hn => by
    simp only [List.mem_cons, List.not_mem_nil, or_false] at hn
    rcases hn with rfl | rfl | rfl <;> omega)
  generalize Surf.sum x y z 0 0 1 = s at *
  generalize decide (Surf.sumOk x y z 0 0 1) = b at *
  have HR := Lib.hid hR; clear hR ha
  generalize hN : w.heap.size = N at *
  have HN := Lib.hid hN
  go_enter Tryd.func21, Tryd.ntmps21
  go_wp2_with fail
  refine (HR.out _).mono ?_
  rintro e w1 ⟨rfl, hb1⟩
  obtain ⟨hA1, hZ1, hl1⟩ := Blk.of2 HN.out hb1 (by have := HN.out; simp; omega)
  have HZ1 := Lib.hid hZ1; have Hl1 := Lib.hid hl1; have S1 := Lib.hid hZ1.lt
  obtain ⟨_, _, _, _, _, _⟩ := hZ1.six
  clear hb1 hA1 hZ1 hl1
  generalize hK : w1.heap.size = K at *
  have HK := Lib.hid hK
  have n2 : N + 1 ≠ K := by have := S1.out; omega
  obtain ⟨_, _, _, _, _, _⟩ := (HZ1.out.alloc (.cells #[.int .i64 s.1, .int .i64 s.2.1, .int .i64 s.2.2] 25)).six
  go_wp2
  have hZ4 := (HZ1.out.alloc (.cells #[.int .i64 s.1, .int .i64 s.2.1, .int .i64 s.2.2] 25)).put3 (x := .int .i64 s.1) (y := .int .i64 s.2.1) (z := .int .i64 s.2.2)
  have hl4 := below_put3 (Hl1.out.alloc (by have := S1.out; have := HK.out; omega) (.cells #[.int .i64 s.1, .int .i64 s.2.1, .int .i64 s.2.2] 25)) (g := N + 1) (by omega) (.int .i64 s.1) (.int .i64 s.2.1) (.int .i64 s.2.2)
  exact bodyPost_ret (results_cell_tmp rfl _ _ (N + 1) 25 #[.int .i64 s.1, .int .i64 s.2.1, .int .i64 s.2.2] (0, 0) _ rfl hZ4 Tryd.underlying25 rfl (by kernel_rfl)) rfl ⟨rfl, by rw [HN.out]; exact hl4⟩
set_option maxRecDepth 10000 in
set_option maxHeartbeats 4000000 in
theorem impl_WithHandle (x y z : Int) (w : World) (ha : I64s [x, y, z]) :
    Calls Tryd.prog 16 #[.agg #[.int .i64 x, .int .i64 y, .int .i64 z]] w fun e w' => GivesS w (Surf.sum x y z 1 0 0) (decide (Surf.sumOk x y z 1 0 0)) e w' := by
  have hR := fun W => impl_SumSurface x y z 1 0 0 W ha (fun n hn => by
    simp only [List.mem_cons, List.not_mem_nil, or_false] at hn
    rcases hn with rfl | rfl | rfl <;> omega)
  generalize Surf.sum x y z 1 0 0 = s at *
  generalize decide (Surf.sumOk x y z 1 0 0) = b at *
  have HR := Lib.hid hR; clear hR ha
  generalize hN : w.heap.size = N at *
  have HN := Lib.hid hN
  go_enter Tryd.func16, Tryd.ntmps16
  go_wp2_with fail
  refine (HR.out _).mono ?_
  rintro e w1 ⟨rfl, hb1⟩
  obtain ⟨hA1, hZ1, hl1⟩ := Blk.of2 HN.out hb1 (by have := HN.out; simp; omega)
  have HZ1 := Lib.hid hZ1; have Hl1 := Lib.hid hl1; have S1 := Lib.hid hZ1.lt
  obtain ⟨_, _, _, _, _, _⟩ := hZ1.six
  clear hb1 hA1 hZ1 hl1
  go_wp2
  have hZ4 := HZ1.out.put3 (x := .int .i64 s.1) (y := .int .i64 s.2.1) (z := .int .i64 s.2.2)
  have hl4 := below_put3 Hl1.out (g := N + 1) (by omega) (.int .i64 s.1) (.int .i64 s.2.1) (.int .i64 s.2.2)
  exact bodyPost_ret (results_cell_tmp rfl _ _ (N + 1) 25 #[.int .i64 s.1, .int .i64 s.2.1, .int .i64 s.2.2] (0, 0) _ rfl hZ4 Tryd.underlying25 rfl (by kernel_rfl)) rfl ⟨rfl, by rw [HN.out]; exact hl4⟩
set_option maxRecDepth 10000 in
set_option maxHeartbeats 4000000 in
theorem impl_WithCrosscap (x y z : Int) (w : World) (ha : I64s [x, y, z]) :
    Calls Tryd.prog 18 #[.agg #[.int .i64 x, .int .i64 y, .int .i64 z]] w fun e w' => GivesS w (Surf.sum x y z 0 1 0) (decide (Surf.sumOk x y z 0 1 0)) e w' := by
  have hR := fun W => impl_SumSurface x y z 0 1 0 W ha (fun n hn => by
    simp only [List.mem_cons, List.not_mem_nil, or_false] at hn
    rcases hn with rfl | rfl | rfl <;> omega)
  generalize Surf.sum x y z 0 1 0 = s at *
  generalize decide (Surf.sumOk x y z 0 1 0) = b at *
  have HR := Lib.hid hR; clear hR ha
  generalize hN : w.heap.size = N at *
  have HN := Lib.hid hN
  go_enter Tryd.func18, Tryd.ntmps18
  go_wp2_with fail
  refine (HR.out _).mono ?_
  rintro e w1 ⟨rfl, hb1⟩
  obtain ⟨hA1, hZ1, hl1⟩ := Blk.of2 HN.out hb1 (by have := HN.out; simp; omega)
  have HZ1 := Lib.hid hZ1; have Hl1 := Lib.hid hl1; have S1 := Lib.hid hZ1.lt
  obtain ⟨_, _, _, _, _, _⟩ := hZ1.six
  clear hb1 hA1 hZ1 hl1
  go_wp2
  have hZ4 := HZ1.out.put3 (x := .int .i64 s.1) (y := .int .i64 s.2.1) (z := .int .i64 s.2.2)
  have hl4 := below_put3 Hl1.out (g := N + 1) (by omega) (.int .i64 s.1) (.int .i64 s.2.1) (.int .i64 s.2.2)
  exact bodyPost_ret (results_cell_tmp rfl _ _ (N + 1) 25 #[.int .i64 s.1, .int .i64 s.2.1, .int .i64 s.2.2] (0, 0) _ rfl hZ4 Tryd.underlying25 rfl (by kernel_rfl)) rfl ⟨rfl, by rw [HN.out]; exact hl4⟩
set_option maxRecDepth 10000 in
set_option maxHeartbeats 4000000 in
theorem impl_WithBorder (x y z : Int) (w : World) (ha : I64s [x, y, z]) :
    Calls Tryd.prog 20 #[.agg #[.int .i64 x, .int .i64 y, .int .i64 z]] w fun e w' => GivesS w (Surf.sum x y z 0 0 1) (decide (Surf.sumOk x y z 0 0 1)) e w' := by
  have hR := fun W => impl_SumSurface x y z 0 0 1 W ha (fun n hn => by
    simp only [List.mem_cons, List.not_mem_nil, or_false] at hn
    rcases hn with rfl | rfl | rfl <;> omega)
  generalize Surf.sum x y z 0 0 1 = s at *
  generalize decide (Surf.sumOk x y z 0 0 1) = b at *
  have HR := Lib.hid hR; clear hR ha
  generalize hN : w.heap.size = N at *
  have HN := Lib.hid hN
  go_enter Tryd.func20, Tryd.ntmps20
  go_wp2_with fail
  refine (HR.out _).mono ?_
  rintro e w1 ⟨rfl, hb1⟩
  obtain ⟨hA1, hZ1, hl1⟩ := Blk.of2 HN.out hb1 (by have := HN.out; simp; omega)
  have HZ1 := Lib.hid hZ1; have Hl1 := Lib.hid hl1; have S1 := Lib.hid hZ1.lt
  obtain ⟨_, _, _, _, _, _⟩ := hZ1.six
  clear hb1 hA1 hZ1 hl1
  go_wp2
  have hZ4 := HZ1.out.put3 (x := .int .i64 s.1) (y := .int .i64 s.2.1) (z := .int .i64 s.2.2)
  have hl4 := below_put3 Hl1.out (g := N + 1) (by omega) (.int .i64 s.1) (.int .i64 s.2.1) (.int .i64 s.2.2)
  exact bodyPost_ret (results_cell_tmp rfl _ _ (N + 1) 25 #[.int .i64 s.1, .int .i64 s.2.1, .int .i64 s.2.2] (0, 0) _ rfl hZ4 Tryd.underlying25 rfl (by kernel_rfl)) rfl ⟨rfl, by rw [HN.out]; exact hl4⟩
end Go.Proofs.YtodgongemoabiaaDoor
