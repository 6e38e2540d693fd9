/-
  The surface of a gluing: what the document says, and the walks of the program's and the model's SurfaceOf.
-/
import Derived.Test.YtodgongemoabiaaDoorBase
import Derived.Test.YtodgongemoabiaaDoorSlice
import Derived.Test.YtodgongemoabiaaDoorIntRow
import Derived.Test.YtodgongemoabiaaDoorInts
import Derived.Test.YtodgongemoabiaaDoorOwn
import Derived.Test.YtodgongemoabiaaDoorWord
import Derived.Test.YtodgongemoabiaaDoorGrid
import Derived.Test.YtodgongemoabiaaDoorGlue
import Derived.Test.YtodgongemoabiaaDoorIsGluing
import Derived.Test.YtodgongemoabiaaDoorClass
import Derived.Test.YtodgongemoabiaaDoorTri
import Derived.Test.YtodgongemoabiaaDoorEnds
import Derived.Test.YtodgongemoabiaaDoorVert
import Derived.Test.YtodgongemoabiaaDoorParts
import Derived.Test.YtodgongemoabiaaDoorBorders
import Derived.Test.YtodgongemoabiaaDoorTwo
import Derived.Test.YtodgongemoabiaaDoorTwoWalk
import Derived.Test.YtodgongemoabiaaDoorSurf
import Derived.Test.YtodgongemoabiaaDoorSurfI
import Derived.Test.YtodgongemoabiaaDoorSurfSum
import Derived.Deep.RegionHeld3
import Derived.Laws.Rows
namespace Go.Proofs.YtodgongemoabiaaDoor
open Go.RowKit

namespace Surf
def rest (L : List (List Int)) : Int := 2 - Glue.numBorders L - Glue.numEuler L
def ofS (L : List (List Int)) : Int × Int × Int :=
  if Glue.numParts L = 1 then (if Glue.twoB L then (Int.tdiv (rest L) 2, 0, Glue.numBorders L) else (0, rest L, Glue.numBorders L)) else (0, 0, 0)
theorem of_g {L : List (List Int)} (h : Glue.numParts L = 1) : Glue.IsG L := by
  unfold Glue.numParts at h
  by_cases hg : Glue.IsG L
  · exact hg
  · rw [if_neg hg] at h; omega
theorem borders_bd {L : List (List Int)} (h : Glue.IsG L) : 0 ≤ Glue.numBorders L ∧ Glue.numBorders L ≤ 9 := by
  unfold Glue.numBorders
  rw [if_pos h]
  have h1 := Cls.tally_le (Glue.circ L) (List.range (Glue.lettersN L 1 1).length)
  have h2 := Glue.lettersN_len L 1 1
  rw [List.length_range] at h1
  unfold Glue.borders
  omega
theorem euler_bd {L : List (List Int)} (h : Glue.IsG L) : -9 ≤ Glue.numEuler L ∧ Glue.numEuler L ≤ 30 := by
  unfold Glue.numEuler
  rw [if_pos h]
  have h1 := Glue.vertices_le L
  have h2 := Glue.lettersN_len L 1 2
  have h3 := h.2.1
  omega
theorem euler_b {b : Int} (h0 : 0 ≤ b) (h1 : b ≤ 20) : euler 0 0 b = 2 - b := by
  unfold euler
  rw [if_pos ⟨⟨by omega, by omega⟩, ⟨by omega, by omega⟩, ⟨h0, h1⟩, Or.inl rfl⟩]
  omega
end Surf

theorem held_keep2 {w0 W w1 : World} {b o : Nat} {v : Value} (h : W.cell? ⟨b, o, none⟩ = some v ∧ Below w0.heap.size w0 W) (hp : b < w0.heap.size) (hb : Below W.heap.size W w1) :
    w1.cell? ⟨b, o, none⟩ = some v ∧ Below w0.heap.size w0 w1 :=
  ⟨by rw [hb.cell (p := ⟨b, o, none⟩) (Nat.lt_of_lt_of_le hp h.2.size)]; exact h.1, h.2.trans (hb.mono h.2.size)⟩

set_option maxRecDepth 10000 in
set_option maxHeartbeats 4000000 in
theorem impl_SurfaceOf (a : Option Addr) (c : Nat) (L : List (List Int)) (w : World) (ha : GridAt w a L) (hl : tot L ≤ 1048576) :
    Calls Tryd.prog 12 #[.slice a L.length c] w fun e w' => GivesS w (Surf.ofS L) (decide (Glue.numParts L = 1)) e w' := by
  have hP := fun W (hb : Below w.heap.size w W) => impl_PartsOf a c L W (ha.below hb) hl
  have hC := fun W (hb : Below w.heap.size w W) => impl_CountBorders a c L W (ha.below hb) hl
  have hE := fun W (hb : Below w.heap.size w W) => impl_EulerOf a c L W (ha.below hb) hl
  have hT := fun W (hb : Below w.heap.size w W) => impl_IsTwoSided a c L W (ha.below hb) hl
  generalize hN : w.heap.size = N at *
  have HN := Lib.hid hN
  by_cases hp : Glue.numParts L = 1
  · rw [decide_eq_true hp]
    have hg := Surf.of_g hp
    obtain ⟨b0, b1⟩ := Surf.borders_bd hg
    obtain ⟨e0, e1⟩ := Surf.euler_bd hg
    have hv : Surf.ofS L = if Glue.twoB L then (Int.tdiv (2 - Glue.numBorders L - Glue.numEuler L) 2, 0, Glue.numBorders L) else (0, 2 - Glue.numBorders L - Glue.numEuler L, Glue.numBorders L) := if_pos hp
    rw [hv]; rw [hp] at hP
    clear hv hp hg
    generalize Glue.numBorders L = b at *
    generalize Glue.numEuler L = ev at *
    generalize Glue.twoB L = tv at *
    have hU := fun W => impl_EulerNumber 0 0 b W (fun n hn => by
      simp only [List.mem_cons, List.not_mem_nil, or_false] at hn
      rcases hn with rfl | rfl | rfl <;> omega)
    rw [Surf.euler_b b0 (by omega)] at hU
    have HU := Lib.hid hU; clear hU
    have HP := Lib.hid hP; have HC := Lib.hid hC; have HE := Lib.hid hE; have HT := Lib.hid hT
    clear hP hC hE hT ha hl
    go_enter Tryd.func12, Tryd.ntmps12
    have hz0 := Blk.new' hN 25 #[.int .i64 0, .int .i64 0, .int .i64 0]
    have hl0 : Below N w (w.alloc (.cells #[.int .i64 0, .int .i64 0, .int .i64 0] 25)) := by
      have h := (Below.refl w.heap.size w).alloc (Nat.le_refl _) (.cells #[.int .i64 0, .int .i64 0, .int .i64 0] 25)
      rwa [hN] at h
    have HZ0 := Lib.hid hz0; have Hl0 := Lib.hid hl0; clear hz0 hl0
    go_wp2_with fail
    refine (HP.out _ Hl0.out).mono ?_
    rintro e w1 ⟨rfl, hb1⟩
    have HZ1 := Lib.hid (HZ0.out.below hb1 HZ0.out.lt)
    have Hl1 := Lib.hid (Hl0.out.trans (hb1.mono (Nat.le_of_lt HZ0.out.lt)))
    clear hb1
    go_wp2_with fail
    refine (HC.out _ Hl1.out).mono ?_
    rintro e w2 ⟨rfl, hb2⟩
    have HZ2 := Lib.hid (HZ1.out.below hb2 HZ1.out.lt)
    have Hl2 := Lib.hid (Hl1.out.trans (hb2.mono (Nat.le_of_lt HZ1.out.lt)))
    clear hb2 HZ0 Hl0 HZ1 Hl1
    generalize hM : w2.heap.size = M at *
    have HM := Lib.hid hM
    have hz := HZ2.out.alloc (.cells #[.int .i64 0, .int .i64 0, .int .i64 b] 25)
    have hm := Blk.new' hM 25 #[.int .i64 0, .int .i64 0, .int .i64 b]
    have hl := Hl2.out.alloc (by have := HZ2.out.lt; omega) (.cells #[.int .i64 0, .int .i64 0, .int .i64 b] 25)
    have hs : M = (w2.alloc (.cells #[.int .i64 0, .int .i64 0, .int .i64 b] 25)).heap.size - 1 := by rw [← HM.out]; simp
    have hNM := Lib.hid (show N < M by have := HZ2.out.lt; have := HM.out; omega)
    have HZ3 := Lib.hid hz; have HM3 := Lib.hid hm; have Hl3 := Lib.hid hl
    clear hz hm hl hs HZ2 Hl2
    go_wp2_with fail
    refine (HU.out _).mono ?_
    rintro e w3 ⟨rfl, hb3⟩
    have HZ4 := Lib.hid (HZ3.out.below hb3 HZ3.out.lt); have HM4 := Lib.hid (HM3.out.below hb3 HM3.out.lt); have Hl4 := Lib.hid (Hl3.out.trans (hb3.mono (Nat.le_of_lt HZ3.out.lt)))
    clear hb3 HZ3 HM3 Hl3
    go_wp2_with fail
    refine (HE.out _ Hl4.out).mono ?_
    rintro e w4 ⟨rfl, hb4⟩
    have HZ5 := Lib.hid (HZ4.out.below hb4 HZ4.out.lt); have HM5 := Lib.hid (HM4.out.below hb4 HM4.out.lt); have Hl5 := Lib.hid (Hl4.out.trans (hb4.mono (Nat.le_of_lt HZ4.out.lt)))
    clear hb4 HZ4 HM4 Hl4
    go_wp2_with fail
    refine (HT.out _ Hl5.out).mono ?_
    rintro e w5 ⟨rfl, hb5⟩
    have HZ6 := Lib.hid (HZ5.out.below hb5 HZ5.out.lt); have HM6 := Lib.hid (HM5.out.below hb5 HM5.out.lt); have Hl6 := Lib.hid (Hl5.out.trans (hb5.mono (Nat.le_of_lt HZ5.out.lt)))
    obtain ⟨_, _, _, _, _, _⟩ := HZ6.out.six
    obtain ⟨_, _, _, _, _, _⟩ := HM6.out.six
    have nNM : N ≠ M := by have := hNM.out; omega
    clear hb5 HZ5 HM5 Hl5
    cases tv with
    | false =>
      go_wp2
      have hZ7 := (HZ6.out.far (p := ⟨M, 1, none⟩) (by have := hNM.out; simp; omega) (.int .i64 (2 - b - ev))).put3 (x := .int .i64 0) (y := .int .i64 (2 - b - ev)) (z := .int .i64 b)
      have hl7 := below_put3 (Hl6.out.setCell (p := ⟨M, 1, none⟩) (Nat.le_of_lt hNM.out) (.int .i64 (2 - b - ev))) (g := N) (Nat.le_refl N) (.int .i64 0) (.int .i64 (2 - b - ev)) (.int .i64 b)
      exact bodyPost_ret (results_cell_tmp rfl _ _ N 25 #[.int .i64 0, .int .i64 (2 - b - ev), .int .i64 b] (0, 0) _ rfl hZ7 Tryd.underlying25 rfl (by kernel_rfl)) rfl ⟨rfl, by rw [HN.out]; exact hl7⟩
    | true =>
      go_wp2
      have hZ7 := (HZ6.out.far (p := ⟨M, 0, none⟩) (by have := hNM.out; simp; omega) (.int .i64 (Int.tdiv (2 - b - ev) 2))).put3 (x := .int .i64 (Int.tdiv (2 - b - ev) 2)) (y := .int .i64 0) (z := .int .i64 b)
      have hl7 := below_put3 (Hl6.out.setCell (p := ⟨M, 0, none⟩) (Nat.le_of_lt hNM.out) (.int .i64 (Int.tdiv (2 - b - ev) 2))) (g := N) (Nat.le_refl N) (.int .i64 (Int.tdiv (2 - b - ev) 2)) (.int .i64 0) (.int .i64 b)
      exact bodyPost_ret (results_cell_tmp rfl _ _ N 25 #[.int .i64 (Int.tdiv (2 - b - ev) 2), .int .i64 0, .int .i64 b] (0, 0) _ rfl hZ7 Tryd.underlying25 rfl (by kernel_rfl)) rfl ⟨rfl, by rw [HN.out]; exact hl7⟩
  · rw [decide_eq_false hp, show Surf.ofS L = (0, 0, 0) from if_neg hp]
    have d1 : (Glue.numParts L == 1) = false := by simp [hp]
    generalize Glue.numParts L = pv at *
    have HP := Lib.hid hP
    clear hP hC hE hT ha hl hp
    go_enter Tryd.func12, Tryd.ntmps12
    have hz0 := Blk.new' hN 25 #[.int .i64 0, .int .i64 0, .int .i64 0]
    have hl0 : Below N w (w.alloc (.cells #[.int .i64 0, .int .i64 0, .int .i64 0] 25)) := by
      have h := (Below.refl w.heap.size w).alloc (Nat.le_refl _) (.cells #[.int .i64 0, .int .i64 0, .int .i64 0] 25)
      rwa [hN] at h
    have HZ0 := Lib.hid hz0; have Hl0 := Lib.hid hl0; clear hz0 hl0
    go_wp2_with fail
    refine (HP.out _ Hl0.out).mono ?_
    rintro e w1 ⟨rfl, hb1⟩
    have HZ1 := Lib.hid (HZ0.out.below hb1 HZ0.out.lt)
    have Hl1 := Lib.hid (Hl0.out.trans (hb1.mono (Nat.le_of_lt HZ0.out.lt)))
    obtain ⟨_, _, _, _, _, _⟩ := HZ1.out.six
    clear hb1
    go_wp2
    have hZ4 := HZ1.out.put3 (x := .int .i64 0) (y := .int .i64 0) (z := .int .i64 0)
    have hl4 := below_put3 Hl1.out (g := N) (Nat.le_refl N) (.int .i64 0) (.int .i64 0) (.int .i64 0)
    exact bodyPost_ret (results_cell_tmp rfl _ _ N 25 #[.int .i64 0, .int .i64 0, .int .i64 0] (0, 0) _ rfl hZ4 Tryd.underlying25 rfl (by kernel_rfl)) rfl ⟨rfl, by rw [HN.out]; exact hl4⟩
set_option maxRecDepth 10000 in
set_option maxHeartbeats 4000000 in
theorem spec_SurfaceOf (a : Option Addr) (c : Nat) (L : List (List Int)) (w : World) (ha : GridAt w a L) (hl : tot L ≤ 1048576) :
    Calls Tryd.prog 13 #[.slice a L.length c] w fun e w' => GivesS w (Surf.ofS L) (decide (Glue.numParts L = 1)) e w' := by
  have hP := fun W (hb : Below w.heap.size w W) => spec_PartsOf a c L W (ha.below hb) hl
  have hC := fun W (hb : Below w.heap.size w W) => spec_CountBorders a c L W (ha.below hb) hl
  have hE := fun W (hb : Below w.heap.size w W) => spec_EulerOf a c L W (ha.below hb) hl
  have hT := fun W (hb : Below w.heap.size w W) => spec_IsTwoSided a c L W (ha.below hb) hl
  generalize hN : w.heap.size = N at *
  have HN := Lib.hid hN
  by_cases hp : Glue.numParts L = 1
  · rw [decide_eq_true hp]
    have hg := Surf.of_g hp
    obtain ⟨b0, b1⟩ := Surf.borders_bd hg
    obtain ⟨e0, e1⟩ := Surf.euler_bd hg
    have hv : Surf.ofS L = if Glue.twoB L then (Int.tdiv (2 - Glue.numBorders L - Glue.numEuler L) 2, 0, Glue.numBorders L) else (0, 2 - Glue.numBorders L - Glue.numEuler L, Glue.numBorders L) := if_pos hp
    rw [hv]; rw [hp] at hP
    clear hv hp hg
    generalize Glue.numBorders L = b at *
    generalize Glue.numEuler L = ev at *
    generalize Glue.twoB L = tv at *
    have HP := Lib.hid hP; have HC := Lib.hid hC; have HE := Lib.hid hE; have HT := Lib.hid hT
    clear hP hC hE hT ha hl
    go_enter Tryd.func13, Tryd.ntmps13
    have hz0 := Blk.new' hN 25 #[.int .i64 0, .int .i64 0, .int .i64 0]
    have hl0 : Below N w (w.alloc (.cells #[.int .i64 0, .int .i64 0, .int .i64 0] 25)) := by
      have h := (Below.refl w.heap.size w).alloc (Nat.le_refl _) (.cells #[.int .i64 0, .int .i64 0, .int .i64 0] 25)
      rwa [hN] at h
    have HZ0 := Lib.hid hz0; have Hl0 := Lib.hid hl0; clear hz0 hl0
    go_wp2_with fail
    refine (HP.out _ Hl0.out).mono ?_
    rintro e w1 ⟨rfl, hb1⟩
    have HZ1 := Lib.hid (HZ0.out.below hb1 HZ0.out.lt)
    have Hl1 := Lib.hid (Hl0.out.trans (hb1.mono (Nat.le_of_lt HZ0.out.lt)))
    clear hb1
    go_wp2_with fail
    refine (HC.out _ Hl1.out).mono ?_
    rintro e w2 ⟨rfl, hb2⟩
    have HZ2 := Lib.hid (HZ1.out.below hb2 HZ1.out.lt)
    have Hl2 := Lib.hid (Hl1.out.trans (hb2.mono (Nat.le_of_lt HZ1.out.lt)))
    clear hb2 HZ0 Hl0 HZ1 Hl1
    generalize hM : w2.heap.size = M at *
    have HM := Lib.hid hM
    have hz := HZ2.out.alloc (.cells #[.int .i64 0, .int .i64 0, .int .i64 b] 25)
    have hm := Blk.new' hM 25 #[.int .i64 0, .int .i64 0, .int .i64 b]
    have hl := Hl2.out.alloc (by have := HZ2.out.lt; omega) (.cells #[.int .i64 0, .int .i64 0, .int .i64 b] 25)
    have hs : M = (w2.alloc (.cells #[.int .i64 0, .int .i64 0, .int .i64 b] 25)).heap.size - 1 := by rw [← HM.out]; simp
    have hNM := Lib.hid (show N < M by have := HZ2.out.lt; have := HM.out; omega)
    have HZ3 := Lib.hid hz; have HM3 := Lib.hid hm; have Hl3 := Lib.hid hl
    clear hz hm hl hs HZ2 Hl2
    go_upto_region 4 with fail
    have hS0 : (w2.alloc (.cells #[.int .i64 0, .int .i64 0, .int .i64 b] 25)).cell? ⟨M, 2, none⟩ = some (.int .i64 b) ∧ Below (w2.alloc (.cells #[.int .i64 0, .int .i64 0, .int .i64 b] 25)).heap.size (w2.alloc (.cells #[.int .i64 0, .int .i64 0, .int .i64 b] 25)) (w2.alloc (.cells #[.int .i64 0, .int .i64 0, .int .i64 b] 25)) := ⟨HM3.out.cell 2, Below.refl _ _⟩
    have HE' := Lib.hid (fun V (hV : V.cell? ⟨M, 2, none⟩ = some (.int .i64 b) ∧ Below (w2.alloc (.cells #[.int .i64 0, .int .i64 0, .int .i64 b] 25)).heap.size (w2.alloc (.cells #[.int .i64 0, .int .i64 0, .int .i64 b] 25)) V) => HE.out V (Hl3.out.trans (hV.2.mono (Nat.le_of_lt HZ3.out.lt))))
    go_region_held3 (fun w' => w'.cell? ⟨M, 2, none⟩ = some (.int .i64 b) ∧ Below (w2.alloc (.cells #[.int .i64 0, .int .i64 0, .int .i64 b] 25)).heap.size (w2.alloc (.cells #[.int .i64 0, .int .i64 0, .int .i64 b] 25)) w') (first | exact ⟨HM3.out.drew.cell 2, Below.drew (Below.refl _ _)⟩ | exact ⟨(HM3.out.drewN _).cell 2, below_drewN (Below.refl _ _) _⟩ | assumption)
      (first | (go_at_call 30; refine (HE'.out _ (by assumption)).mono ?_; rintro e w3 ⟨rfl, hb3⟩; have hS := held_keep2 (by assumption) HM3.out.lt hb3))
    obtain ⟨_, hbx⟩ := ‹_ ∧ Below (w2.alloc (.cells #[.int .i64 0, .int .i64 0, .int .i64 b] 25)).heap.size (w2.alloc (.cells #[.int .i64 0, .int .i64 0, .int .i64 b] 25)) _›
    have HZ5 := Lib.hid (HZ3.out.below hbx HZ3.out.lt); have HM5 := Lib.hid (HM3.out.below hbx HM3.out.lt); have Hl5 := Lib.hid (Hl3.out.trans (hbx.mono (Nat.le_of_lt HZ3.out.lt)))
    clear hbx HZ3 HM3 Hl3 HE'
    go_wp2_with fail
    refine (HT.out _ Hl5.out).mono ?_
    rintro e w5 ⟨rfl, hb5⟩
    have HZ6 := Lib.hid (HZ5.out.below hb5 HZ5.out.lt); have HM6 := Lib.hid (HM5.out.below hb5 HM5.out.lt); have Hl6 := Lib.hid (Hl5.out.trans (hb5.mono (Nat.le_of_lt HZ5.out.lt)))
    obtain ⟨_, _, _, _, _, _⟩ := HZ6.out.six
    obtain ⟨_, _, _, _, _, _⟩ := HM6.out.six
    have nNM : N ≠ M := by have := hNM.out; omega
    clear hb5 HZ5 HM5 Hl5
    cases tv with
    | false =>
      go_wp2
      have hZ7 := (HZ6.out.far (p := ⟨M, 1, none⟩) (by have := hNM.out; simp; omega) (.int .i64 (2 - b - ev))).put3 (x := .int .i64 0) (y := .int .i64 (2 - b - ev)) (z := .int .i64 b)
      have hl7 := below_put3 (Hl6.out.setCell (p := ⟨M, 1, none⟩) (Nat.le_of_lt hNM.out) (.int .i64 (2 - b - ev))) (g := N) (Nat.le_refl N) (.int .i64 0) (.int .i64 (2 - b - ev)) (.int .i64 b)
      exact bodyPost_ret (results_cell_tmp rfl _ _ N 25 #[.int .i64 0, .int .i64 (2 - b - ev), .int .i64 b] (0, 0) _ rfl hZ7 Tryd.underlying25 rfl (by kernel_rfl)) rfl ⟨rfl, by rw [HN.out]; exact hl7⟩
    | true =>
      go_wp2
      have hZ7 := (HZ6.out.far (p := ⟨M, 0, none⟩) (by have := hNM.out; simp; omega) (.int .i64 (Int.tdiv (2 - b - ev) 2))).put3 (x := .int .i64 (Int.tdiv (2 - b - ev) 2)) (y := .int .i64 0) (z := .int .i64 b)
      have hl7 := below_put3 (Hl6.out.setCell (p := ⟨M, 0, none⟩) (Nat.le_of_lt hNM.out) (.int .i64 (Int.tdiv (2 - b - ev) 2))) (g := N) (Nat.le_refl N) (.int .i64 (Int.tdiv (2 - b - ev) 2)) (.int .i64 0) (.int .i64 b)
      exact bodyPost_ret (results_cell_tmp rfl _ _ N 25 #[.int .i64 (Int.tdiv (2 - b - ev) 2), .int .i64 0, .int .i64 b] (0, 0) _ rfl hZ7 Tryd.underlying25 rfl (by kernel_rfl)) rfl ⟨rfl, by rw [HN.out]; exact hl7⟩
  · rw [decide_eq_false hp, show Surf.ofS L = (0, 0, 0) from if_neg hp]
    have d1 : (Glue.numParts L == 1) = false := by simp [hp]
    generalize Glue.numParts L = pv at *
    have HP := Lib.hid hP
    clear hP hC hE hT ha hl hp
    go_enter Tryd.func13, Tryd.ntmps13
    have hz0 := Blk.new' hN 25 #[.int .i64 0, .int .i64 0, .int .i64 0]
    have hl0 : Below N w (w.alloc (.cells #[.int .i64 0, .int .i64 0, .int .i64 0] 25)) := by
      have h := (Below.refl w.heap.size w).alloc (Nat.le_refl _) (.cells #[.int .i64 0, .int .i64 0, .int .i64 0] 25)
      rwa [hN] at h
    have HZ0 := Lib.hid hz0; have Hl0 := Lib.hid hl0; clear hz0 hl0
    go_wp2_with fail
    refine (HP.out _ Hl0.out).mono ?_
    rintro e w1 ⟨rfl, hb1⟩
    have HZ1 := Lib.hid (HZ0.out.below hb1 HZ0.out.lt)
    have Hl1 := Lib.hid (Hl0.out.trans (hb1.mono (Nat.le_of_lt HZ0.out.lt)))
    obtain ⟨_, _, _, _, _, _⟩ := HZ1.out.six
    clear hb1
    go_wp2
    have hZ4 := HZ1.out.put3 (x := .int .i64 0) (y := .int .i64 0) (z := .int .i64 0)
    have hl4 := below_put3 Hl1.out (g := N) (Nat.le_refl N) (.int .i64 0) (.int .i64 0) (.int .i64 0)
    exact bodyPost_ret (results_cell_tmp rfl _ _ N 25 #[.int .i64 0, .int .i64 0, .int .i64 0] (0, 0) _ rfl hZ4 Tryd.underlying25 rfl (by kernel_rfl)) rfl ⟨rfl, by rw [HN.out]; exact hl4⟩
end Go.Proofs.YtodgongemoabiaaDoor
