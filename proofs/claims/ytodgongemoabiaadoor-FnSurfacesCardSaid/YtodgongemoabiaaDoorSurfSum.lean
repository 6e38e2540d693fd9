/-
  Sums of surfaces: what the document says, and the walks of the program's and the model's SumSurface.
-/
import Derived.Test.YtodgongemoabiaaDoorBase
import Derived.Test.YtodgongemoabiaaDoorSlice
import Derived.Test.YtodgongemoabiaaDoorIntRow
import Derived.Test.YtodgongemoabiaaDoorSurf
import Derived.Test.YtodgongemoabiaaDoorSurfI
import Derived.Laws.Rows
namespace Go.Proofs.YtodgongemoabiaaDoor
open Go.RowKit

/-- Three blocks that a call's frame has laid, behind the first callee. -/
theorem Blk.of3 {w w1 : World} {N M : Nat} {t : TypeId} {A B C : Array Value} (hN : w.heap.size = N) (hb : Below M (((w.alloc (.cells A t)).alloc (.cells B t)).alloc (.cells C t)) w1) (hM : M = N + 3) :
    Blk w1 N t A ∧ Blk w1 (N + 1) t B ∧ Blk w1 (N + 1 + 1) t C ∧ Below N w w1 := by
  subst hM
  have s1 := size1 hN (.cells A t)
  have s2 := size1 s1 (.cells B t)
  have h0 : Below N w (((w.alloc (.cells A t)).alloc (.cells B t)).alloc (.cells C t)) := by
    have h := (((Below.refl w.heap.size w).alloc (Nat.le_refl _) (.cells A t)).alloc (by simp) (.cells B t)).alloc (by simp; omega) (.cells C t)
    rwa [hN] at h
  exact ⟨(((Blk.new' hN t A).alloc _).alloc _).below hb (by omega), ((Blk.new' s1 t B).alloc _).below hb (by omega), (Blk.new' s2 t C).below hb (by omega), h0.trans (hb.mono (by omega))⟩
/-- One block. -/
theorem Blk.of1 {w w1 : World} {N M : Nat} {t : TypeId} {A : Array Value} (hN : w.heap.size = N) (hb : Below M (w.alloc (.cells A t)) w1) (hM : M = N + 1) : Blk w1 N t A ∧ Below N w w1 := by
  subst hM
  have h0 : Below N w (w.alloc (.cells A t)) := by
    have h := (Below.refl w.heap.size w).alloc (Nat.le_refl _) (.cells A t)
    rwa [hN] at h
  exact ⟨(Blk.new' hN t A).below hb (by omega), h0.trans (hb.mono (by omega))⟩
/-- Two blocks. -/
theorem Blk.of2 {w w1 : World} {N M : Nat} {t : TypeId} {A B : Array Value} (hN : w.heap.size = N) (hb : Below M ((w.alloc (.cells A t)).alloc (.cells B t)) w1) (hM : M = N + 2) :
    Blk w1 N t A ∧ Blk w1 (N + 1) t B ∧ Below N w w1 := by
  subst hM
  have s1 := size1 hN (.cells A t)
  have h0 : Below N w ((w.alloc (.cells A t)).alloc (.cells B t)) := by
    have h := ((Below.refl w.heap.size w).alloc (Nat.le_refl _) (.cells A t)).alloc (by simp) (.cells B t)
    rwa [hN] at h
  exact ⟨((Blk.new' hN t A).alloc _).below hb (by omega), (Blk.new' s1 t B).below hb (by omega), h0.trans (hb.mono (by omega))⟩

theorem below_lay {N : Nat} {w w2 w3 : World} {o : Obj} (hl : Below N w w2) (hN : N ≤ w2.heap.size) (hb : Below (w2.alloc o).heap.size (w2.alloc o) w3) : Below N w w3 :=
  hl.trans ((((Below.refl w2.heap.size w2).alloc (Nat.le_refl _) o).trans (hb.mono (by simp))).mono hN)

theorem below_put3 {N g : Nat} {w w1 : World} (h : Below N w w1) (hg : N ≤ g) (x y z : Value) : Below N w (((w1.setCell ⟨g, 0, none⟩ x).setCell ⟨g, 1, none⟩ y).setCell ⟨g, 2, none⟩ z) :=
  ((h.setCell hg x).setCell hg y).setCell hg z
namespace Surf
def mix (x y z p q r : Int) : Int × Int × Int := if 0 < y + q then (0, y + q + 2 * (x + p), z + r) else (x + p, y + q, z + r)
def sumOk (x y z p q r : Int) : Prop := Is x y z ∧ Is p q r ∧ Is (mix x y z p q r).1 (mix x y z p q r).2.1 (mix x y z p q r).2.2
instance (x y z p q r : Int) : Decidable (sumOk x y z p q r) := by unfold sumOk; exact inferInstance
def sum (x y z p q r : Int) : Int × Int × Int := if sumOk x y z p q r then mix x y z p q r else (0, 0, 0)
theorem sum_of {x y z p q r : Int} (hs : Is x y z) (ht : Is p q r) : sum x y z p q r = right (mix x y z p q r) ∧ decide (sumOk x y z p q r) = decide (Is (mix x y z p q r).1 (mix x y z p q r).2.1 (mix x y z p q r).2.2) := by
  have e : sumOk x y z p q r ↔ Is (mix x y z p q r).1 (mix x y z p q r).2.1 (mix x y z p q r).2.2 := ⟨fun h => h.2.2, fun h => ⟨hs, ht, h⟩⟩
  refine ⟨?_, decide_eq_decide.2 e⟩
  unfold sum right
  by_cases h : Is (mix x y z p q r).1 (mix x y z p q r).2.1 (mix x y z p q r).2.2
  · rw [if_pos h, if_pos (e.2 h)]
  · rw [if_neg h, if_neg (fun k => h (e.1 k))]
theorem sum_not {x y z p q r : Int} (h : ¬ (Is x y z ∧ Is p q r)) : sum x y z p q r = (0, 0, 0) ∧ decide (sumOk x y z p q r) = false := by
  have e : ¬ sumOk x y z p q r := fun k => h ⟨k.1, k.2.1⟩
  exact ⟨if_neg e, decide_eq_false e⟩
end Surf

set_option maxRecDepth 10000 in
set_option maxHeartbeats 4000000 in
theorem spec_SumSurface (x y z p q r : Int) (w : World) (ha : I64s [x, y, z]) (hb : I64s [p, q, r]) :
    Calls Tryd.prog 10 #[.agg #[.int .i64 x, .int .i64 y, .int .i64 z], .agg #[.int .i64 p, .int .i64 q, .int .i64 r]] w fun e w' => GivesS w (Surf.sum x y z p q r) (decide (Surf.sumOk x y z p q r)) e w' := by
  have hI := fun W => spec_IsSurface x y z W ha
  have hJ := fun W => spec_IsSurface p q r W hb
  generalize hN : w.heap.size = N at *
  have HN := Lib.hid hN
  by_cases hs : Surf.Is x y z
  · rw [decide_eq_true hs] at hI
    have HI := Lib.hid hI; clear hI
    by_cases ht : Surf.Is p q r
    · rw [decide_eq_true ht] at hJ
      have HJ := Lib.hid hJ; clear hJ ha hb
      obtain ⟨hv1, hv2⟩ := Surf.sum_of hs ht
      rw [hv1, hv2]; clear hv1 hv2
      obtain ⟨⟨h1, h2⟩, ⟨h3, h4⟩, ⟨h5, h6⟩, _⟩ := hs
      obtain ⟨⟨k1, k2⟩, ⟨k3, k4⟩, ⟨k5, k6⟩, _⟩ := ht
      by_cases hc : 0 < y + q
      · have d1 : decide (0 < y + q) = true := decide_eq_true hc
        rw [show Surf.mix x y z p q r = (0, y + q + 2 * (x + p), z + r) from if_pos hc]
        have hR := fun W => spec_l4Right 0 (y + q + 2 * (x + p)) (z + r) W (fun n hn => by
          simp only [List.mem_cons, List.not_mem_nil, or_false] at hn
          rcases hn with rfl | rfl | rfl <;> omega)
        generalize Surf.right _ = s at *
        generalize decide (Surf.Is _ _ _) = b at *
        have HR := Lib.hid hR; clear hR hc
        go_enter Tryd.func10, Tryd.ntmps10
        go_wp2_with fail
        refine (HI.out _).mono ?_
        rintro e w1 ⟨rfl, hb1⟩
        obtain ⟨hA1, hB1, hZ1, hl1⟩ := Blk.of3 HN.out hb1 (by have := HN.out; simp; omega)
        clear hb1
        have s1 := hZ1.lt
        have HA1 := Lib.hid hA1; have HB1 := Lib.hid hB1; have HZ1 := Lib.hid hZ1; have Hl1 := Lib.hid hl1; have S1 := Lib.hid s1
        obtain ⟨_, _, _, _, _, _⟩ := hA1.six
        obtain ⟨_, _, _, _, _, _⟩ := hB1.six
        clear hA1 hB1 hZ1 hl1 s1
        go_wp2_with fail
        refine (HJ.out _).mono ?_
        rintro e w2 ⟨rfl, hb2⟩
        have hA2 := HA1.out.below hb2 (by have := S1.out; omega)
        have hB2 := HB1.out.below hb2 (by have := S1.out; omega)
        have hZ2 := HZ1.out.below hb2 S1.out
        have HZ2 := Lib.hid hZ2
        have Hl2 := Lib.hid (Hl1.out.trans (hb2.mono (by have := S1.out; omega)))
        have S2 := Lib.hid hZ2.lt
        obtain ⟨_, _, _, _, _, _⟩ := hA2.six
        obtain ⟨_, _, _, _, _, _⟩ := hB2.six
        have _ := (hA2.alloc (.cells #[.int .i64 (x + p), .int .i64 0, .int .i64 (z + r)] 25)).cell 1
        have _ := (hB2.alloc (.cells #[.int .i64 (x + p), .int .i64 0, .int .i64 (z + r)] 25)).cell 1
        clear hA2 hB2 hZ2 hb2 HA1 HB1 HZ1 Hl1 S1
        generalize hM : w2.heap.size = M at *
        have HM := Lib.hid hM
        have n0 : N ≠ M := by have := S2.out; omega
        have n1 : N + 1 ≠ M := by have := S2.out; omega
        go_wp2_with fail
        refine (HR.out _).mono ?_
        rintro e w3 ⟨rfl, hb3⟩
        have hZ3 := (HZ2.out.alloc _).below hb3 (by have := S2.out; have := HM.out; simp; omega)
        have hl3 := below_lay Hl2.out (by have := S2.out; have := HM.out; omega) hb3
        have HZ3 := Lib.hid hZ3; have Hl3 := Lib.hid hl3; have S3 := Lib.hid hZ3.lt
        obtain ⟨_, _, _, _, _, _⟩ := hZ3.six
        clear hZ3 hl3 hb3 HZ2 Hl2
        generalize hK : w3.heap.size = K at *
        have HK := Lib.hid hK
        have n2 : N + 1 + 1 ≠ K := by have := S3.out; omega
        obtain ⟨_, _, _, _, _, _⟩ := (HZ3.out.alloc (.cells #[.int .i64 s.1, .int .i64 s.2.1, .int .i64 s.2.2] 25)).six
        go_wp2
        have hZ4 := (HZ3.out.alloc (.cells #[.int .i64 s.1, .int .i64 s.2.1, .int .i64 s.2.2] 25)).put3 (x := .int .i64 s.1) (y := .int .i64 s.2.1) (z := .int .i64 s.2.2)
        have hl4 := below_put3 (Hl3.out.alloc (by have := S3.out; have := HK.out; omega) (.cells #[.int .i64 s.1, .int .i64 s.2.1, .int .i64 s.2.2] 25)) (g := N + 1 + 1) (by omega) (.int .i64 s.1) (.int .i64 s.2.1) (.int .i64 s.2.2)
        exact bodyPost_ret (results_cell_tmp rfl _ _ (N + 1 + 1) 25 #[.int .i64 s.1, .int .i64 s.2.1, .int .i64 s.2.2] (0, 0) _ rfl hZ4 Tryd.underlying25 rfl (by kernel_rfl)) rfl ⟨rfl, by rw [HN.out]; exact hl4⟩
      · have d1 : decide (0 < y + q) = false := decide_eq_false hc
        rw [show Surf.mix x y z p q r = (x + p, y + q, z + r) from if_neg hc]
        have e0 : y + q = 0 := by omega
        rw [e0]
        clear e0
        have hR := fun W => spec_l4Right (x + p) 0 (z + r) W (fun n hn => by
          simp only [List.mem_cons, List.not_mem_nil, or_false] at hn
          rcases hn with rfl | rfl | rfl <;> omega)
        generalize Surf.right _ = s at *
        generalize decide (Surf.Is _ _ _) = b at *
        have HR := Lib.hid hR; clear hR hc
        go_enter Tryd.func10, Tryd.ntmps10
        go_wp2_with fail
        refine (HI.out _).mono ?_
        rintro e w1 ⟨rfl, hb1⟩
        obtain ⟨hA1, hB1, hZ1, hl1⟩ := Blk.of3 HN.out hb1 (by have := HN.out; simp; omega)
        clear hb1
        have s1 := hZ1.lt
        have HA1 := Lib.hid hA1; have HB1 := Lib.hid hB1; have HZ1 := Lib.hid hZ1; have Hl1 := Lib.hid hl1; have S1 := Lib.hid s1
        obtain ⟨_, _, _, _, _, _⟩ := hA1.six
        obtain ⟨_, _, _, _, _, _⟩ := hB1.six
        clear hA1 hB1 hZ1 hl1 s1
        go_wp2_with fail
        refine (HJ.out _).mono ?_
        rintro e w2 ⟨rfl, hb2⟩
        have hA2 := HA1.out.below hb2 (by have := S1.out; omega)
        have hB2 := HB1.out.below hb2 (by have := S1.out; omega)
        have hZ2 := HZ1.out.below hb2 S1.out
        have HZ2 := Lib.hid hZ2
        have Hl2 := Lib.hid (Hl1.out.trans (hb2.mono (by have := S1.out; omega)))
        have S2 := Lib.hid hZ2.lt
        obtain ⟨_, _, _, _, _, _⟩ := hA2.six
        obtain ⟨_, _, _, _, _, _⟩ := hB2.six
        have _ := (hA2.alloc (.cells #[.int .i64 (x + p), .int .i64 0, .int .i64 (z + r)] 25)).cell 1
        have _ := (hB2.alloc (.cells #[.int .i64 (x + p), .int .i64 0, .int .i64 (z + r)] 25)).cell 1
        clear hA2 hB2 hZ2 hb2 HA1 HB1 HZ1 Hl1 S1
        generalize hM : w2.heap.size = M at *
        have HM := Lib.hid hM
        have n0 : N ≠ M := by have := S2.out; omega
        have n1 : N + 1 ≠ M := by have := S2.out; omega
        go_wp2_with fail
        refine (HR.out _).mono ?_
        rintro e w3 ⟨rfl, hb3⟩
        have hZ3 := (HZ2.out.alloc _).below hb3 (by have := S2.out; have := HM.out; simp; omega)
        have hl3 := below_lay Hl2.out (by have := S2.out; have := HM.out; omega) hb3
        have HZ3 := Lib.hid hZ3; have Hl3 := Lib.hid hl3; have S3 := Lib.hid hZ3.lt
        obtain ⟨_, _, _, _, _, _⟩ := hZ3.six
        clear hZ3 hl3 hb3 HZ2 Hl2
        generalize hK : w3.heap.size = K at *
        have HK := Lib.hid hK
        have n2 : N + 1 + 1 ≠ K := by have := S3.out; omega
        obtain ⟨_, _, _, _, _, _⟩ := (HZ3.out.alloc (.cells #[.int .i64 s.1, .int .i64 s.2.1, .int .i64 s.2.2] 25)).six
        go_wp2
        have hZ4 := (HZ3.out.alloc (.cells #[.int .i64 s.1, .int .i64 s.2.1, .int .i64 s.2.2] 25)).put3 (x := .int .i64 s.1) (y := .int .i64 s.2.1) (z := .int .i64 s.2.2)
        have hl4 := below_put3 (Hl3.out.alloc (by have := S3.out; have := HK.out; omega) (.cells #[.int .i64 s.1, .int .i64 s.2.1, .int .i64 s.2.2] 25)) (g := N + 1 + 1) (by omega) (.int .i64 s.1) (.int .i64 s.2.1) (.int .i64 s.2.2)
        exact bodyPost_ret (results_cell_tmp rfl _ _ (N + 1 + 1) 25 #[.int .i64 s.1, .int .i64 s.2.1, .int .i64 s.2.2] (0, 0) _ rfl hZ4 Tryd.underlying25 rfl (by kernel_rfl)) rfl ⟨rfl, by rw [HN.out]; exact hl4⟩
    · rw [decide_eq_false ht] at hJ
      have HJ := Lib.hid hJ; clear hJ ha hb
      obtain ⟨hv1, hv2⟩ := Surf.sum_not (fun h : Surf.Is x y z ∧ Surf.Is p q r => ht h.2)
      rw [hv1, hv2]; clear hv1 hv2 hs ht
      go_enter Tryd.func10, Tryd.ntmps10
      go_wp2_with fail
      refine (HI.out _).mono ?_
      rintro e w1 ⟨rfl, hb1⟩
      obtain ⟨hA1, hB1, hZ1, hl1⟩ := Blk.of3 HN.out hb1 (by have := HN.out; simp; omega)
      clear hb1
      have HB1 := Lib.hid hB1; have HZ1 := Lib.hid hZ1; have Hl1 := Lib.hid hl1; have S1 := Lib.hid hZ1.lt
      obtain ⟨_, _, _, _, _, _⟩ := hB1.six
      clear hA1 hB1 hZ1 hl1
      go_wp2_with fail
      refine (HJ.out _).mono ?_
      rintro e w2 ⟨rfl, hb2⟩
      have hZ2 := HZ1.out.below hb2 S1.out
      have HZ2 := Lib.hid hZ2
      have Hl2 := Lib.hid (Hl1.out.trans (hb2.mono (by have := S1.out; omega)))
      obtain ⟨_, _, _, _, _, _⟩ := hZ2.six
      clear hZ2 hb2 HB1 HZ1 Hl1 S1
      go_wp2
      have hZ4 := HZ2.out.put3 (x := .int .i64 0) (y := .int .i64 0) (z := .int .i64 0)
      have hl4 := below_put3 Hl2.out (g := N + 1 + 1) (by omega) (.int .i64 0) (.int .i64 0) (.int .i64 0)
      exact bodyPost_ret (results_cell_tmp rfl _ _ (N + 1 + 1) 25 #[.int .i64 0, .int .i64 0, .int .i64 0] (0, 0) _ rfl hZ4 Tryd.underlying25 rfl (by kernel_rfl)) rfl ⟨rfl, by rw [HN.out]; exact hl4⟩
  · rw [decide_eq_false hs] at hI
    have HI := Lib.hid hI; clear hI hJ ha hb
    obtain ⟨hv1, hv2⟩ := Surf.sum_not (fun h : Surf.Is x y z ∧ Surf.Is p q r => hs h.1)
    rw [hv1, hv2]; clear hv1 hv2 hs
    go_enter Tryd.func10, Tryd.ntmps10
    go_wp2_with fail
    refine (HI.out _).mono ?_
    rintro e w1 ⟨rfl, hb1⟩
    obtain ⟨hA1, hB1, hZ1, hl1⟩ := Blk.of3 HN.out hb1 (by have := HN.out; simp; omega)
    clear hb1
    have HB1 := Lib.hid hB1; have HZ1 := Lib.hid hZ1; have Hl1 := Lib.hid hl1; have S1 := Lib.hid hZ1.lt
    obtain ⟨_, _, _, _, _, _⟩ := hZ1.six
    clear hA1 hB1 hZ1 hl1
    go_wp2
    have hZ4 := HZ1.out.put3 (x := .int .i64 0) (y := .int .i64 0) (z := .int .i64 0)
    have hl4 := below_put3 Hl1.out (g := N + 1 + 1) (by omega) (.int .i64 0) (.int .i64 0) (.int .i64 0)
    exact bodyPost_ret (results_cell_tmp rfl _ _ (N + 1 + 1) 25 #[.int .i64 0, .int .i64 0, .int .i64 0] (0, 0) _ rfl hZ4 Tryd.underlying25 rfl (by kernel_rfl)) rfl ⟨rfl, by rw [HN.out]; exact hl4⟩
set_option maxRecDepth 10000 in
set_option maxHeartbeats 4000000 in
theorem impl_SumSurface (x y z p q r : Int) (w : World) (ha : I64s [x, y, z]) (hb : I64s [p, q, r]) :
    Calls Tryd.prog 9 #[.agg #[.int .i64 x, .int .i64 y, .int .i64 z], .agg #[.int .i64 p, .int .i64 q, .int .i64 r]] w fun e w' => GivesS w (Surf.sum x y z p q r) (decide (Surf.sumOk x y z p q r)) e w' := by
  have hI := fun W => impl_IsSurface x y z W ha
  have hJ := fun W => impl_IsSurface p q r W hb
  generalize hN : w.heap.size = N at *
  have HN := Lib.hid hN
  by_cases hs : Surf.Is x y z
  · rw [decide_eq_true hs] at hI
    have HI := Lib.hid hI; clear hI
    by_cases ht : Surf.Is p q r
    · rw [decide_eq_true ht] at hJ
      have HJ := Lib.hid hJ; clear hJ ha hb
      obtain ⟨hv1, hv2⟩ := Surf.sum_of hs ht
      rw [hv1, hv2]; clear hv1 hv2
      obtain ⟨⟨h1, h2⟩, ⟨h3, h4⟩, ⟨h5, h6⟩, _⟩ := hs
      obtain ⟨⟨k1, k2⟩, ⟨k3, k4⟩, ⟨k5, k6⟩, _⟩ := ht
      by_cases hc : 0 < y + q
      · have d1 : decide (0 < y + q) = true := decide_eq_true hc
        rw [show Surf.mix x y z p q r = (0, y + q + 2 * (x + p), z + r) from if_pos hc]
        have hR := fun W => impl_surfaceOrNone 0 (y + q + 2 * (x + p)) (z + r) W (fun n hn => by
          simp only [List.mem_cons, List.not_mem_nil, or_false] at hn
          rcases hn with rfl | rfl | rfl <;> omega)
        generalize Surf.right _ = s at *
        generalize decide (Surf.Is _ _ _) = b at *
        have HR := Lib.hid hR; clear hR hc
        go_enter Tryd.func9, Tryd.ntmps9
        go_wp2_with fail
        refine (HI.out _).mono ?_
        rintro e w1 ⟨rfl, hb1⟩
        obtain ⟨hA1, hB1, hZ1, hl1⟩ := Blk.of3 HN.out hb1 (by have := HN.out; simp; omega)
        clear hb1
        have s1 := hZ1.lt
        have HA1 := Lib.hid hA1; have HB1 := Lib.hid hB1; have HZ1 := Lib.hid hZ1; have Hl1 := Lib.hid hl1; have S1 := Lib.hid s1
        obtain ⟨_, _, _, _, _, _⟩ := hA1.six
        obtain ⟨_, _, _, _, _, _⟩ := hB1.six
        clear hA1 hB1 hZ1 hl1 s1
        go_wp2_with fail
        refine (HJ.out _).mono ?_
        rintro e w2 ⟨rfl, hb2⟩
        have hA2 := HA1.out.below hb2 (by have := S1.out; omega)
        have hB2 := HB1.out.below hb2 (by have := S1.out; omega)
        have hZ2 := HZ1.out.below hb2 S1.out
        have HZ2 := Lib.hid hZ2
        have Hl2 := Lib.hid (Hl1.out.trans (hb2.mono (by have := S1.out; omega)))
        have S2 := Lib.hid hZ2.lt
        obtain ⟨_, _, _, _, _, _⟩ := hA2.six
        obtain ⟨_, _, _, _, _, _⟩ := hB2.six
        clear hA2 hB2 hZ2 hb2 HA1 HB1 HZ1 Hl1 S1
        generalize hM : w2.heap.size = M at *
        have HM := Lib.hid hM
        have n0 : N ≠ M := by have := S2.out; omega
        have n1 : N + 1 ≠ M := by have := S2.out; omega
        go_wp2_with fail
        refine (HR.out _).mono ?_
        rintro e w3 ⟨rfl, hb3⟩
        have hZ3 := (HZ2.out.alloc _).below hb3 (by have := S2.out; have := HM.out; simp; omega)
        have hl3 := below_lay Hl2.out (by have := S2.out; have := HM.out; omega) hb3
        have HZ3 := Lib.hid hZ3; have Hl3 := Lib.hid hl3; have S3 := Lib.hid hZ3.lt
        obtain ⟨_, _, _, _, _, _⟩ := hZ3.six
        clear hZ3 hl3 hb3 HZ2 Hl2
        generalize hK : w3.heap.size = K at *
        have HK := Lib.hid hK
        have n2 : N + 1 + 1 ≠ K := by have := S3.out; omega
        go_wp2
        have hZ4 := HZ3.out.put3 (x := .int .i64 s.1) (y := .int .i64 s.2.1) (z := .int .i64 s.2.2)
        have hl4 := below_put3 Hl3.out (g := N + 1 + 1) (by omega) (.int .i64 s.1) (.int .i64 s.2.1) (.int .i64 s.2.2)
        exact bodyPost_ret (results_cell_tmp rfl _ _ (N + 1 + 1) 25 #[.int .i64 s.1, .int .i64 s.2.1, .int .i64 s.2.2] (0, 0) _ rfl hZ4 Tryd.underlying25 rfl (by kernel_rfl)) rfl ⟨rfl, by rw [HN.out]; exact hl4⟩
      · have d1 : decide (0 < y + q) = false := decide_eq_false hc
        rw [show Surf.mix x y z p q r = (x + p, y + q, z + r) from if_neg hc]
        have e0 : y + q = 0 := by omega
        clear e0
        have hR := fun W => impl_surfaceOrNone (x + p) (y + q) (z + r) W (fun n hn => by
          simp only [List.mem_cons, List.not_mem_nil, or_false] at hn
          rcases hn with rfl | rfl | rfl <;> omega)
        generalize Surf.right _ = s at *
        generalize decide (Surf.Is _ _ _) = b at *
        have HR := Lib.hid hR; clear hR hc
        go_enter Tryd.func9, Tryd.ntmps9
        go_wp2_with fail
        refine (HI.out _).mono ?_
        rintro e w1 ⟨rfl, hb1⟩
        obtain ⟨hA1, hB1, hZ1, hl1⟩ := Blk.of3 HN.out hb1 (by have := HN.out; simp; omega)
        clear hb1
        have s1 := hZ1.lt
        have HA1 := Lib.hid hA1; have HB1 := Lib.hid hB1; have HZ1 := Lib.hid hZ1; have Hl1 := Lib.hid hl1; have S1 := Lib.hid s1
        obtain ⟨_, _, _, _, _, _⟩ := hA1.six
        obtain ⟨_, _, _, _, _, _⟩ := hB1.six
        clear hA1 hB1 hZ1 hl1 s1
        go_wp2_with fail
        refine (HJ.out _).mono ?_
        rintro e w2 ⟨rfl, hb2⟩
        have hA2 := HA1.out.below hb2 (by have := S1.out; omega)
        have hB2 := HB1.out.below hb2 (by have := S1.out; omega)
        have hZ2 := HZ1.out.below hb2 S1.out
        have HZ2 := Lib.hid hZ2
        have Hl2 := Lib.hid (Hl1.out.trans (hb2.mono (by have := S1.out; omega)))
        have S2 := Lib.hid hZ2.lt
        obtain ⟨_, _, _, _, _, _⟩ := hA2.six
        obtain ⟨_, _, _, _, _, _⟩ := hB2.six
        clear hA2 hB2 hZ2 hb2 HA1 HB1 HZ1 Hl1 S1
        generalize hM : w2.heap.size = M at *
        have HM := Lib.hid hM
        have n0 : N ≠ M := by have := S2.out; omega
        have n1 : N + 1 ≠ M := by have := S2.out; omega
        go_wp2_with fail
        refine (HR.out _).mono ?_
        rintro e w3 ⟨rfl, hb3⟩
        have hZ3 := (HZ2.out.alloc _).below hb3 (by have := S2.out; have := HM.out; simp; omega)
        have hl3 := below_lay Hl2.out (by have := S2.out; have := HM.out; omega) hb3
        have HZ3 := Lib.hid hZ3; have Hl3 := Lib.hid hl3; have S3 := Lib.hid hZ3.lt
        obtain ⟨_, _, _, _, _, _⟩ := hZ3.six
        clear hZ3 hl3 hb3 HZ2 Hl2
        generalize hK : w3.heap.size = K at *
        have HK := Lib.hid hK
        have n2 : N + 1 + 1 ≠ K := by have := S3.out; omega
        go_wp2
        have hZ4 := HZ3.out.put3 (x := .int .i64 s.1) (y := .int .i64 s.2.1) (z := .int .i64 s.2.2)
        have hl4 := below_put3 Hl3.out (g := N + 1 + 1) (by omega) (.int .i64 s.1) (.int .i64 s.2.1) (.int .i64 s.2.2)
        exact bodyPost_ret (results_cell_tmp rfl _ _ (N + 1 + 1) 25 #[.int .i64 s.1, .int .i64 s.2.1, .int .i64 s.2.2] (0, 0) _ rfl hZ4 Tryd.underlying25 rfl (by kernel_rfl)) rfl ⟨rfl, by rw [HN.out]; exact hl4⟩
    · rw [decide_eq_false ht] at hJ
      have HJ := Lib.hid hJ; clear hJ ha hb
      obtain ⟨hv1, hv2⟩ := Surf.sum_not (fun h : Surf.Is x y z ∧ Surf.Is p q r => ht h.2)
      rw [hv1, hv2]; clear hv1 hv2 hs ht
      go_enter Tryd.func9, Tryd.ntmps9
      go_wp2_with fail
      refine (HI.out _).mono ?_
      rintro e w1 ⟨rfl, hb1⟩
      obtain ⟨hA1, hB1, hZ1, hl1⟩ := Blk.of3 HN.out hb1 (by have := HN.out; simp; omega)
      clear hb1
      have HB1 := Lib.hid hB1; have HZ1 := Lib.hid hZ1; have Hl1 := Lib.hid hl1; have S1 := Lib.hid hZ1.lt
      obtain ⟨_, _, _, _, _, _⟩ := hB1.six
      clear hA1 hB1 hZ1 hl1
      go_wp2_with fail
      refine (HJ.out _).mono ?_
      rintro e w2 ⟨rfl, hb2⟩
      have hZ2 := HZ1.out.below hb2 S1.out
      have HZ2 := Lib.hid hZ2
      have Hl2 := Lib.hid (Hl1.out.trans (hb2.mono (by have := S1.out; omega)))
      obtain ⟨_, _, _, _, _, _⟩ := hZ2.six
      clear hZ2 hb2 HB1 HZ1 Hl1 S1
      go_wp2
      have hZ4 := HZ2.out.put3 (x := .int .i64 0) (y := .int .i64 0) (z := .int .i64 0)
      have hl4 := below_put3 Hl2.out (g := N + 1 + 1) (by omega) (.int .i64 0) (.int .i64 0) (.int .i64 0)
      exact bodyPost_ret (results_cell_tmp rfl _ _ (N + 1 + 1) 25 #[.int .i64 0, .int .i64 0, .int .i64 0] (0, 0) _ rfl hZ4 Tryd.underlying25 rfl (by kernel_rfl)) rfl ⟨rfl, by rw [HN.out]; exact hl4⟩
  · rw [decide_eq_false hs] at hI
    have HI := Lib.hid hI; clear hI hJ ha hb
    obtain ⟨hv1, hv2⟩ := Surf.sum_not (fun h : Surf.Is x y z ∧ Surf.Is p q r => hs h.1)
    rw [hv1, hv2]; clear hv1 hv2 hs
    go_enter Tryd.func9, Tryd.ntmps9
    go_wp2_with fail
    refine (HI.out _).mono ?_
    rintro e w1 ⟨rfl, hb1⟩
    obtain ⟨hA1, hB1, hZ1, hl1⟩ := Blk.of3 HN.out hb1 (by have := HN.out; simp; omega)
    clear hb1
    have HB1 := Lib.hid hB1; have HZ1 := Lib.hid hZ1; have Hl1 := Lib.hid hl1; have S1 := Lib.hid hZ1.lt
    obtain ⟨_, _, _, _, _, _⟩ := hZ1.six
    clear hA1 hB1 hZ1 hl1
    go_wp2
    have hZ4 := HZ1.out.put3 (x := .int .i64 0) (y := .int .i64 0) (z := .int .i64 0)
    have hl4 := below_put3 Hl1.out (g := N + 1 + 1) (by omega) (.int .i64 0) (.int .i64 0) (.int .i64 0)
    exact bodyPost_ret (results_cell_tmp rfl _ _ (N + 1 + 1) 25 #[.int .i64 0, .int .i64 0, .int .i64 0] (0, 0) _ rfl hZ4 Tryd.underlying25 rfl (by kernel_rfl)) rfl ⟨rfl, by rw [HN.out]; exact hl4⟩
end Go.Proofs.YtodgongemoabiaaDoor
