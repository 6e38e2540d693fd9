/-
  The walks of the program's signedCross, CrossNumber, IsBasisPair, SumSlope and TwistSlope.
-/
import Derived.Test.YtehibigjdbpikaaGreatDoorBase
import Derived.Test.YtehibigjdbpikaaGreatDoorSlice
import Derived.Test.YtehibigjdbpikaaGreatDoorIntRow
import Derived.Test.YtehibigjdbpikaaGreatDoorInts
import Derived.Test.YtehibigjdbpikaaGreatDoorTw
import Derived.Test.YtehibigjdbpikaaGreatDoorTwErr
import Derived.Test.YtehibigjdbpikaaGreatDoorSl
import Derived.Test.YtehibigjdbpikaaGreatDoorSlK
import Derived.Test.YtehibigjdbpikaaGreatDoorSlA
namespace Go.Proofs.YtehibigjdbpikaaGreatDoor
open Go.RowKit

/-- Two slopes in blocks of their own. -/
def Two (w : World) (x y p q : Int) : World := (w.alloc (.cells #[.int .i64 x, .int .i64 y] 44)).alloc (.cells #[.int .i64 p, .int .i64 q] 44)
theorem two_box (w : World) (x y p q : Int) :
    Blk ((w.alloc (.cells #[.int .i64 x, .int .i64 y] 44)).alloc (.cells #[.int .i64 p, .int .i64 q] 44)) w.heap.size 44 #[.int .i64 x, .int .i64 y] ∧
      Blk ((w.alloc (.cells #[.int .i64 x, .int .i64 y] 44)).alloc (.cells #[.int .i64 p, .int .i64 q] 44)) (w.heap.size + 1) 44 #[.int .i64 p, .int .i64 q] ∧
      Below w.heap.size w ((w.alloc (.cells #[.int .i64 x, .int .i64 y] 44)).alloc (.cells #[.int .i64 p, .int .i64 q] 44)) :=
  ⟨(Blk.new w _ _).alloc _, Blk.at (size_alloc rfl _) _ _, ((Below.refl w.heap.size w).alloc (Nat.le_refl _) _).alloc (by simp) _⟩
theorem three_box (w : World) (x y p q r s : Int) :
    Blk (((w.alloc (.cells #[.int .i64 x, .int .i64 y] 44)).alloc (.cells #[.int .i64 p, .int .i64 q] 44)).alloc (.cells #[.int .i64 r, .int .i64 s] 44)) w.heap.size 44 #[.int .i64 x, .int .i64 y] ∧
      Blk (((w.alloc (.cells #[.int .i64 x, .int .i64 y] 44)).alloc (.cells #[.int .i64 p, .int .i64 q] 44)).alloc (.cells #[.int .i64 r, .int .i64 s] 44)) (w.heap.size + 1) 44 #[.int .i64 p, .int .i64 q] ∧
      Blk (((w.alloc (.cells #[.int .i64 x, .int .i64 y] 44)).alloc (.cells #[.int .i64 p, .int .i64 q] 44)).alloc (.cells #[.int .i64 r, .int .i64 s] 44)) (w.heap.size + 2) 44 #[.int .i64 r, .int .i64 s] ∧
      Below w.heap.size w (((w.alloc (.cells #[.int .i64 x, .int .i64 y] 44)).alloc (.cells #[.int .i64 p, .int .i64 q] 44)).alloc (.cells #[.int .i64 r, .int .i64 s] 44)) := by
  obtain ⟨h1, h2, h3⟩ := two_box w x y p q
  exact ⟨h1.alloc _, h2.alloc _, Blk.at (size_alloc (size_alloc rfl _) _) _ _, h3.alloc h3.size _⟩

set_option maxRecDepth 10000 in
set_option maxHeartbeats 400000 in
theorem impl_signedCross (x y p q : Int) (w : World) (h1 : Sl.Is x y) (h2 : Sl.Is p q) :
    Calls Tryz.prog 92 #[.agg #[.int .i64 x, .int .i64 y], .agg #[.int .i64 p, .int .i64 q]] w fun e w' => e = .returned (.int .i64 (Sl.det x y p q)) ∧ Below w.heap.size w w' := by
  have hb := Sl.det_abs h1 h2
  unfold Sl.det at hb ⊢
  obtain ⟨M, hM⟩ : ∃ M, x * q = M := ⟨_, rfl⟩
  obtain ⟨K, hK⟩ : ∃ K, y * p = K := ⟨_, rfl⟩
  rw [hM, hK] at hb ⊢
  have e1 : IntKind.i64.wrap (x * q) = M := by rw [hM]; exact wrap_small (by omega) (by omega)
  have e2 : IntKind.i64.wrap (y * p) = K := by rw [hK]; exact wrap_small (by omega) (by omega)
  have e3 : IntKind.i64.wrap (M - K) = M - K := wrap_small (by omega) (by omega)
  have Hl := Lib.hid (two_box w x y p q).2.2
  clear hb hM hK h1 h2
  go_enter Tryz.func92, Tryz.ntmps92
  go_wp2
  go_ret
  exact ⟨rfl, Hl.out⟩
set_option maxRecDepth 10000 in
set_option maxHeartbeats 1000000 in
theorem impl_CrossNumber (x y p q : Int) (w : World) (hE : Errs w) :
    Calls Tryz.prog 39 #[.agg #[.int .i64 x, .int .i64 y], .agg #[.int .i64 p, .int .i64 q]] w fun e w' => e = .returned (.int .i64 (Sl.crossN x y p q)) ∧ Below w.heap.size w w' := by
  obtain ⟨hA, hB, hl⟩ := two_box w x y p q
  have hX := fun W (hb : Below w.heap.size w W) => impl_IsSlope x y W (hE.keeps hb)
  have hP := fun W (hb : Below w.heap.size w W) => impl_IsSlope p q W (hE.keeps hb)
  have HA := Lib.hid hA; have HB := Lib.hid hB; have Hl := Lib.hid hl
  clear hA hB hl hE
  by_cases h1 : Sl.Is x y
  · rw [decide_eq_true h1] at hX
    by_cases h2 : Sl.Is p q
    · rw [decide_eq_true h2] at hP
      have hv : Sl.crossN x y p q = (((Sl.det x y p q).natAbs : Nat) : Int) := if_pos ⟨h1, h2⟩
      have hS := fun W => impl_signedCross x y p q W h1 h2
      have hb := (Sl.det_abs h1 h2).2.2
      rw [hv]
      generalize Sl.det x y p q = d at *
      have e1 : IntKind.i64.wrap (-d) = -d := wrap_small (by omega) (by omega)
      have HX := Lib.hid hX; have HP := Lib.hid hP; have HS := Lib.hid hS
      clear hX hP hS hv h1 h2 hb
      go_enter Tryz.func39, Tryz.ntmps39
      go_wp2_with fail
      refine (HX.out _ Hl.out).mono ?_
      rintro e w1 ⟨rfl, hb⟩
      have hA := HA.out.below hb HA.out.lt
      have hB := HB.out.below hb HB.out.lt
      obtain ⟨_, _, _, _⟩ := hA.four
      obtain ⟨_, _, _, _⟩ := hB.four
      have hl := Hl.out.trans (hb.mono Hl.out.size)
      have HA := Lib.hid hA; have HB := Lib.hid hB; have Hl := Lib.hid hl
      clear hb hl hA hB
      go_wp2_with fail
      refine (HP.out _ Hl.out).mono ?_
      rintro e w2 ⟨rfl, hb⟩
      have hA := HA.out.below hb HA.out.lt
      have hB := HB.out.below hb HB.out.lt
      obtain ⟨_, _, _, _⟩ := hA.four
      obtain ⟨_, _, _, _⟩ := hB.four
      have hl := Hl.out.trans (hb.mono Hl.out.size)
      have HA := Lib.hid hA; have HB := Lib.hid hB; have Hl := Lib.hid hl
      clear hb hl hA hB
      go_wp2_with fail
      refine (HS.out _).mono ?_
      rintro e w3 ⟨rfl, hb⟩
      have Hl3 := Lib.hid (Hl.out.trans (hb.mono Hl.out.size)); clear hb
      go_wp2
      all_goals
        go_ret
        refine ⟨?_, Hl3.out⟩
        first
          | (rw [show ((d.natAbs : Nat) : Int) = -d by omega]; rfl)
          | (rw [show ((d.natAbs : Nat) : Int) = d by omega]; rfl)
          | (rw [show ((d.natAbs : Nat) : Int) = max d (-d) by omega]; rfl)
    · rw [decide_eq_false h2] at hP
      rw [show Sl.crossN x y p q = -1 from if_neg fun h => h2 h.2]
      have HX := Lib.hid hX; have HP := Lib.hid hP
      clear hX hP h1 h2
      go_enter Tryz.func39, Tryz.ntmps39
      go_wp2_with fail
      refine (HX.out _ Hl.out).mono ?_
      rintro e w1 ⟨rfl, hb⟩
      have hA := HA.out.below hb HA.out.lt
      have hB := HB.out.below hb HB.out.lt
      obtain ⟨_, _, _, _⟩ := hA.four
      obtain ⟨_, _, _, _⟩ := hB.four
      have hl := Hl.out.trans (hb.mono Hl.out.size)
      have HA := Lib.hid hA; have HB := Lib.hid hB; have Hl := Lib.hid hl
      clear hb hl hA hB
      go_wp2_with fail
      refine (HP.out _ Hl.out).mono ?_
      rintro e w2 ⟨rfl, hb⟩
      have Hl3 := Lib.hid (Hl.out.trans (hb.mono Hl.out.size)); clear hb
      go_wp2
      go_ret
      exact ⟨rfl, Hl3.out⟩
  · rw [decide_eq_false h1] at hX
    rw [show Sl.crossN x y p q = -1 from if_neg fun h => h1 h.1]
    have HX := Lib.hid hX
    clear hX hP h1
    go_enter Tryz.func39, Tryz.ntmps39
    go_wp2_with fail
    refine (HX.out _ Hl.out).mono ?_
    rintro e w1 ⟨rfl, hb⟩
    have Hl3 := Lib.hid (Hl.out.trans (hb.mono Hl.out.size)); clear hb
    go_wp2
    go_ret
    exact ⟨rfl, Hl3.out⟩
set_option maxRecDepth 10000 in
set_option maxHeartbeats 1000000 in
theorem impl_IsBasisPair (x y p q : Int) (w : World) (hE : Errs w) :
    Calls Tryz.prog 56 #[.agg #[.int .i64 x, .int .i64 y], .agg #[.int .i64 p, .int .i64 q]] w fun e w' => e = .returned (.bool (decide (Sl.crossN x y p q = 1))) ∧ Below w.heap.size w w' := by
  obtain ⟨hA, hB, hl⟩ := two_box w x y p q
  have hC := fun W (hb : Below w.heap.size w W) => impl_CrossNumber x y p q W (hE.keeps hb)
  rw [show decide (Sl.crossN x y p q = 1) = (Sl.crossN x y p q == 1) from rfl]
  generalize Sl.crossN x y p q = v at *
  have HC := Lib.hid hC; have Hl := Lib.hid hl
  clear hA hB hl hE hC
  go_enter Tryz.func56, Tryz.ntmps56
  go_wp2_with fail
  refine (HC.out _ Hl.out).mono ?_
  rintro e w1 ⟨rfl, hb⟩
  have Hl3 := Lib.hid (Hl.out.trans (hb.mono Hl.out.size)); clear hb
  go_wp2
  go_ret
  exact ⟨rfl, Hl3.out⟩
set_option maxRecDepth 10000 in
set_option maxHeartbeats 1000000 in
theorem impl_SumSlope (x y p q : Int) (w : World) (hE : Errs w) :
    Calls Tryz.prog 49 #[.agg #[.int .i64 x, .int .i64 y], .agg #[.int .i64 p, .int .i64 q]] w fun e w' => GivesSl w (Sl.sum x y p q) (decide (Sl.sumOk x y p q)) e w' := by
  obtain ⟨hA, hB, hR, hl⟩ := three_box w x y p q 0 0
  have hC := fun W (hb : Below w.heap.size w W) => impl_IsBasisPair x y p q W (hE.keeps hb)
  have hO := fun W (hb : Below w.heap.size w W) => impl_SlopeOf (x + p) (y + q) W (hE.keeps hb)
  have HA := Lib.hid hA; have HB := Lib.hid hB; have HR := Lib.hid hR; have Hl := Lib.hid hl
  clear hA hB hR hl hE
  by_cases hc : Sl.crossN x y p q = 1
  · rw [decide_eq_true hc] at hC
    have hI : Sl.Is x y ∧ Sl.Is p q := Decidable.byContradiction fun k => by unfold Sl.crossN at hc; rw [if_neg k] at hc; exact absurd hc (by decide)
    have hb1 := hI.1.abs; have hb2 := hI.2.abs
    have e1 : IntKind.i64.wrap (x + p) = x + p := wrap_small (by omega) (by omega)
    have e2 : IntKind.i64.wrap (y + q) = y + q := wrap_small (by omega) (by omega)
    rw [show Sl.sum x y p q = Sl.of (x + p) (y + q) from if_pos hc, show decide (Sl.sumOk x y p q) = decide (Sl.OfOk (x + p) (y + q)) from decide_eq_decide.2 ⟨fun h => h.2, fun h => ⟨hc, h⟩⟩]
    generalize Sl.of (x + p) (y + q) = s at *
    generalize decide (Sl.OfOk (x + p) (y + q)) = b at *
    have HC := Lib.hid hC; have HO := Lib.hid hO
    clear hC hO hc hI hb1 hb2
    go_enter Tryz.func49, Tryz.ntmps49
    go_wp2_with fail
    refine (HC.out _ Hl.out).mono ?_
    rintro e w1 ⟨rfl, hb⟩
    have hA := HA.out.below hb HA.out.lt
    have hB := HB.out.below hb HB.out.lt
    have hR := HR.out.below hb HR.out.lt
    obtain ⟨_, _, _, _⟩ := hA.four
    obtain ⟨_, _, _, _⟩ := hB.four
    obtain ⟨_, _, _, _⟩ := hR.four
    have hl := Hl.out.trans (hb.mono Hl.out.size)
    have HA := Lib.hid hA; have HB := Lib.hid hB; have HR := Lib.hid hR; have Hl := Lib.hid hl
    clear hb hl hA hB hR
    go_wp2_with fail
    refine (HO.out _ Hl.out).mono ?_
    rintro e w2 ⟨rfl, hb⟩
    have hA := HA.out.below hb HA.out.lt
    have hB := HB.out.below hb HB.out.lt
    have hR := HR.out.below hb HR.out.lt
    obtain ⟨_, _, _, _⟩ := hA.four
    obtain ⟨_, _, _, _⟩ := hB.four
    obtain ⟨_, _, _, _⟩ := hR.four
    have hl := Hl.out.trans (hb.mono Hl.out.size)
    have HA := Lib.hid hA; have HB := Lib.hid hB; have HR := Lib.hid hR; have Hl := Lib.hid hl
    clear hb hl hA hB hR
    go_wp2
    exact bodyPost_ret (results_cell_slot rfl _ _ (w.heap.size + 2) 44 #[.int .i64 s.1, .int .i64 s.2] (0, 0) _ rfl HR.out.put2 Tryz.underlying44 rfl (by kernel_rfl)) rfl ⟨rfl, below_put2 Hl.out (by omega) _ _⟩
  · rw [decide_eq_false hc] at hC
    rw [show Sl.sum x y p q = (0, 0) from if_neg hc, show decide (Sl.sumOk x y p q) = false from decide_eq_false fun h => hc h.1]
    have HC := Lib.hid hC
    clear hC hO hc
    go_enter Tryz.func49, Tryz.ntmps49
    go_wp2_with fail
    refine (HC.out _ Hl.out).mono ?_
    rintro e w1 ⟨rfl, hb⟩
    have hA := HA.out.below hb HA.out.lt
    have hB := HB.out.below hb HB.out.lt
    have hR := HR.out.below hb HR.out.lt
    obtain ⟨_, _, _, _⟩ := hA.four
    obtain ⟨_, _, _, _⟩ := hB.four
    obtain ⟨_, _, _, _⟩ := hR.four
    have hl := Hl.out.trans (hb.mono Hl.out.size)
    have HA := Lib.hid hA; have HB := Lib.hid hB; have HR := Lib.hid hR; have Hl := Lib.hid hl
    clear hb hl hA hB hR
    go_wp2
    exact bodyPost_ret (results_cell_slot rfl _ _ (w.heap.size + 2) 44 #[.int .i64 0, .int .i64 0] (0, 0) _ rfl HR.out.put2 Tryz.underlying44 rfl (by kernel_rfl)) rfl ⟨rfl, below_put2 Hl.out (by omega) _ _⟩
set_option maxRecDepth 10000 in
set_option maxHeartbeats 2000000 in
theorem impl_TwistSlope (x y p q k : Int) (w : World) (hE : Errs w) :
    Calls Tryz.prog 47 #[.agg #[.int .i64 x, .int .i64 y], .agg #[.int .i64 p, .int .i64 q], .int .i64 k] w fun e w' => GivesSl w (Sl.twist x y p q k) (decide (Sl.twOk x y p q k)) e w' := by
  obtain ⟨hA, hB, hR, hl⟩ := three_box w x y p q 0 0
  have hX := fun W (hb : Below w.heap.size w W) => impl_IsSlope x y W (hE.keeps hb)
  have hP := fun W (hb : Below w.heap.size w W) => impl_IsSlope p q W (hE.keeps hb)
  have HA := Lib.hid hA; have HB := Lib.hid hB; have HR := Lib.hid hR; have Hl := Lib.hid hl
  clear hA hB hR hl
  by_cases hin : Sl.TwIn x y p q k
  · have hO := fun W (hb : Below w.heap.size w W) => impl_SlopeOf (p + Sl.times x y p q k * x) (q + Sl.times x y p q k * y) W (hE.keeps hb)
    have hin2 := hin
    obtain ⟨h1, h2, h3, h4⟩ := hin2
    rw [decide_eq_true h1] at hX
    rw [decide_eq_true h2] at hP
    have hS := fun W => impl_signedCross p q x y W h2 h1
    rw [show Sl.twist x y p q k = Sl.of (p + Sl.times x y p q k * x) (q + Sl.times x y p q k * y) from if_pos hin, show decide (Sl.twOk x y p q k) = decide (Sl.OfOk (p + Sl.times x y p q k * x) (q + Sl.times x y p q k * y)) from decide_eq_decide.2 ⟨fun h => h.2, fun h => ⟨hin, h⟩⟩]
    have hb1 := h1.abs; have hb2 := h2.abs
    have hdb := (Sl.det_abs h2 h1).2.2
    have hnb := Sl.times_abs hin
    have htm : Sl.times x y p q k = k * Sl.det p q x y := rfl
    generalize Sl.times x y p q k = n at *
    generalize Sl.det p q x y = d at *
    obtain ⟨M, hM⟩ : ∃ M, n * x = M := ⟨_, rfl⟩
    obtain ⟨K, hK⟩ : ∃ K, n * y = K := ⟨_, rfl⟩
    rw [hM, hK] at hO hnb ⊢
    have e0 : IntKind.i64.wrap (k * d) = n := by rw [← htm]; exact wrap_small (by omega) (by omega)
    have e1 : IntKind.i64.wrap (n * x) = M := by rw [hM]; exact wrap_small (by omega) (by omega)
    have e2 : IntKind.i64.wrap (n * y) = K := by rw [hK]; exact wrap_small (by omega) (by omega)
    have e3 : IntKind.i64.wrap (p + M) = p + M := wrap_small (by omega) (by omega)
    have e4 : IntKind.i64.wrap (q + K) = q + K := wrap_small (by omega) (by omega)
    generalize Sl.of (p + M) (q + K) = s at *
    generalize decide (Sl.OfOk (p + M) (q + K)) = b at *
    have HX := Lib.hid hX; have HP := Lib.hid hP; have HO := Lib.hid hO; have HS := Lib.hid hS
    clear hX hP hO hS hin h1 h2 hb1 hb2 hdb hnb htm hM hK hE
    go_enter Tryz.func47, Tryz.ntmps47
    go_wp2_with fail
    refine (HX.out _ Hl.out).mono ?_
    rintro e w1 ⟨rfl, hb⟩
    have hA := HA.out.below hb HA.out.lt
    have hB := HB.out.below hb HB.out.lt
    have hR := HR.out.below hb HR.out.lt
    obtain ⟨_, _, _, _⟩ := hA.four
    obtain ⟨_, _, _, _⟩ := hB.four
    obtain ⟨_, _, _, _⟩ := hR.four
    have hl := Hl.out.trans (hb.mono Hl.out.size)
    have HA := Lib.hid hA; have HB := Lib.hid hB; have HR := Lib.hid hR; have Hl := Lib.hid hl
    clear hb hl hA hB hR
    go_wp2_with fail
    refine (HP.out _ Hl.out).mono ?_
    rintro e w2 ⟨rfl, hb⟩
    have hA := HA.out.below hb HA.out.lt
    have hB := HB.out.below hb HB.out.lt
    have hR := HR.out.below hb HR.out.lt
    obtain ⟨_, _, _, _⟩ := hA.four
    obtain ⟨_, _, _, _⟩ := hB.four
    obtain ⟨_, _, _, _⟩ := hR.four
    have hl := Hl.out.trans (hb.mono Hl.out.size)
    have HA := Lib.hid hA; have HB := Lib.hid hB; have HR := Lib.hid hR; have Hl := Lib.hid hl
    clear hb hl hA hB hR
    go_wp2_with fail
    refine (HS.out _).mono ?_
    rintro e w3 ⟨rfl, hb⟩
    have hA := HA.out.below hb HA.out.lt
    have hB := HB.out.below hb HB.out.lt
    have hR := HR.out.below hb HR.out.lt
    obtain ⟨_, _, _, _⟩ := hA.four
    obtain ⟨_, _, _, _⟩ := hB.four
    obtain ⟨_, _, _, _⟩ := hR.four
    have hl := Hl.out.trans (hb.mono Hl.out.size)
    have HA := Lib.hid hA; have HB := Lib.hid hB; have HR := Lib.hid hR; have Hl := Lib.hid hl
    clear hb hl hA hB hR
    go_wp2_with fail
    refine (HO.out _ Hl.out).mono ?_
    rintro e w4 ⟨rfl, hb⟩
    have hA := HA.out.below hb HA.out.lt
    have hB := HB.out.below hb HB.out.lt
    have hR := HR.out.below hb HR.out.lt
    obtain ⟨_, _, _, _⟩ := hA.four
    obtain ⟨_, _, _, _⟩ := hB.four
    obtain ⟨_, _, _, _⟩ := hR.four
    have hl := Hl.out.trans (hb.mono Hl.out.size)
    have HA := Lib.hid hA; have HB := Lib.hid hB; have HR := Lib.hid hR; have Hl := Lib.hid hl
    clear hb hl hA hB hR
    go_wp2
    exact bodyPost_ret (results_cell_slot rfl _ _ (w.heap.size + 2) 44 #[.int .i64 s.1, .int .i64 s.2] (0, 0) _ rfl HR.out.put2 Tryz.underlying44 rfl (by kernel_rfl)) rfl ⟨rfl, below_put2 Hl.out (by omega) _ _⟩
  · rw [show Sl.twist x y p q k = (0, 0) from if_neg hin, show decide (Sl.twOk x y p q k) = false from decide_eq_false fun h => hin h.1]
    by_cases h1 : Sl.Is x y
    · rw [decide_eq_true h1] at hX
      by_cases h2 : Sl.Is p q
      · rw [decide_eq_true h2] at hP
        have HX := Lib.hid hX; have HP := Lib.hid hP
        have hk : k < -20 ∨ (¬ k < -20 ∧ k > 20) := by
          rcases Int.lt_or_le k (-20) with h | h
          · exact Or.inl h
          · refine Or.inr ⟨by omega, ?_⟩
            rcases Int.lt_or_le 20 k with h' | h'
            · exact h'
            · exact absurd ⟨h1, h2, h, h'⟩ hin
        clear hX hP hin h1 h2 hE
        rcases hk with hk | ⟨hk, hk2⟩
        all_goals
          go_enter Tryz.func47, Tryz.ntmps47
          go_wp2_with fail
          refine (HX.out _ Hl.out).mono ?_
          rintro e w1 ⟨rfl, hb⟩
          have hA := HA.out.below hb HA.out.lt
          have hB := HB.out.below hb HB.out.lt
          have hR := HR.out.below hb HR.out.lt
          obtain ⟨_, _, _, _⟩ := hA.four
          obtain ⟨_, _, _, _⟩ := hB.four
          obtain ⟨_, _, _, _⟩ := hR.four
          have hl := Hl.out.trans (hb.mono Hl.out.size)
          have HA := Lib.hid hA; have HB := Lib.hid hB; have HR := Lib.hid hR; have Hl := Lib.hid hl
          clear hb hl hA hB hR
          go_wp2_with fail
          refine (HP.out _ Hl.out).mono ?_
          rintro e w2 ⟨rfl, hb⟩
          have hA := HA.out.below hb HA.out.lt
          have hB := HB.out.below hb HB.out.lt
          have hR := HR.out.below hb HR.out.lt
          obtain ⟨_, _, _, _⟩ := hA.four
          obtain ⟨_, _, _, _⟩ := hB.four
          obtain ⟨_, _, _, _⟩ := hR.four
          have hl := Hl.out.trans (hb.mono Hl.out.size)
          have HA := Lib.hid hA; have HB := Lib.hid hB; have HR := Lib.hid hR; have Hl := Lib.hid hl
          clear hb hl hA hB hR
          go_wp2
          exact bodyPost_ret (results_cell_slot rfl _ _ (w.heap.size + 2) 44 #[.int .i64 0, .int .i64 0] (0, 0) _ rfl HR.out.put2 Tryz.underlying44 rfl (by kernel_rfl)) rfl ⟨rfl, below_put2 Hl.out (by omega) _ _⟩
      · rw [decide_eq_false h2] at hP
        have HX := Lib.hid hX; have HP := Lib.hid hP
        clear hX hP hin h1 h2 hE
        go_enter Tryz.func47, Tryz.ntmps47
        go_wp2_with fail
        refine (HX.out _ Hl.out).mono ?_
        rintro e w1 ⟨rfl, hb⟩
        have hA := HA.out.below hb HA.out.lt
        have hB := HB.out.below hb HB.out.lt
        have hR := HR.out.below hb HR.out.lt
        obtain ⟨_, _, _, _⟩ := hA.four
        obtain ⟨_, _, _, _⟩ := hB.four
        obtain ⟨_, _, _, _⟩ := hR.four
        have hl := Hl.out.trans (hb.mono Hl.out.size)
        have HA := Lib.hid hA; have HB := Lib.hid hB; have HR := Lib.hid hR; have Hl := Lib.hid hl
        clear hb hl hA hB hR
        go_wp2_with fail
        refine (HP.out _ Hl.out).mono ?_
        rintro e w2 ⟨rfl, hb⟩
        have hA := HA.out.below hb HA.out.lt
        have hB := HB.out.below hb HB.out.lt
        have hR := HR.out.below hb HR.out.lt
        obtain ⟨_, _, _, _⟩ := hA.four
        obtain ⟨_, _, _, _⟩ := hB.four
        obtain ⟨_, _, _, _⟩ := hR.four
        have hl := Hl.out.trans (hb.mono Hl.out.size)
        have HA := Lib.hid hA; have HB := Lib.hid hB; have HR := Lib.hid hR; have Hl := Lib.hid hl
        clear hb hl hA hB hR
        go_wp2
        exact bodyPost_ret (results_cell_slot rfl _ _ (w.heap.size + 2) 44 #[.int .i64 0, .int .i64 0] (0, 0) _ rfl HR.out.put2 Tryz.underlying44 rfl (by kernel_rfl)) rfl ⟨rfl, below_put2 Hl.out (by omega) _ _⟩
    · rw [decide_eq_false h1] at hX
      have HX := Lib.hid hX
      clear hX hP hin h1 hE
      go_enter Tryz.func47, Tryz.ntmps47
      go_wp2_with fail
      refine (HX.out _ Hl.out).mono ?_
      rintro e w1 ⟨rfl, hb⟩
      have hA := HA.out.below hb HA.out.lt
      have hB := HB.out.below hb HB.out.lt
      have hR := HR.out.below hb HR.out.lt
      obtain ⟨_, _, _, _⟩ := hA.four
      obtain ⟨_, _, _, _⟩ := hB.four
      obtain ⟨_, _, _, _⟩ := hR.four
      have hl := Hl.out.trans (hb.mono Hl.out.size)
      have HA := Lib.hid hA; have HB := Lib.hid hB; have HR := Lib.hid hR; have Hl := Lib.hid hl
      clear hb hl hA hB hR
      go_wp2
      exact bodyPost_ret (results_cell_slot rfl _ _ (w.heap.size + 2) 44 #[.int .i64 0, .int .i64 0] (0, 0) _ rfl HR.out.put2 Tryz.underlying44 rfl (by kernel_rfl)) rfl ⟨rfl, below_put2 Hl.out (by omega) _ _⟩
end Go.Proofs.YtehibigjdbpikaaGreatDoor
