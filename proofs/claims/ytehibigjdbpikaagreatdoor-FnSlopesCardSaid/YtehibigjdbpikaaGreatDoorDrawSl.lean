/-
  The walks of the model's draws of slopes.
-/
import Derived.Test.YtehibigjdbpikaaGreatDoorBase
import Derived.Test.YtehibigjdbpikaaGreatDoorSlice
import Derived.Test.YtehibigjdbpikaaGreatDoorIntRow
import Derived.Test.YtehibigjdbpikaaGreatDoorInts
import Derived.Test.YtehibigjdbpikaaGreatDoorDraw
import Derived.Test.YtehibigjdbpikaaGreatDoorSl
import Derived.Test.YtehibigjdbpikaaGreatDoorSlK
import Derived.Test.YtehibigjdbpikaaGreatDoorSlB
import Derived.Test.YtehibigjdbpikaaGreatDoorSlS
import Derived.Deep.QuietTactic
import Derived.Deep.RegionHeld3
import Derived.Deep.CutRange
import Derived.BigQuiet
import Derived.StillTailTactics
import Derived.OwnWalk
namespace Go.Proofs.YtehibigjdbpikaaGreatDoor
open Go.RowKit

namespace Ds
theorem grown_both {w wr w1 : World} {g : Nat} {row : Option Nat} (hg : w.grownBy wr (some g)) (h1 : wr.grownBy w1 row) (hr : ∀ k, row = some k → w.heap.size ≤ k) : w.grownBy w1 (some g) :=
  ⟨h1.os.trans hg.os, h1.tape.trans hg.tape, h1.output.trans hg.output, Nat.le_trans hg.size h1.size, fun i hi hne => (h1.block i (Nat.lt_of_lt_of_le hi hg.size) (fun e => by have := hr i e.symm; omega)).trans (hg.block i hi hne)⟩
def Few (x y : Int) : Prop := x.natAbs ≤ 1001 ∧ y.natAbs ≤ 1001
/-- A slope, or two numbers that are none; the cursor goes on. -/
def SlopeGo (w : World) (g : Nat) (e : Ending) (w' : World) : Prop := ∃ x y : Int, e = .returned (.agg #[.int .i64 x, .int .i64 y]) ∧ Few x y ∧ CurAt w' g ∧ w.grownBy w' (some g)
theorem of_few (p q : Int) : Few (Sl.of p q).1 (Sl.of p q).2 := by
  by_cases h : Sl.OfOk p q
  · have := (Sl.of_is h).abs
    exact ⟨by omega, by omega⟩
  · rw [Sl.of_bad h]; exact ⟨by decide, by decide⟩
/-- Two numbers are stored into a block that was made behind the cursor. -/
theorem put {w wk : World} {g R : Nat} (hc : CurAt wk g) (hg : w.grownBy wk (some g)) (hR : w.heap.size ≤ R) (hgl : g < R) (x y : Value) :
    CurAt ((wk.setCell ⟨R, 0, none⟩ x).setCell ⟨R, 1, none⟩ y) g ∧ w.grownBy ((wk.setCell ⟨R, 0, none⟩ x).setCell ⟨R, 1, none⟩ y) (some g) := by
  have h1 : wk.grownBy (wk.setCell ⟨R, 0, none⟩ x) (some R) := only_setCell (World.grownBy.refl _ _) (Or.inl rfl) _
  have h2 : (wk.setCell ⟨R, 0, none⟩ x).grownBy ((wk.setCell ⟨R, 0, none⟩ x).setCell ⟨R, 1, none⟩ y) (some R) := only_setCell (World.grownBy.refl _ _) (Or.inl rfl) _
  have h3 := h1.trans h2
  exact ⟨hc.above h3 (fun k hk => by cases hk; exact hgl), grown_both hg h3 (fun k hk => by cases hk; exact hR)⟩
end Ds
set_option maxRecDepth 10000 in
theorem Ds.bit (b : Bool) (w : World) : Calls Tryz.prog 93 #[.bool b] w fun e w' => (∃ n : Nat, n ≤ 1 ∧ e = .returned (.int .i64 (n : Int))) ∧ w' = w := by
  cases b
  · go_enter Tryz.func93, Tryz.ntmps93
    go_wp2
    go_ret
    exact ⟨⟨0, by omega, rfl⟩, rfl⟩
  · go_enter Tryz.func93, Tryz.ntmps93
    go_wp2
    go_ret
    exact ⟨⟨1, by omega, rfl⟩, rfl⟩
set_option maxRecDepth 10000 in
set_option maxHeartbeats 2000000 in
theorem l12Draw (g : Nat) (w : World) (hc : CurAt w g) : Calls Tryz.prog 98 #[.pointer (some ⟨g, 0, none⟩)] w (Ds.SlopeGo w g) := by
  have hgl := hc.lt
  have HR := Lib.hid (Blk.new w 44 #[.int .i64 0, .int .i64 0])
  have hneR : w.heap.size ≠ g := by omega
  have hc0 := hc.alloc (.cells #[.int .i64 0, .int .i64 0] 44)
  have Hg0 := Lib.hid (World.grownBy_alloc w (.cells #[.int .i64 0, .int .i64 0] 44) (some g))
  clear hc
  go_enter Tryz.func98, Tryz.ntmps98
  go_wp2_with fail
  refine (l1Below g 25 _ hc0 (by omega) (by omega)).mono ?_
  rintro e w1 ⟨⟨x, rfl, hx0, hx1⟩, hc1, hg1⟩
  have HR1 := Lib.hid (HR.out.grown hg1 (by simpa using hneR))
  have Hg1 := Lib.hid (Hg0.out.trans hg1)
  clear hc0 hg1
  have e1 : IntKind.i64.wrap (x - 12) = x - 12 := wrap_small (by omega) (by omega)
  go_wp2_with fail
  refine (l1Below g 13 _ hc1 (by omega) (by omega)).mono ?_
  rintro e w2 ⟨⟨y, rfl, hy0, hy1⟩, hc2, hg2⟩
  have HR2 := Lib.hid (HR1.out.grown hg2 (by simpa using hneR))
  have Hg2 := Lib.hid (Hg1.out.trans hg2)
  clear hc1 hg2
  go_wp2_with fail
  refine (l1Once g 2 _ hc2 (by omega) (by omega)).mono ?_
  rintro e w3 ⟨⟨b, rfl⟩, hc3, hg3⟩
  have HR3 := Lib.hid (HR2.out.grown hg3 (by simpa using hneR))
  have Hg3 := Lib.hid (Hg2.out.trans hg3)
  have Hc3 := Lib.hid hc3
  clear hc2 hg3 hc3
  go_wp2_with fail
  refine (Ds.bit b _).mono ?_
  rintro e w4 ⟨⟨n, hn, rfl⟩, hw⟩
  rw [hw]; clear hw w4
  have e2 : IntKind.i64.wrap (y + (n : Int)) = y + (n : Int) := wrap_small (by omega) (by omega)
  go_wp2_with fail
  refine (spec_SlopeOf (x - 12) (y + (n : Int)) _).mono ?_
  have hfew := Ds.of_few (x - 12) (y + (n : Int))
  generalize Sl.of (x - 12) (y + (n : Int)) = s at *
  generalize decide (Sl.OfOk (x - 12) (y + (n : Int))) = okb at *
  have Hfew := Lib.hid hfew
  clear hfew
  rintro e w5 ⟨rfl, hb⟩
  have HR5 := Lib.hid ((HR3.out.below hb HR3.out.lt).alloc (.cells #[.int .i64 s.1, .int .i64 s.2] 44))
  have HS5 := Lib.hid (Blk.new w5 44 #[.int .i64 s.1, .int .i64 s.2])
  have hg5 := (Hg3.out.trans (only_of_below hb _)).trans (World.grownBy_alloc w5 (.cells #[.int .i64 s.1, .int .i64 s.2] 44) (some g))
  have hc5 := (Hc3.out.below hb).alloc (.cells #[.int .i64 s.1, .int .i64 s.2] 44)
  have hneS : w5.heap.size ≠ g := by have := Hg3.out.size; have := hb.size; omega
  have Hg5 := Lib.hid hg5
  clear hb hg5 hx0 hx1 hy0 hy1 e1 e2 hn
  go_wp2_with fail
  refine (l1Below g 20 _ hc5 (by omega) (by omega)).mono ?_
  rintro e w6 ⟨⟨z, rfl, hz0, hz1⟩, hc6, hg6⟩
  have hR6 := HR5.out.grown hg6 (by simpa using hneR)
  have hS6 := HS5.out.grown hg6 (by simpa using hneS)
  obtain ⟨_, _, _, _⟩ := hR6.four
  obtain ⟨_, _, _, _⟩ := hS6.four
  have HR6 := Lib.hid hR6
  have Hg6 := Lib.hid (Hg5.out.trans hg6)
  have Hc6 := Lib.hid hc6
  clear hc5 hg6 hR6 hS6 hc6
  by_cases h0 : z = 0
  · subst h0
    have hc7 := Hc6.out.alloc (.cells #[.int .i64 1, .int .i64 (-1), .int .i64 2, .int .i64 0] 3)
    go_wp2_with fail
    refine (l1PickInt g w6.heap.size 4 [1, -1, 2, 0] _ hc7 (Blk.new _ _ _) (by have := Hc6.out.lt; omega) (by decide) (by decide)).mono ?_
    rintro e w8 ⟨⟨u, hu, rfl⟩, hc8, hg8⟩
    obtain ⟨p, rfl, hp⟩ : ∃ p : Int, u = .int .i64 p ∧ p.natAbs ≤ 1001 := by
      simp only [intCells, List.map_cons, List.map_nil, List.mem_cons, List.mem_nil_iff, or_false] at hu
      rcases hu with rfl | rfl | rfl | rfl
      · exact ⟨1, rfl, by decide⟩
      · exact ⟨-1, rfl, by decide⟩
      · exact ⟨2, rfl, by decide⟩
      · exact ⟨0, rfl, by decide⟩
    have HR8 := Lib.hid ((HR6.out.alloc (.cells #[.int .i64 1, .int .i64 (-1), .int .i64 2, .int .i64 0] 3)).grown hg8 (by simpa using hneR))
    have Hg8 := Lib.hid ((Hg6.out.trans (World.grownBy_alloc _ _ _)).trans hg8)
    have Hc8 := Lib.hid hc8
    have hc9 := hc8.alloc (.cells #[.int .i64 0, .int .i64 (-1), .int .i64 2, .int .i64 1001] 3)
    clear hu hc7 hg8 hc8
    go_wp2_with fail
    refine (l1PickInt g w8.heap.size 4 [0, -1, 2, 1001] _ hc9 (Blk.new _ _ _) (by have := Hc8.out.lt; omega) (by decide) (by decide)).mono ?_
    rintro e w10 ⟨⟨u, hu, rfl⟩, hc10, hg10⟩
    obtain ⟨q, rfl, hq⟩ : ∃ q : Int, u = .int .i64 q ∧ q.natAbs ≤ 1001 := by
      simp only [intCells, List.map_cons, List.map_nil, List.mem_cons, List.mem_nil_iff, or_false] at hu
      rcases hu with rfl | rfl | rfl | rfl
      · exact ⟨0, rfl, by decide⟩
      · exact ⟨-1, rfl, by decide⟩
      · exact ⟨2, rfl, by decide⟩
      · exact ⟨1001, rfl, by decide⟩
    have hR10 := (HR8.out.alloc (.cells #[.int .i64 0, .int .i64 (-1), .int .i64 2, .int .i64 1001] 3)).grown hg10 (by simpa using hneR)
    obtain ⟨_, _, _, _⟩ := hR10.four
    have HR10 := Lib.hid hR10
    have Hg10 := Lib.hid ((Hg8.out.trans (World.grownBy_alloc _ _ _)).trans hg10)
    have Hc10 := Lib.hid hc10
    clear hu hc9 hg10 hc10 hR10
    go_wp2
    have hfin := Ds.put Hc10.out Hg10.out (Nat.le_refl _) hgl (.int .i64 p) (.int .i64 q)
    exact bodyPost_ret (results_cell_row rfl _ _ w.heap.size 44 #[.int .i64 p, .int .i64 q] (0, 0) _ rfl HR10.out.put2 Tryz.underlying44 rfl (by kernel_rfl)) rfl ⟨p, q, rfl, ⟨hp, hq⟩, hfin.1, hfin.2⟩
  · by_cases h1 : z = 1
    · subst h1
      go_wp2
      have hfin := Ds.put Hc6.out Hg6.out (Nat.le_refl _) hgl (.int .i64 1000) (.int .i64 999)
      exact bodyPost_ret (results_cell_row rfl _ _ w.heap.size 44 #[.int .i64 1000, .int .i64 999] (0, 0) _ rfl HR6.out.put2 Tryz.underlying44 rfl (by kernel_rfl)) rfl ⟨1000, 999, rfl, ⟨by decide, by decide⟩, hfin.1, hfin.2⟩
    · have t0 : (z == 0) = false := by simp [h0]
      have t1 : (z == 1) = false := by simp [h1]
      go_wp2
      have hfin := Ds.put Hc6.out Hg6.out (Nat.le_refl _) hgl (.int .i64 s.1) (.int .i64 s.2)
      exact bodyPost_ret (results_cell_row rfl _ _ w.heap.size 44 #[.int .i64 s.1, .int .i64 s.2] (0, 0) _ rfl HR6.out.put2 Tryz.underlying44 rfl (by kernel_rfl)) rfl ⟨s.1, s.2, rfl, Hfew.out, hfin.1, hfin.2⟩
end Go.Proofs.YtehibigjdbpikaaGreatDoor
