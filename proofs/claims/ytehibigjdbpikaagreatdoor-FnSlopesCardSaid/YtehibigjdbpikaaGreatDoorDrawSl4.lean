/-
  The walks of the model's draws of slopes for the laws: a twist.
-/
import Derived.Test.YtehibigjdbpikaaGreatDoorBase
import Derived.Test.YtehibigjdbpikaaGreatDoorSlice
import Derived.Test.YtehibigjdbpikaaGreatDoorIntRow
import Derived.Test.YtehibigjdbpikaaGreatDoorInts
import Derived.Test.YtehibigjdbpikaaGreatDoorDraw
import Derived.Test.YtehibigjdbpikaaGreatDoorFmt
import Derived.Test.YtehibigjdbpikaaGreatDoorTurned
import Derived.Test.YtehibigjdbpikaaGreatDoorSl
import Derived.Test.YtehibigjdbpikaaGreatDoorSlK
import Derived.Test.YtehibigjdbpikaaGreatDoorSlB
import Derived.Test.YtehibigjdbpikaaGreatDoorSlS
import Derived.Test.YtehibigjdbpikaaGreatDoorSlTx
import Derived.Test.YtehibigjdbpikaaGreatDoorDrawSl
import Derived.Test.YtehibigjdbpikaaGreatDoorDrawSl2
import Derived.Deep.QuietTactic
import Derived.Deep.RegionHeld3
import Derived.Deep.CutRange
import Derived.Deep.RegionWith
import Derived.BigQuiet
import Derived.StillTailTactics
import Derived.OwnWalk
namespace Go.Proofs.YtehibigjdbpikaaGreatDoor
open Go.RowKit

theorem Ds.pick6 {u : Value} (hu : u ∈ intCells [1, -1, 2, 0, 20, -21]) : ∃ k : Int, u = .int .i64 k ∧ (-21 ≤ k ∧ k ≤ 20) := by
  simp only [intCells, List.map_cons, List.map_nil, List.mem_cons, List.mem_nil_iff, or_false] at hu
  rcases hu with rfl | rfl | rfl | rfl | rfl | rfl
  · exact ⟨1, rfl, by decide⟩
  · exact ⟨-1, rfl, by decide⟩
  · exact ⟨2, rfl, by decide⟩
  · exact ⟨0, rfl, by decide⟩
  · exact ⟨20, rfl, by decide⟩
  · exact ⟨-21, rfl, by decide⟩
/-- Two slopes, or numbers that are none, and how often. -/
def Ds.Tws (w : World) (e : Ending) (w' : World) : Prop := ∃ x y p q k : Int, e = .returned (.tuple #[.agg #[.int .i64 x, .int .i64 y], .agg #[.int .i64 p, .int .i64 q], .int .i64 k]) ∧ (-21 ≤ k ∧ k ≤ 20) ∧ Below w.heap.size w w'
set_option maxRecDepth 10000 in
set_option maxHeartbeats 4000000 in
theorem drawTwist (a : Option Addr) (c : Nat) (l : List Int) (w : World) (ha : RowAt w a (byteCells l)) (hb : ∀ x ∈ l, 0 ≤ x ∧ x ≤ 255) (hsz : l.length ≤ 1048576) :
    Calls Tryz.prog 46 #[.slice a l.length c] w (Ds.Tws w) := by
  obtain ⟨hA0, hB0, hl0⟩ := two_box w 0 0 0 0
  have HT := Lib.hid (l12Two a c l _ (ha.below hl0) hb hsz)
  have HN := Lib.hid (fun W (h : Below w.heap.size w W) => l1New a c l W (ha.below h) hb hsz)
  have HA0 := Lib.hid hA0; have HB0 := Lib.hid hB0; have Hl0 := Lib.hid hl0
  clear hA0 hB0 hl0 ha hb
  go_enter Tryz.func46, Tryz.ntmps46
  go_wp2_with fail
  refine HT.out.mono ?_
  rintro e w1 ⟨x, y, p, q, rfl, hb1⟩
  obtain ⟨hX, hY, hxl⟩ := two_box w1 x y p q
  have HX := Lib.hid hX; have HY := Lib.hid hY
  have HR0 := Lib.hid ((HA0.out.below hb1 HA0.out.lt).below hxl (HA0.out.below hb1 HA0.out.lt).lt)
  have HR1 := Lib.hid ((HB0.out.below hb1 HB0.out.lt).below hxl (HB0.out.below hb1 HB0.out.lt).lt)
  have n0 : w.heap.size ≠ w1.heap.size := by have := (HA0.out.below hb1 HA0.out.lt).lt; omega
  have n1 : w.heap.size ≠ w1.heap.size + 1 := by have := (HA0.out.below hb1 HA0.out.lt).lt; omega
  have n2 : w.heap.size + 1 ≠ w1.heap.size := by have := (HB0.out.below hb1 HB0.out.lt).lt; omega
  have n3 : w.heap.size + 1 ≠ w1.heap.size + 1 := by have := (HB0.out.below hb1 HB0.out.lt).lt; omega
  have Hl1 := Lib.hid ((Hl0.out.trans (hb1.mono Hl0.out.size)).trans (hxl.mono (by have := Hl0.out.size; have := hb1.size; omega)))
  clear hX hY hb1 hxl
  go_wp2_with fail
  refine (HN.out _ Hl1.out).mono ?_
  rintro e w2 ⟨g, rfl, hg1, hc2, hb2⟩
  have m0 : w1.heap.size + 1 < g := by simp at hg1; omega
  have m1 : w.heap.size + 1 < w1.heap.size := by have := HR1.out.lt; simp at this; omega
  have hgl := hc2.lt
  have Hb2 := Lib.hid hb2
  have hX2 := HX.out.below hb2 HX.out.lt
  have hY2 := HY.out.below hb2 HY.out.lt
  have hR2 := HR0.out.below hb2 HR0.out.lt
  have hS2 := HR1.out.below hb2 HR1.out.lt
  obtain ⟨_, _, _, _⟩ := hX2.four
  obtain ⟨_, _, _, _⟩ := hY2.four
  have HX2 := Lib.hid hX2; have HY2 := Lib.hid hY2; have HR2 := Lib.hid hR2; have HS2 := Lib.hid hS2
  have Hl2 := Lib.hid (Hl1.out.trans (hb2.mono Hl1.out.size))
  have Hc2 := Lib.hid hc2
  clear hX2 hY2 hR2 hS2 hb2 hc2
  go_upto_region 3 with fail
  have HXa := Lib.hid (HX2.out.alloc (.cells #[.int .i64 1, .int .i64 (-1), .int .i64 2, .int .i64 0, .int .i64 20, .int .i64 (-21)] 3)); have HYa := Lib.hid (HY2.out.alloc (.cells #[.int .i64 1, .int .i64 (-1), .int .i64 2, .int .i64 0, .int .i64 20, .int .i64 (-21)] 3)); have HRa := Lib.hid (HR2.out.alloc (.cells #[.int .i64 1, .int .i64 (-1), .int .i64 2, .int .i64 0, .int .i64 20, .int .i64 (-21)] 3)); have HSa := Lib.hid (HS2.out.alloc (.cells #[.int .i64 1, .int .i64 (-1), .int .i64 2, .int .i64 0, .int .i64 20, .int .i64 (-21)] 3))
  have Hla := Lib.hid (Hl2.out.alloc Hl2.out.size (.cells #[.int .i64 1, .int .i64 (-1), .int .i64 2, .int .i64 0, .int .i64 20, .int .i64 (-21)] 3))
  have HCd := Lib.hid (show CurAt (w2.alloc (.cells #[.int .i64 1, .int .i64 (-1), .int .i64 2, .int .i64 0, .int .i64 20, .int .i64 (-21)] 3)).drew g from Hc2.out.alloc (.cells #[.int .i64 1, .int .i64 (-1), .int .i64 2, .int .i64 0, .int .i64 20, .int .i64 (-21)] 3))
  have HZd := Lib.hid (show Blk (w2.alloc (.cells #[.int .i64 1, .int .i64 (-1), .int .i64 2, .int .i64 0, .int .i64 20, .int .i64 (-21)] 3)).drew w2.heap.size 3 (intCells [1, -1, 2, 0, 20, -21]).toArray from Blk.new w2 _ _)
  have hXd := Lib.hid (show Blk (w2.alloc (.cells #[.int .i64 1, .int .i64 (-1), .int .i64 2, .int .i64 0, .int .i64 20, .int .i64 (-21)] 3)).drew w1.heap.size 44 #[.int .i64 x, .int .i64 y] from HXa.out)
  have hYd := Lib.hid (show Blk (w2.alloc (.cells #[.int .i64 1, .int .i64 (-1), .int .i64 2, .int .i64 0, .int .i64 20, .int .i64 (-21)] 3)).drew (w1.heap.size + 1) 44 #[.int .i64 p, .int .i64 q] from HYa.out)
  have hRd := Lib.hid (show Blk (w2.alloc (.cells #[.int .i64 1, .int .i64 (-1), .int .i64 2, .int .i64 0, .int .i64 20, .int .i64 (-21)] 3)).drew w.heap.size 44 #[.int .i64 0, .int .i64 0] from HRa.out)
  have hSd := Lib.hid (show Blk (w2.alloc (.cells #[.int .i64 1, .int .i64 (-1), .int .i64 2, .int .i64 0, .int .i64 20, .int .i64 (-21)] 3)).drew (w.heap.size + 1) 44 #[.int .i64 0, .int .i64 0] from HSa.out)
  have hLd := Lib.hid (Below.drew Hla.out)
  have hLs := Lib.hid Hla.out.size
  obtain ⟨_, _, _, _⟩ := HXa.out.four
  obtain ⟨_, _, _, _⟩ := HYa.out.four
  obtain ⟨_, _, _, _⟩ := HRa.out.four
  obtain ⟨_, _, _, _⟩ := HSa.out.four
  go_region_with (go_at_call 102; refine (l1PickInt g w2.heap.size 6 [1, -1, 2, 0, 20, -21] _ HCd.out HZd.out (by omega) (by decide) (by decide)).mono ?_; rintro e w4 ⟨⟨u, hu, rfl⟩, hc4, hg4⟩; obtain ⟨k, rfl, hk2⟩ := Ds.pick6 hu; have hX4 := hXd.out.grown hg4 (by simp; omega); have hY4 := hYd.out.grown hg4 (by simp; omega); have hR4 := hRd.out.grown hg4 (by simp; omega); have hS4 := hSd.out.grown hg4 (by simp; omega); have hl4 := hLd.out.grown hg4 hLs.out (fun k hk => by cases hk; omega); obtain ⟨_, _, _, _⟩ := hX4.four; obtain ⟨_, _, _, _⟩ := hY4.four; obtain ⟨_, _, _, _⟩ := hR4.four; obtain ⟨_, _, _, _⟩ := hS4.four; have HR4 := Lib.hid hR4; have HS4 := Lib.hid hS4; have Hl4 := Lib.hid hl4; clear hX4 hY4 hR4 hS4 hl4 hc4 hg4 hu)
  all_goals
    go_wp2
    exact bodyPost_ret (results_cells2t rfl _ _ w.heap.size (w.heap.size + 1) 44 44 #[.int .i64 x, .int .i64 y] #[.int .i64 p, .int .i64 q] (0, 0) (0, 0) _ rfl rfl (HR4.out.put2.far2 (by omega) _ _) (HS4.out.far2 (by omega) _ _).put2 Tryz.underlying44 rfl (by kernel_rfl) (by kernel_rfl)) rfl ⟨x, y, p, q, k, rfl, hk2, below_put2 (below_put2 Hl4.out (Nat.le_refl _) _ _) (Nat.le_succ _) _ _⟩
end Go.Proofs.YtehibigjdbpikaaGreatDoor
