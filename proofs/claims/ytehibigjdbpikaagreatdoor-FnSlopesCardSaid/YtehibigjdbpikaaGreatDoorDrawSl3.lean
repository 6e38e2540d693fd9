/-
  The walks of the model's draws of slopes for the laws: two slopes, a twist, two numbers, a text.
-/
import Derived.Test.YtehibigjdbpikaaGreatDoorBase
import Derived.Test.YtehibigjdbpikaaGreatDoorSlice
import Derived.Test.YtehibigjdbpikaaGreatDoorIntRow
import Derived.Test.YtehibigjdbpikaaGreatDoorInts
import Derived.Test.YtehibigjdbpikaaGreatDoorDraw
import Derived.Test.YtehibigjdbpikaaGreatDoorFmt
import Derived.Test.YtehibigjdbpikaaGreatDoorTurned
import Derived.Test.YtehibigjdbpikaaGreatDoorSl
import Derived.Test.YtehibigjdbpikaaGreatDoorSlK
import Derived.Test.YtehibigjdbpikaaGreatDoorSlB
import Derived.Test.YtehibigjdbpikaaGreatDoorSlS
import Derived.Test.YtehibigjdbpikaaGreatDoorSlTx
import Derived.Test.YtehibigjdbpikaaGreatDoorDrawSl
import Derived.Test.YtehibigjdbpikaaGreatDoorDrawSl2
import Derived.Deep.QuietTactic
import Derived.Deep.RegionHeld3
import Derived.Deep.CutRange
import Derived.Deep.RegionWith
import Derived.BigQuiet
import Derived.StillTailTactics
import Derived.OwnWalk
namespace Go.Proofs.YtehibigjdbpikaaGreatDoor
open Go.RowKit

set_option maxRecDepth 10000 in
set_option maxHeartbeats 4000000 in
theorem drawCross (a : Option Addr) (c : Nat) (l : List Int) (w : World) (ha : RowAt w a (byteCells l)) (hb : ∀ x ∈ l, 0 ≤ x ∧ x ≤ 255) (hsz : l.length ≤ 1048576) :
    Calls Tryz.prog 38 #[.slice a l.length c] w (Ds.Two w) := by
  obtain ⟨hA0, hB0, hl0⟩ := two_box w 0 0 0 0
  have HT := Lib.hid (l12Two a c l _ (ha.below hl0) hb hsz)
  have HA0 := Lib.hid hA0; have HB0 := Lib.hid hB0; have Hl0 := Lib.hid hl0
  clear hA0 hB0 hl0 ha hb
  go_enter Tryz.func38, Tryz.ntmps38
  go_wp2_with fail
  refine HT.out.mono ?_
  rintro e w1 ⟨x, y, p, q, rfl, hb1⟩
  obtain ⟨hX, hY, hxl⟩ := two_box w1 x y p q
  have hR0 := (HA0.out.below hb1 HA0.out.lt).below hxl (HA0.out.below hb1 HA0.out.lt).lt
  have hR1 := (HB0.out.below hb1 HB0.out.lt).below hxl (HB0.out.below hb1 HB0.out.lt).lt
  have n0 : w.heap.size ≠ w1.heap.size := by have := (HA0.out.below hb1 HA0.out.lt).lt; omega
  have n1 : w.heap.size ≠ w1.heap.size + 1 := by have := (HA0.out.below hb1 HA0.out.lt).lt; omega
  have n2 : w.heap.size + 1 ≠ w1.heap.size := by have := (HB0.out.below hb1 HB0.out.lt).lt; omega
  have n3 : w.heap.size + 1 ≠ w1.heap.size + 1 := by have := (HB0.out.below hb1 HB0.out.lt).lt; omega
  obtain ⟨_, _, _, _⟩ := hX.four
  obtain ⟨_, _, _, _⟩ := hY.four
  obtain ⟨_, _, _, _⟩ := hR0.four
  obtain ⟨_, _, _, _⟩ := hR1.four
  have hl1 := (Hl0.out.trans (hb1.mono Hl0.out.size)).trans (hxl.mono (by have := Hl0.out.size; have := hb1.size; omega))
  have HR0 := Lib.hid hR0; have HR1 := Lib.hid hR1; have Hl1 := Lib.hid hl1
  clear hX hY hR0 hR1 hl1 hb1 hxl
  go_upto_region 2 with fail
  go_region
  all_goals
    go_wp2
    first
    | exact bodyPost_ret (results_cells2 rfl _ _ w.heap.size (w.heap.size + 1) 44 44 #[.int .i64 x, .int .i64 y] #[.int .i64 p, .int .i64 q] (0, 0) (0, 0) _ rfl rfl (HR0.out.put2.far2 (by omega) _ _) (HR1.out.far2 (by omega) _ _).put2 Tryz.underlying44 rfl (by kernel_rfl) (by kernel_rfl)) rfl ⟨x, y, p, q, rfl, below_put2 (below_put2 Hl1.out (Nat.le_refl _) _ _) (Nat.le_succ _) _ _⟩
    | exact bodyPost_ret (results_cells2 rfl _ _ w.heap.size (w.heap.size + 1) 44 44 #[.int .i64 x, .int .i64 y] #[.int .i64 p, .int .i64 q] (0, 0) (0, 0) _ rfl rfl (HR0.out.drew.put2.far2 (by omega) _ _) (HR1.out.drew.far2 (by omega) _ _).put2 Tryz.underlying44 rfl (by kernel_rfl) (by kernel_rfl)) rfl ⟨x, y, p, q, rfl, below_put2 (below_put2 (Below.drew Hl1.out) (Nat.le_refl _) _ _) (Nat.le_succ _) _ _⟩
set_option maxRecDepth 10000 in
set_option maxHeartbeats 2000000 in
theorem drawOf (a : Option Addr) (c : Nat) (l : List Int) (w : World) (ha : RowAt w a (byteCells l)) (hb : ∀ x ∈ l, 0 ≤ x ∧ x ≤ 255) (hsz : l.length ≤ 1048576) :
    Calls Tryz.prog 40 #[.slice a l.length c] w fun e w' => ∃ p q : Int, e = .returned (.tuple #[.int .i64 p, .int .i64 q]) ∧ Below w.heap.size w w' := by
  have HN := Lib.hid (l1New a c l w ha hb hsz)
  clear ha hb
  go_enter Tryz.func40, Tryz.ntmps40
  go_wp2_with fail
  refine HN.out.mono ?_
  rintro e w1 ⟨g, rfl, hg0, hc1, hb1⟩
  have Hb1 := Lib.hid hb1; clear hb1
  go_wp2_with fail
  refine (l1Below g 25 _ hc1 (by omega) (by omega)).mono ?_
  rintro e w2 ⟨⟨x, rfl, hx0, hx1⟩, hc2, hg2⟩
  have e1 : IntKind.i64.wrap (x - 12) = x - 12 := wrap_small (by omega) (by omega)
  go_wp2_with fail
  refine (l1Once g 14 _ hc2 (by omega) (by omega)).mono ?_
  rintro e w3 ⟨⟨b, rfl⟩, hc3, hg3⟩
  go_wp2_with fail
  refine (Ds.bit b _).mono ?_
  rintro e w4 ⟨⟨n, hn, rfl⟩, hw⟩
  rw [hw]; clear hw w4
  have e2 : IntKind.i64.wrap (1000 * (n : Int)) = 1000 * (n : Int) := wrap_small (by omega) (by omega)
  have e3 : IntKind.i64.wrap (x - 12 + 1000 * (n : Int)) = x - 12 + 1000 * (n : Int) := wrap_small (by omega) (by omega)
  go_wp2_with fail
  refine (l1Below g 25 _ hc3 (by omega) (by omega)).mono ?_
  rintro e w5 ⟨⟨y, rfl, hy0, hy1⟩, hc5, hg5⟩
  have e4 : IntKind.i64.wrap (y - 12) = y - 12 := wrap_small (by omega) (by omega)
  have Hl := Lib.hid (Hb1.out.grown ((hg2.trans hg3).trans hg5) Hb1.out.size (fun k hk => by cases hk; omega))
  clear hc1 hc2 hc3 hc5 hg2 hg3 hg5
  go_wp2
  go_ret2
  exact ⟨_, _, rfl, Hl.out⟩
theorem Sl.text_small (x y : Int) (h : Ds.Few x y) : (Sl.text x y).size ≤ 1000 := by
  unfold Sl.text
  split
  · have h1 := Fmt.itoa_size (n := x) (by have := h.1; omega) (by have := h.1; omega)
    have h2 := Fmt.itoa_size (n := y) (by have := h.2; omega) (by have := h.2; omega)
    rw [ByteArray.size_append, ByteArray.size_append]
    have h3 : (⟨#[47]⟩ : ByteArray).size = 1 := rfl
    omega
  · exact Nat.zero_le _
set_option maxRecDepth 10000 in
set_option maxHeartbeats 2000000 in
theorem drawText (a : Option Addr) (c : Nat) (l : List Int) (w : World) (ha : RowAt w a (byteCells l)) (hb : ∀ x ∈ l, 0 ≤ x ∧ x ≤ 255) (hsz : l.length ≤ 1048576) :
    Calls Tryz.prog 43 #[.slice a l.length c] w fun e w' => ∃ t : ByteArray, e = .returned (.string t) ∧ t.size ≤ 3000 ∧ Below w.heap.size w w' := by
  have HN := Lib.hid (l1New a c l w ha hb hsz)
  clear ha hb
  go_enter Tryz.func43, Tryz.ntmps43
  go_wp2_with fail
  refine HN.out.mono ?_
  rintro e w1 ⟨g, rfl, hg0, hc1, hb1⟩
  have Hb1 := Lib.hid hb1; clear hb1
  go_wp2_with fail
  refine (l12Draw g _ hc1).mono ?_
  rintro e w2 ⟨x, y, rfl, hfew, hc2, hg2⟩
  have Hl2 := Lib.hid (Hb1.out.grown hg2 Hb1.out.size (fun k hk => by cases hk; omega))
  have Hc2 := Lib.hid hc2
  clear hc1 hg2 hc2
  go_wp2_with fail
  refine (spec_SlopeText x y _).mono ?_
  have hts := Sl.text_small x y hfew
  generalize Sl.text x y = t at *
  rintro e w3 ⟨rfl, hb3⟩
  have hl3 := Hl2.out.trans (hb3.mono Hl2.out.size)
  have hc3 := Hc2.out.below hb3
  have Hl4 := Lib.hid (hl3.alloc hl3.size (.cells #[.string ⟨#[47]⟩, .string ⟨#[45]⟩, .string ⟨#[49]⟩, .string ⟨#[48]⟩, .string ⟨#[50]⟩] 9))
  have Hg3 := Lib.hid (show w.heap.size ≤ g ∧ g < w3.heap.size from ⟨hg0, hc3.lt⟩)
  have Hc3 := Lib.hid hc3
  clear hb3 hl3 hfew hc3
  go_wp2_with fail
  refine (l1Turned_text g w3.heap.size 5 t [⟨#[47]⟩, ⟨#[45]⟩, ⟨#[49]⟩, ⟨#[48]⟩, ⟨#[50]⟩] _ (Hc3.out.alloc _) (Blk.new _ _ _) (by have := Hg3.out; omega) (by decide) (by decide) hts (by intro x hx; simp only [List.mem_cons, List.mem_nil_iff, or_false] at hx; rcases hx with rfl | rfl | rfl | rfl | rfl <;> decide)).mono ?_
  rintro e w5 ⟨t2, rfl, ht2, hc5, hg5⟩
  have Hl5 := Lib.hid (Hl4.out.grown hg5 Hl4.out.size (fun k hk => by cases hk; exact Hg3.out.1))
  clear hc5 hg5
  go_wp2
  go_ret
  exact ⟨t2, rfl, ht2, Hl5.out⟩
end Go.Proofs.YtehibigjdbpikaaGreatDoor
