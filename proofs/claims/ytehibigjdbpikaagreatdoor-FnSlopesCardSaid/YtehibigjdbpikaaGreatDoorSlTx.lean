/-
  The walks of SlopeText, the program's and the model's.
-/
import Derived.Test.YtehibigjdbpikaaGreatDoorBase
import Derived.Test.YtehibigjdbpikaaGreatDoorSlice
import Derived.Test.YtehibigjdbpikaaGreatDoorIntRow
import Derived.Test.YtehibigjdbpikaaGreatDoorInts
import Derived.Test.YtehibigjdbpikaaGreatDoorFmt
import Derived.Test.YtehibigjdbpikaaGreatDoorNum
import Derived.Test.YtehibigjdbpikaaGreatDoorRead
import Derived.Test.YtehibigjdbpikaaGreatDoorParse
import Derived.Test.YtehibigjdbpikaaGreatDoorTw
import Derived.Test.YtehibigjdbpikaaGreatDoorTwErr
import Derived.Test.YtehibigjdbpikaaGreatDoorSl
import Derived.Test.YtehibigjdbpikaaGreatDoorSlK
import Derived.Test.YtehibigjdbpikaaGreatDoorSlA
import Derived.Test.YtehibigjdbpikaaGreatDoorSlB
import Derived.Test.YtehibigjdbpikaaGreatDoorSlS
import Derived.Deep.QuietTactic
import Derived.Deep.RegionHeld3
import Derived.Deep.CutRange
import Derived.BigQuiet
namespace Go.Proofs.YtehibigjdbpikaaGreatDoor
open Go.RowKit

/-- A slope's text. -/
def Sl.text (x y : Int) : ByteArray := if Sl.Is x y then (⟨(Lib.itoa x).toArray⟩ : ByteArray) ++ (⟨#[47]⟩ : ByteArray) ++ (⟨(Lib.itoa y).toArray⟩ : ByteArray) else ⟨#[]⟩
theorem box_go {w W W1 : World} {N : Nat} {x y : Int} {t : TypeId} (h : W.cell? ⟨N, 0, none⟩ = some (.int .i64 x) ∧ W.cell? ⟨N, 1, none⟩ = some (.int .i64 y) ∧ Blk W N t #[.int .i64 x, .int .i64 y] ∧ Below N w W) (hb : Below W.heap.size W W1) :
    W1.cell? ⟨N, 0, none⟩ = some (.int .i64 x) ∧ W1.cell? ⟨N, 1, none⟩ = some (.int .i64 y) ∧ Blk W1 N t #[.int .i64 x, .int .i64 y] ∧ Below N w W1 := by
  obtain ⟨_, _, hA, hl⟩ := h
  have hA' := hA.below hb hA.lt
  exact ⟨hA'.cell 0, hA'.cell 1, hA', hl.trans (hb.mono (Nat.le_of_lt hA.lt))⟩
theorem box_below {w W : World} {N : Nat} {x y : Int} {t : TypeId} (h : W.cell? ⟨N, 0, none⟩ = some (.int .i64 x) ∧ W.cell? ⟨N, 1, none⟩ = some (.int .i64 y) ∧ Blk W N t #[.int .i64 x, .int .i64 y] ∧ Below N w W) : Below N w W := h.2.2.2
set_option maxRecDepth 10000 in
set_option maxHeartbeats 2000000 in
theorem spec_SlopeText (x y : Int) (w : World) :
    Calls Tryz.prog 58 #[.agg #[.int .i64 x, .int .i64 y]] w fun e w' => e = .returned (.string (Sl.text x y)) ∧ Below w.heap.size w w' := by
  have hI := fun W (hb : Below w.heap.size w W) => spec_IsSlope x y W
  have hA := Blk.new w 44 #[.int .i64 x, .int .i64 y]
  have hl := (Below.refl w.heap.size w).alloc (Nat.le_refl _) (.cells #[.int .i64 x, .int .i64 y] 44)
  have HA := Lib.hid hA; have Hl := Lib.hid hl
  clear hA hl
  by_cases hs : Sl.Is x y
  · rw [show Sl.text x y = (⟨(Lib.itoa x).toArray⟩ : ByteArray) ++ (⟨#[47]⟩ : ByteArray) ++ (⟨(Lib.itoa y).toArray⟩ : ByteArray) from if_pos hs]
    rw [decide_eq_true hs] at hI
    have hb1 := hs.abs
    have hX := fun W (_ : Below w.heap.size w W) => spec_FormatInt x W (by omega) (by omega)
    have hY := fun W (_ : Below w.heap.size w W) => spec_FormatInt y W (by omega) (by omega)
    obtain ⟨S, hS, hSz⟩ : ∃ S, (⟨(Lib.itoa x).toArray⟩ : ByteArray) = S ∧ S.size ≤ 100 := ⟨_, rfl, Fmt.itoa_size (by omega) (by omega)⟩
    obtain ⟨T, hT, hTz⟩ : ∃ T, (⟨(Lib.itoa y).toArray⟩ : ByteArray) = T ∧ T.size ≤ 100 := ⟨_, rfl, Fmt.itoa_size (by omega) (by omega)⟩
    rw [hS] at hX; rw [hT] at hY; rw [hS, hT]
    have HI := Lib.hid hI; have HX := Lib.hid hX; have HY := Lib.hid hY
    have hq1 : ¬ 9223372036854775807 < S.size + 1 := by omega
    have hq2 : ¬ 9223372036854775807 < S.size + 1 + T.size := by omega
    clear hI hX hY hS hT hs hb1
    generalize hN : w.heap.size = N at *
    have HN := Lib.hid hN
    go_enter Tryz.func58, Tryz.ntmps58
    go_wp2_with fail
    refine (HI.out _ Hl.out).mono ?_
    rintro e w1 ⟨rfl, hb⟩
    have hA := HA.out.below hb HA.out.lt
    have hl := Hl.out.trans (hb.mono (by have := Hl.out.size; have := HA.out.lt; omega))
    obtain ⟨_, _, _, _⟩ := hA.four
    have HA1 := Lib.hid hA; have Hl1 := Lib.hid hl
    clear hb hA hl
    go_upto_region 3 with fail
    have hS0 := And.intro (HA1.out.cell 0) (And.intro (HA1.out.cell 1) (And.intro HA1.out Hl1.out))
    go_region_held3 (fun w' => w'.cell? ⟨N, 0, none⟩ = some (.int .i64 x) ∧ w'.cell? ⟨N, 1, none⟩ = some (.int .i64 y) ∧ Blk w' N 44 #[.int .i64 x, .int .i64 y] ∧ Below N w w') (first | (with_reducible assumption) | (with_reducible exact box_go hS0 (Below.drew (Below.refl _ _))) | (with_reducible exact box_go hS0 (below_drewN (Below.refl _ _) _)))
      (first
      | (go_at_call_of 86 x; refine (HX.out _ (box_below (x := x) (y := y) (by assumption))).mono ?_; rintro e w3 ⟨rfl, hb3⟩; have hS3 := box_go (by assumption) hb3)
      | (go_at_call_of 86 y; refine (HY.out _ (box_below (x := x) (y := y) (by assumption))).mono ?_; rintro e w4 ⟨rfl, hb4⟩; have hS4 := box_go (by assumption) hb4))
    all_goals
      have Hl5 := Lib.hid (box_below hS4)
      go_wp2
      go_ret
      exact ⟨rfl, Hl5.out⟩
  · rw [show Sl.text x y = (⟨#[]⟩ : ByteArray) from if_neg hs]
    rw [decide_eq_false hs] at hI
    have HI := Lib.hid hI
    clear hI hs
    go_enter Tryz.func58, Tryz.ntmps58
    go_wp2_with fail
    refine (HI.out _ Hl.out).mono ?_
    rintro e w1 ⟨rfl, hb⟩
    have Hl1 := Lib.hid (Hl.out.trans (hb.mono Hl.out.size))
    clear hb
    go_wp2
    go_ret
    exact ⟨rfl, Hl1.out⟩
set_option maxRecDepth 10000 in
set_option maxHeartbeats 2000000 in
theorem impl_SlopeText (x y : Int) (w : World) (hE : Errs w) (hL : Lib.TabIs Tryz.prog w "internal/strconv.uint64pow10" .u64 Lib.pow10Tab) :
    Calls Tryz.prog 57 #[.agg #[.int .i64 x, .int .i64 y]] w fun e w' => e = .returned (.string (Sl.text x y)) ∧ Below w.heap.size w w' := by
  have hI := fun W (hb : Below w.heap.size w W) => impl_IsSlope x y W (hE.keeps hb)
  have hA := Blk.new w 44 #[.int .i64 x, .int .i64 y]
  have hl := (Below.refl w.heap.size w).alloc (Nat.le_refl _) (.cells #[.int .i64 x, .int .i64 y] 44)
  have HA := Lib.hid hA; have Hl := Lib.hid hl
  clear hA hl
  by_cases hs : Sl.Is x y
  · rw [show Sl.text x y = (⟨(Lib.itoa x).toArray⟩ : ByteArray) ++ (⟨#[47]⟩ : ByteArray) ++ (⟨(Lib.itoa y).toArray⟩ : ByteArray) from if_pos hs]
    rw [decide_eq_true hs] at hI
    have hb1 := hs.abs
    have hX := fun W (hb : Below w.heap.size w W) => impl_FormatInt x (by omega) (by omega) W (var_keeps hb gTab hL)
    have hY := fun W (hb : Below w.heap.size w W) => impl_FormatInt y (by omega) (by omega) W (var_keeps hb gTab hL)
    obtain ⟨S, hS, hSz⟩ : ∃ S, (⟨(Lib.itoa x).toArray⟩ : ByteArray) = S ∧ S.size ≤ 100 := ⟨_, rfl, Fmt.itoa_size (by omega) (by omega)⟩
    obtain ⟨T, hT, hTz⟩ : ∃ T, (⟨(Lib.itoa y).toArray⟩ : ByteArray) = T ∧ T.size ≤ 100 := ⟨_, rfl, Fmt.itoa_size (by omega) (by omega)⟩
    rw [hS] at hX; rw [hT] at hY; rw [hS, hT]
    have HI := Lib.hid hI; have HX := Lib.hid hX; have HY := Lib.hid hY
    have hq1 : ¬ 9223372036854775807 < S.size + 1 := by omega
    have hq2 : ¬ 9223372036854775807 < S.size + 1 + T.size := by omega
    clear hI hX hY hS hT hs hb1 hE hL
    generalize hN : w.heap.size = N at *
    have HN := Lib.hid hN
    go_enter Tryz.func57, Tryz.ntmps57
    go_wp2_with fail
    refine (HI.out _ Hl.out).mono ?_
    rintro e w1 ⟨rfl, hb⟩
    have hA := HA.out.below hb HA.out.lt
    have hl := Hl.out.trans (hb.mono (by have := Hl.out.size; have := HA.out.lt; omega))
    obtain ⟨_, _, _, _⟩ := hA.four
    have HA1 := Lib.hid hA; have Hl1 := Lib.hid hl
    clear hb hA hl
    go_upto_region 3 with fail
    have hS0 := And.intro (HA1.out.cell 0) (And.intro (HA1.out.cell 1) (And.intro HA1.out Hl1.out))
    go_region_held3 (fun w' => w'.cell? ⟨N, 0, none⟩ = some (.int .i64 x) ∧ w'.cell? ⟨N, 1, none⟩ = some (.int .i64 y) ∧ Blk w' N 44 #[.int .i64 x, .int .i64 y] ∧ Below N w w') (first | (with_reducible assumption) | (with_reducible exact box_go hS0 (Below.drew (Below.refl _ _))) | (with_reducible exact box_go hS0 (below_drewN (Below.refl _ _) _)))
      (first
      | (go_at_call_of 84 x; refine (HX.out _ (box_below (x := x) (y := y) (by assumption))).mono ?_; rintro e w3 ⟨rfl, hb3⟩; have hS3 := box_go (by assumption) hb3)
      | (go_at_call_of 84 y; refine (HY.out _ (box_below (x := x) (y := y) (by assumption))).mono ?_; rintro e w4 ⟨rfl, hb4⟩; have hS4 := box_go (by assumption) hb4))
    all_goals
      have Hl5 := Lib.hid (box_below hS4)
      go_wp2
      go_ret
      exact ⟨rfl, Hl5.out⟩
  · rw [show Sl.text x y = (⟨#[]⟩ : ByteArray) from if_neg hs]
    rw [decide_eq_false hs] at hI
    have HI := Lib.hid hI
    clear hI hs hE hL
    go_enter Tryz.func57, Tryz.ntmps57
    go_wp2_with fail
    refine (HI.out _ Hl.out).mono ?_
    rintro e w1 ⟨rfl, hb⟩
    have Hl1 := Lib.hid (Hl.out.trans (hb.mono Hl.out.size))
    clear hb
    go_wp2
    go_ret
    exact ⟨rfl, Hl1.out⟩
end Go.Proofs.YtehibigjdbpikaaGreatDoor
