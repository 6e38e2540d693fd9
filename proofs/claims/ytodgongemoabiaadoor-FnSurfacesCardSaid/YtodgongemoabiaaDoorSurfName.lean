/-
  Names of surfaces: what the document says, and the walks of the program's and the model's SurfaceName.
-/
import Derived.Test.YtodgongemoabiaaDoorBase
import Derived.Test.YtodgongemoabiaaDoorLow
import Derived.Test.YtodgongemoabiaaDoorSlice
import Derived.Test.YtodgongemoabiaaDoorIntRow
import Derived.Test.YtodgongemoabiaaDoorSurf
import Derived.Test.YtodgongemoabiaaDoorSurfI
import Derived.Test.YtodgongemoabiaaDoorSurfSum
import Derived.Test.YtodgongemoabiaaDoorFmt
import Derived.Test.YtodgongemoabiaaDoorShelfItoa
import Derived.Deep.RegionHeld3
import Derived.Deep.Cut
import Derived.Laws.Rows
namespace Go.Proofs.YtodgongemoabiaaDoor
open Go.RowKit

theorem gTab : Tryd.prog.globalNamed "internal/strconv.uint64pow10" = some 0 := by kernel_rfl
abbrev Tab (w : World) : Prop := Lib.TabIs Tryd.prog w "internal/strconv.uint64pow10" .u64 Lib.pow10Tab
theorem impl_FormatInt (n : Int) (h0 : -9223372036854775808 ≤ n) (h1 : n ≤ 9223372036854775807) (w : World) (htab : Tab w) :
    Calls Tryd.prog 49 #[.int .i64 n] w fun e w' => e = .returned (.string ⟨(Lib.itoa n).toArray⟩) ∧ Below w.heap.size w w' := by
  go_enter Tryd.func49, Tryd.ntmps49
  go_wp2_with fail
  refine (Tryd.strconv_Itoa n h0 h1 _ htab).mono ?_
  rintro e w' ⟨rfl, k, os, rfl⟩
  go_wp2_with fail
  go_ret
  exact ⟨rfl, below_grow (below_drewN (Below.refl _ _) k) (Nat.le_refl _) os⟩
theorem tab_size {w : World} (htab : Tab w) : 0 < w.heap.size := by
  have h := htab
  unfold Tab Lib.TabIs World.var? at h
  simp only [gTab, Option.bind_some] at h
  rcases Nat.lt_or_ge 0 w.heap.size with hl | hl
  · exact hl
  · rw [Array.getElem?_eq_none hl] at h
    cases h
theorem Tab.below {w w' : World} (h : Tab w) (hb : Below w.heap.size w w') : Tab w' := var_below hb gTab (tab_size h) h

namespace Surf
def dec (n : Int) : ByteArray := ⟨(Lib.itoa n).toArray⟩
/-- The name without the borders. -/
def base (x y : Int) : ByteArray :=
  if x = 1 then ⟨#[116, 111, 114, 117, 115]⟩ else if x = 2 then ⟨#[100, 111, 117, 98, 108, 101, 32, 116, 111, 114, 117, 115]⟩ else if 2 < x then dec x ++ ⟨#[32, 104, 97, 110, 100, 108, 101, 115]⟩
  else if y = 1 then ⟨#[112, 114, 111, 106, 101, 99, 116, 105, 118, 101, 32, 112, 108, 97, 110, 101]⟩ else if y = 2 then ⟨#[107, 108, 101, 105, 110, 32, 98, 111, 116, 116, 108, 101]⟩ else if 2 < y then dec y ++ ⟨#[32, 99, 114, 111, 115, 115, 99, 97, 112, 115]⟩ else ⟨#[115, 112, 104, 101, 114, 101]⟩
def named (x y z : Int) : ByteArray := if Is x y z then (if 0 < z then base x y ++ ⟨#[32, 109, 105, 110, 117, 115, 32]⟩ ++ dec z else base x y) else ⟨#[]⟩
end Surf
theorem four_keep {w0 W w1 : World} {b : Nat} {b' : Nat} {x y z z' : Int} (h : W.cell? ⟨b, 0, none⟩ = some (.int .i64 x) ∧ W.cell? ⟨b, 1, none⟩ = some (.int .i64 y) ∧ W.cell? ⟨b, 2, none⟩ = some (.int .i64 z) ∧ W.cell? ⟨b', 2, none⟩ = some (.int .i64 z') ∧ Below w0.heap.size w0 W)
    (hp : b < w0.heap.size) (hp' : b' < w0.heap.size) (hb : Below W.heap.size W w1) :
    w1.cell? ⟨b, 0, none⟩ = some (.int .i64 x) ∧ w1.cell? ⟨b, 1, none⟩ = some (.int .i64 y) ∧ w1.cell? ⟨b, 2, none⟩ = some (.int .i64 z) ∧ w1.cell? ⟨b', 2, none⟩ = some (.int .i64 z') ∧ Below w0.heap.size w0 w1 := by
  obtain ⟨h0, h1, h2, h3, h4⟩ := h
  have hl := Nat.lt_of_lt_of_le hp h4.size
  have hl' := Nat.lt_of_lt_of_le hp' h4.size
  exact ⟨by rw [hb.cell (p := ⟨b, 0, none⟩) hl]; exact h0, by rw [hb.cell (p := ⟨b, 1, none⟩) hl]; exact h1, by rw [hb.cell (p := ⟨b, 2, none⟩) hl]; exact h2, by rw [hb.cell (p := ⟨b', 2, none⟩) hl']; exact h3, h4.trans (hb.mono h4.size)⟩

set_option maxRecDepth 10000 in
set_option maxHeartbeats 1000000 in
theorem impl_name0 (w : World) (htab : Tab w) :
    Calls Tryd.prog 48 #[.agg #[.int .i64 1, .int .i64 0, .int .i64 0]] w fun e w' => e = .returned (.string (⟨#[116, 111, 114, 117, 115]⟩)) ∧ Below w.heap.size w w' := by
  clear htab
  go_enter Tryd.func48, Tryd.ntmps48
  go_wp2
  go_ret
  exact ⟨rfl, (Below.refl w.heap.size w).alloc (Nat.le_refl _) _⟩
set_option maxRecDepth 10000 in
set_option maxHeartbeats 1000000 in
theorem impl_name1 (w : World) (htab : Tab w) :
    Calls Tryd.prog 48 #[.agg #[.int .i64 2, .int .i64 0, .int .i64 0]] w fun e w' => e = .returned (.string (⟨#[100, 111, 117, 98, 108, 101, 32, 116, 111, 114, 117, 115]⟩)) ∧ Below w.heap.size w w' := by
  clear htab
  go_enter Tryd.func48, Tryd.ntmps48
  go_wp2
  go_ret
  exact ⟨rfl, (Below.refl w.heap.size w).alloc (Nat.le_refl _) _⟩
set_option maxRecDepth 10000 in
set_option maxHeartbeats 1000000 in
theorem impl_name2 (x : Int) (h0 : 2 < x) (h1 : x ≤ 20) (w : World) (htab : Tab w) :
    Calls Tryd.prog 48 #[.agg #[.int .i64 x, .int .i64 0, .int .i64 0]] w fun e w' => e = .returned (.string (Surf.dec x ++ ⟨#[32, 104, 97, 110, 100, 108, 101, 115]⟩)) ∧ Below w.heap.size w w' := by
  have f0 : (x == 0) = false := by rw [beq_eq_false_iff_ne]; omega
  have f1 : (x == 1) = false := by rw [beq_eq_false_iff_ne]; omega
  have f2 : (x == 2) = false := by rw [beq_eq_false_iff_ne]; omega
  have f3 : decide (2 < x) = true := decide_eq_true (by omega)
  have f4 : decide (0 < x) = true := decide_eq_true (by omega)
  obtain ⟨S, hS, hSz⟩ : ∃ S, Surf.dec x = S ∧ S.size ≤ 100 := ⟨_, rfl, Fmt.itoa_size (by omega) (by omega)⟩
  have hf := fun W (ht : Tab W) => impl_FormatInt x (by omega) (by omega) W ht
  rw [show (⟨(Lib.itoa x).toArray⟩ : ByteArray) = S from hS] at hf
  rw [hS]
  have Hf := Lib.hid hf
  have Ht := Lib.hid htab
  clear h0 h1 htab hf hS
  go_enter Tryd.func48, Tryd.ntmps48
  go_wp2_with fail
  refine (Hf.out _ (Ht.out.below ((Below.refl _ _).alloc (Nat.le_refl _) _))).mono ?_
  rintro e w1 ⟨rfl, hb1⟩
  go_wp2
  go_ret
  exact ⟨rfl, ((Below.refl w.heap.size w).alloc (Nat.le_refl _) _).trans (hb1.mono (by simp))⟩
set_option maxRecDepth 10000 in
set_option maxHeartbeats 1000000 in
theorem impl_name3 (w : World) (htab : Tab w) :
    Calls Tryd.prog 48 #[.agg #[.int .i64 0, .int .i64 0, .int .i64 0]] w fun e w' => e = .returned (.string (⟨#[115, 112, 104, 101, 114, 101]⟩)) ∧ Below w.heap.size w w' := by
  clear htab
  go_enter Tryd.func48, Tryd.ntmps48
  go_wp2
  go_ret
  exact ⟨rfl, (Below.refl w.heap.size w).alloc (Nat.le_refl _) _⟩
set_option maxRecDepth 10000 in
set_option maxHeartbeats 1000000 in
theorem impl_name4 (w : World) (htab : Tab w) :
    Calls Tryd.prog 48 #[.agg #[.int .i64 0, .int .i64 1, .int .i64 0]] w fun e w' => e = .returned (.string (⟨#[112, 114, 111, 106, 101, 99, 116, 105, 118, 101, 32, 112, 108, 97, 110, 101]⟩)) ∧ Below w.heap.size w w' := by
  clear htab
  go_enter Tryd.func48, Tryd.ntmps48
  go_wp2
  go_ret
  exact ⟨rfl, (Below.refl w.heap.size w).alloc (Nat.le_refl _) _⟩
set_option maxRecDepth 10000 in
set_option maxHeartbeats 1000000 in
theorem impl_name5 (w : World) (htab : Tab w) :
    Calls Tryd.prog 48 #[.agg #[.int .i64 0, .int .i64 2, .int .i64 0]] w fun e w' => e = .returned (.string (⟨#[107, 108, 101, 105, 110, 32, 98, 111, 116, 116, 108, 101]⟩)) ∧ Below w.heap.size w w' := by
  clear htab
  go_enter Tryd.func48, Tryd.ntmps48
  go_wp2
  go_ret
  exact ⟨rfl, (Below.refl w.heap.size w).alloc (Nat.le_refl _) _⟩
set_option maxRecDepth 10000 in
set_option maxHeartbeats 1000000 in
theorem impl_name6 (y : Int) (h0 : 2 < y) (h1 : y ≤ 20) (w : World) (htab : Tab w) :
    Calls Tryd.prog 48 #[.agg #[.int .i64 0, .int .i64 y, .int .i64 0]] w fun e w' => e = .returned (.string (Surf.dec y ++ ⟨#[32, 99, 114, 111, 115, 115, 99, 97, 112, 115]⟩)) ∧ Below w.heap.size w w' := by
  have f0 : (y == 0) = false := by rw [beq_eq_false_iff_ne]; omega
  have f1 : (y == 1) = false := by rw [beq_eq_false_iff_ne]; omega
  have f2 : (y == 2) = false := by rw [beq_eq_false_iff_ne]; omega
  have f3 : decide (2 < y) = true := decide_eq_true (by omega)
  have f4 : decide (0 < y) = true := decide_eq_true (by omega)
  obtain ⟨S, hS, hSz⟩ : ∃ S, Surf.dec y = S ∧ S.size ≤ 100 := ⟨_, rfl, Fmt.itoa_size (by omega) (by omega)⟩
  have hf := fun W (ht : Tab W) => impl_FormatInt y (by omega) (by omega) W ht
  rw [show (⟨(Lib.itoa y).toArray⟩ : ByteArray) = S from hS] at hf
  rw [hS]
  have Hf := Lib.hid hf
  have Ht := Lib.hid htab
  clear h0 h1 htab hf hS
  go_enter Tryd.func48, Tryd.ntmps48
  go_wp2_with fail
  refine (Hf.out _ (Ht.out.below ((Below.refl _ _).alloc (Nat.le_refl _) _))).mono ?_
  rintro e w1 ⟨rfl, hb1⟩
  go_wp2
  go_ret
  exact ⟨rfl, ((Below.refl w.heap.size w).alloc (Nat.le_refl _) _).trans (hb1.mono (by simp))⟩
set_option maxRecDepth 10000 in
set_option maxHeartbeats 2000000 in
theorem spec_name0_0 (w : World) (hI : ∀ W, Calls Tryd.prog 24 #[.agg #[.int .i64 1, .int .i64 0, .int .i64 0]] W fun e w' => e = .returned (.bool true) ∧ Below W.heap.size W w') :
    Calls Tryd.prog 28 #[.agg #[.int .i64 1, .int .i64 0, .int .i64 0]] w fun e w' => e = .returned (.string (⟨#[116, 111, 114, 117, 115]⟩)) ∧ Below w.heap.size w w' := by
  have HI := Lib.hid hI; clear hI
  generalize hN : w.heap.size = N at *
  have HN := Lib.hid hN
  go_enter Tryd.func28, Tryd.ntmps28
  go_wp2_with fail
  refine (HI.out _).mono ?_
  rintro e w1 ⟨rfl, hb1⟩
  obtain ⟨hA, hl⟩ := Blk.of1 HN.out hb1 (by have := HN.out; simp; omega)
  obtain ⟨_, _, _, _, _, _⟩ := hA.six
  have HA1 := Lib.hid hA; have Hl1 := Lib.hid hl
  clear hA hl hb1
  go_wp2
  go_ret
  exact ⟨rfl, Hl1.out⟩
set_option maxRecDepth 10000 in
set_option maxHeartbeats 2000000 in
theorem spec_name0_1 (z : Int) (z0 : 0 < z) (z1 : z ≤ 20) (w : World) (hI : ∀ W, Calls Tryd.prog 24 #[.agg #[.int .i64 1, .int .i64 0, .int .i64 z]] W fun e w' => e = .returned (.bool true) ∧ Below W.heap.size W w') :
    Calls Tryd.prog 28 #[.agg #[.int .i64 1, .int .i64 0, .int .i64 z]] w fun e w' => e = .returned (.string ((⟨#[116, 111, 114, 117, 115]⟩) ++ ⟨#[32, 109, 105, 110, 117, 115, 32]⟩ ++ Surf.dec z)) ∧ Below w.heap.size w w' := by
  have g0 : decide (0 < z) = true := decide_eq_true z0
  have HI := Lib.hid hI; clear hI
  obtain ⟨T, hT, hTz⟩ : ∃ T, Surf.dec z = T ∧ T.size ≤ 100 := ⟨_, rfl, Fmt.itoa_size (by omega) (by omega)⟩
  have hfT := fun W => spec_FormatInt z W (by omega) (by omega)
  rw [show (⟨(Lib.itoa z).toArray⟩ : ByteArray) = T from hT] at hfT
  rw [hT]
  have Hz := Lib.hid hfT
  clear hfT hT
  clear z0 z1
  generalize hN : w.heap.size = N at *
  have HN := Lib.hid hN
  go_enter Tryd.func28, Tryd.ntmps28
  go_wp2_with fail
  refine (HI.out _).mono ?_
  rintro e w1 ⟨rfl, hb1⟩
  obtain ⟨hA, hl⟩ := Blk.of1 HN.out hb1 (by have := HN.out; simp; omega)
  obtain ⟨_, _, _, _, _, _⟩ := hA.six
  have HA1 := Lib.hid hA; have Hl1 := Lib.hid hl
  clear hA hl hb1
  go_wp2_with fail
  refine (Hz.out _).mono ?_
  rintro e w2 ⟨rfl, hb2⟩
  have hA := HA1.out.below hb2 HA1.out.lt
  have hl := Hl1.out.trans (hb2.mono (Nat.le_of_lt HA1.out.lt))
  obtain ⟨_, _, _, _, _, _⟩ := hA.six
  have HA2 := Lib.hid hA; have Hl2 := Lib.hid hl
  clear hA hl hb2 HA1 Hl1
  go_wp2
  go_ret
  exact ⟨rfl, Hl2.out⟩
set_option maxRecDepth 10000 in
set_option maxHeartbeats 2000000 in
theorem spec_name1_0 (w : World) (hI : ∀ W, Calls Tryd.prog 24 #[.agg #[.int .i64 2, .int .i64 0, .int .i64 0]] W fun e w' => e = .returned (.bool true) ∧ Below W.heap.size W w') :
    Calls Tryd.prog 28 #[.agg #[.int .i64 2, .int .i64 0, .int .i64 0]] w fun e w' => e = .returned (.string (⟨#[100, 111, 117, 98, 108, 101, 32, 116, 111, 114, 117, 115]⟩)) ∧ Below w.heap.size w w' := by
  have HI := Lib.hid hI; clear hI
  generalize hN : w.heap.size = N at *
  have HN := Lib.hid hN
  go_enter Tryd.func28, Tryd.ntmps28
  go_wp2_with fail
  refine (HI.out _).mono ?_
  rintro e w1 ⟨rfl, hb1⟩
  obtain ⟨hA, hl⟩ := Blk.of1 HN.out hb1 (by have := HN.out; simp; omega)
  obtain ⟨_, _, _, _, _, _⟩ := hA.six
  have HA1 := Lib.hid hA; have Hl1 := Lib.hid hl
  clear hA hl hb1
  go_wp2
  go_ret
  exact ⟨rfl, Hl1.out⟩
set_option maxRecDepth 10000 in
set_option maxHeartbeats 2000000 in
theorem spec_name1_1 (z : Int) (z0 : 0 < z) (z1 : z ≤ 20) (w : World) (hI : ∀ W, Calls Tryd.prog 24 #[.agg #[.int .i64 2, .int .i64 0, .int .i64 z]] W fun e w' => e = .returned (.bool true) ∧ Below W.heap.size W w') :
    Calls Tryd.prog 28 #[.agg #[.int .i64 2, .int .i64 0, .int .i64 z]] w fun e w' => e = .returned (.string ((⟨#[100, 111, 117, 98, 108, 101, 32, 116, 111, 114, 117, 115]⟩) ++ ⟨#[32, 109, 105, 110, 117, 115, 32]⟩ ++ Surf.dec z)) ∧ Below w.heap.size w w' := by
  have g0 : decide (0 < z) = true := decide_eq_true z0
  have HI := Lib.hid hI; clear hI
  obtain ⟨T, hT, hTz⟩ : ∃ T, Surf.dec z = T ∧ T.size ≤ 100 := ⟨_, rfl, Fmt.itoa_size (by omega) (by omega)⟩
  have hfT := fun W => spec_FormatInt z W (by omega) (by omega)
  rw [show (⟨(Lib.itoa z).toArray⟩ : ByteArray) = T from hT] at hfT
  rw [hT]
  have Hz := Lib.hid hfT
  clear hfT hT
  clear z0 z1
  generalize hN : w.heap.size = N at *
  have HN := Lib.hid hN
  go_enter Tryd.func28, Tryd.ntmps28
  go_wp2_with fail
  refine (HI.out _).mono ?_
  rintro e w1 ⟨rfl, hb1⟩
  obtain ⟨hA, hl⟩ := Blk.of1 HN.out hb1 (by have := HN.out; simp; omega)
  obtain ⟨_, _, _, _, _, _⟩ := hA.six
  have HA1 := Lib.hid hA; have Hl1 := Lib.hid hl
  clear hA hl hb1
  go_wp2_with fail
  refine (Hz.out _).mono ?_
  rintro e w2 ⟨rfl, hb2⟩
  have hA := HA1.out.below hb2 HA1.out.lt
  have hl := Hl1.out.trans (hb2.mono (Nat.le_of_lt HA1.out.lt))
  obtain ⟨_, _, _, _, _, _⟩ := hA.six
  have HA2 := Lib.hid hA; have Hl2 := Lib.hid hl
  clear hA hl hb2 HA1 Hl1
  go_wp2
  go_ret
  exact ⟨rfl, Hl2.out⟩
set_option maxRecDepth 10000 in
set_option maxHeartbeats 2000000 in
theorem spec_name2_0 (x : Int) (h0 : 2 < x) (h1 : x ≤ 20) (w : World) (hI : ∀ W, Calls Tryd.prog 24 #[.agg #[.int .i64 x, .int .i64 0, .int .i64 0]] W fun e w' => e = .returned (.bool true) ∧ Below W.heap.size W w') :
    Calls Tryd.prog 28 #[.agg #[.int .i64 x, .int .i64 0, .int .i64 0]] w fun e w' => e = .returned (.string (Surf.dec x ++ ⟨#[32, 104, 97, 110, 100, 108, 101, 115]⟩)) ∧ Below w.heap.size w w' := by
  have f0 : (x == 0) = false := by rw [beq_eq_false_iff_ne]; omega
  have f1 : (x == 1) = false := by rw [beq_eq_false_iff_ne]; omega
  have f2 : (x == 2) = false := by rw [beq_eq_false_iff_ne]; omega
  have f3 : decide (2 < x) = true := decide_eq_true (by omega)
  have f4 : decide (0 < x) = true := decide_eq_true (by omega)
  have HI := Lib.hid hI; clear hI
  obtain ⟨S, hS, hSz⟩ : ∃ S, Surf.dec x = S ∧ S.size ≤ 100 := ⟨_, rfl, Fmt.itoa_size (by omega) (by omega)⟩
  have hfS := fun W => spec_FormatInt x W (by omega) (by omega)
  rw [show (⟨(Lib.itoa x).toArray⟩ : ByteArray) = S from hS] at hfS
  rw [hS]
  have Hf := Lib.hid hfS
  clear hfS hS
  clear h0 h1
  generalize hN : w.heap.size = N at *
  have HN := Lib.hid hN
  go_enter Tryd.func28, Tryd.ntmps28
  go_wp2_with fail
  refine (HI.out _).mono ?_
  rintro e w1 ⟨rfl, hb1⟩
  obtain ⟨hA, hl⟩ := Blk.of1 HN.out hb1 (by have := HN.out; simp; omega)
  obtain ⟨_, _, _, _, _, _⟩ := hA.six
  have HA1 := Lib.hid hA; have Hl1 := Lib.hid hl
  clear hA hl hb1
  go_wp2_with fail
  refine (Hf.out _).mono ?_
  rintro e w2 ⟨rfl, hb2⟩
  have hA := HA1.out.below hb2 HA1.out.lt
  have hl := Hl1.out.trans (hb2.mono (Nat.le_of_lt HA1.out.lt))
  obtain ⟨_, _, _, _, _, _⟩ := hA.six
  have HA2 := Lib.hid hA; have Hl2 := Lib.hid hl
  clear hA hl hb2 HA1 Hl1
  go_wp2
  go_ret
  exact ⟨rfl, Hl2.out⟩
set_option maxRecDepth 10000 in
set_option maxHeartbeats 2000000 in
theorem spec_name2_1 (x : Int) (h0 : 2 < x) (h1 : x ≤ 20) (z : Int) (z0 : 0 < z) (z1 : z ≤ 20) (w : World) (hI : ∀ W, Calls Tryd.prog 24 #[.agg #[.int .i64 x, .int .i64 0, .int .i64 z]] W fun e w' => e = .returned (.bool true) ∧ Below W.heap.size W w') :
    Calls Tryd.prog 28 #[.agg #[.int .i64 x, .int .i64 0, .int .i64 z]] w fun e w' => e = .returned (.string ((Surf.dec x ++ ⟨#[32, 104, 97, 110, 100, 108, 101, 115]⟩) ++ ⟨#[32, 109, 105, 110, 117, 115, 32]⟩ ++ Surf.dec z)) ∧ Below w.heap.size w w' := by
  have f0 : (x == 0) = false := by rw [beq_eq_false_iff_ne]; omega
  have f1 : (x == 1) = false := by rw [beq_eq_false_iff_ne]; omega
  have f2 : (x == 2) = false := by rw [beq_eq_false_iff_ne]; omega
  have f3 : decide (2 < x) = true := decide_eq_true (by omega)
  have f4 : decide (0 < x) = true := decide_eq_true (by omega)
  have g0 : decide (0 < z) = true := decide_eq_true z0
  have HI := Lib.hid hI; clear hI
  obtain ⟨S, hS, hSz⟩ : ∃ S, Surf.dec x = S ∧ S.size ≤ 100 := ⟨_, rfl, Fmt.itoa_size (by omega) (by omega)⟩
  have hfS := fun W => spec_FormatInt x W (by omega) (by omega)
  rw [show (⟨(Lib.itoa x).toArray⟩ : ByteArray) = S from hS] at hfS
  rw [hS]
  have Hf := Lib.hid hfS
  clear hfS hS
  obtain ⟨T, hT, hTz⟩ : ∃ T, Surf.dec z = T ∧ T.size ≤ 100 := ⟨_, rfl, Fmt.itoa_size (by omega) (by omega)⟩
  have hfT := fun W => spec_FormatInt z W (by omega) (by omega)
  rw [show (⟨(Lib.itoa z).toArray⟩ : ByteArray) = T from hT] at hfT
  rw [hT]
  have Hz := Lib.hid hfT
  clear hfT hT
  clear h0 h1
  clear z0 z1
  generalize hN : w.heap.size = N at *
  have HN := Lib.hid hN
  go_enter Tryd.func28, Tryd.ntmps28
  go_wp2_with fail
  refine (HI.out _).mono ?_
  rintro e w1 ⟨rfl, hb1⟩
  obtain ⟨hA, hl⟩ := Blk.of1 HN.out hb1 (by have := HN.out; simp; omega)
  obtain ⟨_, _, _, _, _, _⟩ := hA.six
  have HA1 := Lib.hid hA; have Hl1 := Lib.hid hl
  clear hA hl hb1
  go_wp2_with fail
  refine (Hf.out _).mono ?_
  rintro e w2 ⟨rfl, hb2⟩
  have hA := HA1.out.below hb2 HA1.out.lt
  have hl := Hl1.out.trans (hb2.mono (Nat.le_of_lt HA1.out.lt))
  obtain ⟨_, _, _, _, _, _⟩ := hA.six
  have HA2 := Lib.hid hA; have Hl2 := Lib.hid hl
  clear hA hl hb2 HA1 Hl1
  go_wp2_with fail
  refine (Hz.out _).mono ?_
  rintro e w3 ⟨rfl, hb3⟩
  have hA := HA2.out.below hb3 HA2.out.lt
  have hl := Hl2.out.trans (hb3.mono (Nat.le_of_lt HA2.out.lt))
  obtain ⟨_, _, _, _, _, _⟩ := hA.six
  have HA3 := Lib.hid hA; have Hl3 := Lib.hid hl
  clear hA hl hb3 HA2 Hl2
  go_wp2
  go_ret
  exact ⟨rfl, Hl3.out⟩
set_option maxRecDepth 10000 in
set_option maxHeartbeats 2000000 in
theorem spec_name3_0 (w : World) (hI : ∀ W, Calls Tryd.prog 24 #[.agg #[.int .i64 0, .int .i64 0, .int .i64 0]] W fun e w' => e = .returned (.bool true) ∧ Below W.heap.size W w') :
    Calls Tryd.prog 28 #[.agg #[.int .i64 0, .int .i64 0, .int .i64 0]] w fun e w' => e = .returned (.string (⟨#[115, 112, 104, 101, 114, 101]⟩)) ∧ Below w.heap.size w w' := by
  have HI := Lib.hid hI; clear hI
  generalize hN : w.heap.size = N at *
  have HN := Lib.hid hN
  go_enter Tryd.func28, Tryd.ntmps28
  go_wp2_with fail
  refine (HI.out _).mono ?_
  rintro e w1 ⟨rfl, hb1⟩
  obtain ⟨hA, hl⟩ := Blk.of1 HN.out hb1 (by have := HN.out; simp; omega)
  obtain ⟨_, _, _, _, _, _⟩ := hA.six
  have HA1 := Lib.hid hA; have Hl1 := Lib.hid hl
  clear hA hl hb1
  go_wp2
  go_ret
  exact ⟨rfl, Hl1.out⟩
set_option maxRecDepth 10000 in
set_option maxHeartbeats 2000000 in
theorem spec_name3_1 (z : Int) (z0 : 0 < z) (z1 : z ≤ 20) (w : World) (hI : ∀ W, Calls Tryd.prog 24 #[.agg #[.int .i64 0, .int .i64 0, .int .i64 z]] W fun e w' => e = .returned (.bool true) ∧ Below W.heap.size W w') :
    Calls Tryd.prog 28 #[.agg #[.int .i64 0, .int .i64 0, .int .i64 z]] w fun e w' => e = .returned (.string ((⟨#[115, 112, 104, 101, 114, 101]⟩) ++ ⟨#[32, 109, 105, 110, 117, 115, 32]⟩ ++ Surf.dec z)) ∧ Below w.heap.size w w' := by
  have g0 : decide (0 < z) = true := decide_eq_true z0
  have HI := Lib.hid hI; clear hI
  obtain ⟨T, hT, hTz⟩ : ∃ T, Surf.dec z = T ∧ T.size ≤ 100 := ⟨_, rfl, Fmt.itoa_size (by omega) (by omega)⟩
  have hfT := fun W => spec_FormatInt z W (by omega) (by omega)
  rw [show (⟨(Lib.itoa z).toArray⟩ : ByteArray) = T from hT] at hfT
  rw [hT]
  have Hz := Lib.hid hfT
  clear hfT hT
  clear z0 z1
  generalize hN : w.heap.size = N at *
  have HN := Lib.hid hN
  go_enter Tryd.func28, Tryd.ntmps28
  go_wp2_with fail
  refine (HI.out _).mono ?_
  rintro e w1 ⟨rfl, hb1⟩
  obtain ⟨hA, hl⟩ := Blk.of1 HN.out hb1 (by have := HN.out; simp; omega)
  obtain ⟨_, _, _, _, _, _⟩ := hA.six
  have HA1 := Lib.hid hA; have Hl1 := Lib.hid hl
  clear hA hl hb1
  go_wp2_with fail
  refine (Hz.out _).mono ?_
  rintro e w2 ⟨rfl, hb2⟩
  have hA := HA1.out.below hb2 HA1.out.lt
  have hl := Hl1.out.trans (hb2.mono (Nat.le_of_lt HA1.out.lt))
  obtain ⟨_, _, _, _, _, _⟩ := hA.six
  have HA2 := Lib.hid hA; have Hl2 := Lib.hid hl
  clear hA hl hb2 HA1 Hl1
  go_wp2
  go_ret
  exact ⟨rfl, Hl2.out⟩
set_option maxRecDepth 10000 in
set_option maxHeartbeats 2000000 in
theorem spec_name4_0 (w : World) (hI : ∀ W, Calls Tryd.prog 24 #[.agg #[.int .i64 0, .int .i64 1, .int .i64 0]] W fun e w' => e = .returned (.bool true) ∧ Below W.heap.size W w') :
    Calls Tryd.prog 28 #[.agg #[.int .i64 0, .int .i64 1, .int .i64 0]] w fun e w' => e = .returned (.string (⟨#[112, 114, 111, 106, 101, 99, 116, 105, 118, 101, 32, 112, 108, 97, 110, 101]⟩)) ∧ Below w.heap.size w w' := by
  have HI := Lib.hid hI; clear hI
  generalize hN : w.heap.size = N at *
  have HN := Lib.hid hN
  go_enter Tryd.func28, Tryd.ntmps28
  go_wp2_with fail
  refine (HI.out _).mono ?_
  rintro e w1 ⟨rfl, hb1⟩
  obtain ⟨hA, hl⟩ := Blk.of1 HN.out hb1 (by have := HN.out; simp; omega)
  obtain ⟨_, _, _, _, _, _⟩ := hA.six
  have HA1 := Lib.hid hA; have Hl1 := Lib.hid hl
  clear hA hl hb1
  go_wp2
  go_ret
  exact ⟨rfl, Hl1.out⟩
set_option maxRecDepth 10000 in
set_option maxHeartbeats 2000000 in
theorem spec_name4_1 (z : Int) (z0 : 0 < z) (z1 : z ≤ 20) (w : World) (hI : ∀ W, Calls Tryd.prog 24 #[.agg #[.int .i64 0, .int .i64 1, .int .i64 z]] W fun e w' => e = .returned (.bool true) ∧ Below W.heap.size W w') :
    Calls Tryd.prog 28 #[.agg #[.int .i64 0, .int .i64 1, .int .i64 z]] w fun e w' => e = .returned (.string ((⟨#[112, 114, 111, 106, 101, 99, 116, 105, 118, 101, 32, 112, 108, 97, 110, 101]⟩) ++ ⟨#[32, 109, 105, 110, 117, 115, 32]⟩ ++ Surf.dec z)) ∧ Below w.heap.size w w' := by
  have g0 : decide (0 < z) = true := decide_eq_true z0
  have HI := Lib.hid hI; clear hI
  obtain ⟨T, hT, hTz⟩ : ∃ T, Surf.dec z = T ∧ T.size ≤ 100 := ⟨_, rfl, Fmt.itoa_size (by omega) (by omega)⟩
  have hfT := fun W => spec_FormatInt z W (by omega) (by omega)
  rw [show (⟨(Lib.itoa z).toArray⟩ : ByteArray) = T from hT] at hfT
  rw [hT]
  have Hz := Lib.hid hfT
  clear hfT hT
  clear z0 z1
  generalize hN : w.heap.size = N at *
  have HN := Lib.hid hN
  go_enter Tryd.func28, Tryd.ntmps28
  go_wp2_with fail
  refine (HI.out _).mono ?_
  rintro e w1 ⟨rfl, hb1⟩
  obtain ⟨hA, hl⟩ := Blk.of1 HN.out hb1 (by have := HN.out; simp; omega)
  obtain ⟨_, _, _, _, _, _⟩ := hA.six
  have HA1 := Lib.hid hA; have Hl1 := Lib.hid hl
  clear hA hl hb1
  go_wp2_with fail
  refine (Hz.out _).mono ?_
  rintro e w2 ⟨rfl, hb2⟩
  have hA := HA1.out.below hb2 HA1.out.lt
  have hl := Hl1.out.trans (hb2.mono (Nat.le_of_lt HA1.out.lt))
  obtain ⟨_, _, _, _, _, _⟩ := hA.six
  have HA2 := Lib.hid hA; have Hl2 := Lib.hid hl
  clear hA hl hb2 HA1 Hl1
  go_wp2
  go_ret
  exact ⟨rfl, Hl2.out⟩
set_option maxRecDepth 10000 in
set_option maxHeartbeats 2000000 in
theorem spec_name5_0 (w : World) (hI : ∀ W, Calls Tryd.prog 24 #[.agg #[.int .i64 0, .int .i64 2, .int .i64 0]] W fun e w' => e = .returned (.bool true) ∧ Below W.heap.size W w') :
    Calls Tryd.prog 28 #[.agg #[.int .i64 0, .int .i64 2, .int .i64 0]] w fun e w' => e = .returned (.string (⟨#[107, 108, 101, 105, 110, 32, 98, 111, 116, 116, 108, 101]⟩)) ∧ Below w.heap.size w w' := by
  have HI := Lib.hid hI; clear hI
  generalize hN : w.heap.size = N at *
  have HN := Lib.hid hN
  go_enter Tryd.func28, Tryd.ntmps28
  go_wp2_with fail
  refine (HI.out _).mono ?_
  rintro e w1 ⟨rfl, hb1⟩
  obtain ⟨hA, hl⟩ := Blk.of1 HN.out hb1 (by have := HN.out; simp; omega)
  obtain ⟨_, _, _, _, _, _⟩ := hA.six
  have HA1 := Lib.hid hA; have Hl1 := Lib.hid hl
  clear hA hl hb1
  go_wp2
  go_ret
  exact ⟨rfl, Hl1.out⟩
set_option maxRecDepth 10000 in
set_option maxHeartbeats 2000000 in
theorem spec_name5_1 (z : Int) (z0 : 0 < z) (z1 : z ≤ 20) (w : World) (hI : ∀ W, Calls Tryd.prog 24 #[.agg #[.int .i64 0, .int .i64 2, .int .i64 z]] W fun e w' => e = .returned (.bool true) ∧ Below W.heap.size W w') :
    Calls Tryd.prog 28 #[.agg #[.int .i64 0, .int .i64 2, .int .i64 z]] w fun e w' => e = .returned (.string ((⟨#[107, 108, 101, 105, 110, 32, 98, 111, 116, 116, 108, 101]⟩) ++ ⟨#[32, 109, 105, 110, 117, 115, 32]⟩ ++ Surf.dec z)) ∧ Below w.heap.size w w' := by
  have g0 : decide (0 < z) = true := decide_eq_true z0
  have HI := Lib.hid hI; clear hI
  obtain ⟨T, hT, hTz⟩ : ∃ T, Surf.dec z = T ∧ T.size ≤ 100 := ⟨_, rfl, Fmt.itoa_size (by omega) (by omega)⟩
  have hfT := fun W => spec_FormatInt z W (by omega) (by omega)
  rw [show (⟨(Lib.itoa z).toArray⟩ : ByteArray) = T from hT] at hfT
  rw [hT]
  have Hz := Lib.hid hfT
  clear hfT hT
  clear z0 z1
  generalize hN : w.heap.size = N at *
  have HN := Lib.hid hN
  go_enter Tryd.func28, Tryd.ntmps28
  go_wp2_with fail
  refine (HI.out _).mono ?_
  rintro e w1 ⟨rfl, hb1⟩
  obtain ⟨hA, hl⟩ := Blk.of1 HN.out hb1 (by have := HN.out; simp; omega)
  obtain ⟨_, _, _, _, _, _⟩ := hA.six
  have HA1 := Lib.hid hA; have Hl1 := Lib.hid hl
  clear hA hl hb1
  go_wp2_with fail
  refine (Hz.out _).mono ?_
  rintro e w2 ⟨rfl, hb2⟩
  have hA := HA1.out.below hb2 HA1.out.lt
  have hl := Hl1.out.trans (hb2.mono (Nat.le_of_lt HA1.out.lt))
  obtain ⟨_, _, _, _, _, _⟩ := hA.six
  have HA2 := Lib.hid hA; have Hl2 := Lib.hid hl
  clear hA hl hb2 HA1 Hl1
  go_wp2
  go_ret
  exact ⟨rfl, Hl2.out⟩
set_option maxRecDepth 10000 in
set_option maxHeartbeats 2000000 in
theorem spec_name6_0 (y : Int) (h0 : 2 < y) (h1 : y ≤ 20) (w : World) (hI : ∀ W, Calls Tryd.prog 24 #[.agg #[.int .i64 0, .int .i64 y, .int .i64 0]] W fun e w' => e = .returned (.bool true) ∧ Below W.heap.size W w') :
    Calls Tryd.prog 28 #[.agg #[.int .i64 0, .int .i64 y, .int .i64 0]] w fun e w' => e = .returned (.string (Surf.dec y ++ ⟨#[32, 99, 114, 111, 115, 115, 99, 97, 112, 115]⟩)) ∧ Below w.heap.size w w' := by
  have f0 : (y == 0) = false := by rw [beq_eq_false_iff_ne]; omega
  have f1 : (y == 1) = false := by rw [beq_eq_false_iff_ne]; omega
  have f2 : (y == 2) = false := by rw [beq_eq_false_iff_ne]; omega
  have f3 : decide (2 < y) = true := decide_eq_true (by omega)
  have f4 : decide (0 < y) = true := decide_eq_true (by omega)
  have HI := Lib.hid hI; clear hI
  obtain ⟨S, hS, hSz⟩ : ∃ S, Surf.dec y = S ∧ S.size ≤ 100 := ⟨_, rfl, Fmt.itoa_size (by omega) (by omega)⟩
  have hfS := fun W => spec_FormatInt y W (by omega) (by omega)
  rw [show (⟨(Lib.itoa y).toArray⟩ : ByteArray) = S from hS] at hfS
  rw [hS]
  have Hf := Lib.hid hfS
  clear hfS hS
  clear h0 h1
  generalize hN : w.heap.size = N at *
  have HN := Lib.hid hN
  go_enter Tryd.func28, Tryd.ntmps28
  go_wp2_with fail
  refine (HI.out _).mono ?_
  rintro e w1 ⟨rfl, hb1⟩
  obtain ⟨hA, hl⟩ := Blk.of1 HN.out hb1 (by have := HN.out; simp; omega)
  obtain ⟨_, _, _, _, _, _⟩ := hA.six
  have HA1 := Lib.hid hA; have Hl1 := Lib.hid hl
  clear hA hl hb1
  go_wp2_with fail
  refine (Hf.out _).mono ?_
  rintro e w2 ⟨rfl, hb2⟩
  have hA := HA1.out.below hb2 HA1.out.lt
  have hl := Hl1.out.trans (hb2.mono (Nat.le_of_lt HA1.out.lt))
  obtain ⟨_, _, _, _, _, _⟩ := hA.six
  have HA2 := Lib.hid hA; have Hl2 := Lib.hid hl
  clear hA hl hb2 HA1 Hl1
  go_wp2
  go_ret
  exact ⟨rfl, Hl2.out⟩
set_option maxRecDepth 10000 in
set_option maxHeartbeats 2000000 in
theorem spec_name6_1 (y : Int) (h0 : 2 < y) (h1 : y ≤ 20) (z : Int) (z0 : 0 < z) (z1 : z ≤ 20) (w : World) (hI : ∀ W, Calls Tryd.prog 24 #[.agg #[.int .i64 0, .int .i64 y, .int .i64 z]] W fun e w' => e = .returned (.bool true) ∧ Below W.heap.size W w') :
    Calls Tryd.prog 28 #[.agg #[.int .i64 0, .int .i64 y, .int .i64 z]] w fun e w' => e = .returned (.string ((Surf.dec y ++ ⟨#[32, 99, 114, 111, 115, 115, 99, 97, 112, 115]⟩) ++ ⟨#[32, 109, 105, 110, 117, 115, 32]⟩ ++ Surf.dec z)) ∧ Below w.heap.size w w' := by
  have f0 : (y == 0) = false := by rw [beq_eq_false_iff_ne]; omega
  have f1 : (y == 1) = false := by rw [beq_eq_false_iff_ne]; omega
  have f2 : (y == 2) = false := by rw [beq_eq_false_iff_ne]; omega
  have f3 : decide (2 < y) = true := decide_eq_true (by omega)
  have f4 : decide (0 < y) = true := decide_eq_true (by omega)
  have g0 : decide (0 < z) = true := decide_eq_true z0
  have HI := Lib.hid hI; clear hI
  obtain ⟨S, hS, hSz⟩ : ∃ S, Surf.dec y = S ∧ S.size ≤ 100 := ⟨_, rfl, Fmt.itoa_size (by omega) (by omega)⟩
  have hfS := fun W => spec_FormatInt y W (by omega) (by omega)
  rw [show (⟨(Lib.itoa y).toArray⟩ : ByteArray) = S from hS] at hfS
  rw [hS]
  have Hf := Lib.hid hfS
  clear hfS hS
  obtain ⟨T, hT, hTz⟩ : ∃ T, Surf.dec z = T ∧ T.size ≤ 100 := ⟨_, rfl, Fmt.itoa_size (by omega) (by omega)⟩
  have hfT := fun W => spec_FormatInt z W (by omega) (by omega)
  rw [show (⟨(Lib.itoa z).toArray⟩ : ByteArray) = T from hT] at hfT
  rw [hT]
  have Hz := Lib.hid hfT
  clear hfT hT
  clear h0 h1
  clear z0 z1
  generalize hN : w.heap.size = N at *
  have HN := Lib.hid hN
  go_enter Tryd.func28, Tryd.ntmps28
  go_wp2_with fail
  refine (HI.out _).mono ?_
  rintro e w1 ⟨rfl, hb1⟩
  obtain ⟨hA, hl⟩ := Blk.of1 HN.out hb1 (by have := HN.out; simp; omega)
  obtain ⟨_, _, _, _, _, _⟩ := hA.six
  have HA1 := Lib.hid hA; have Hl1 := Lib.hid hl
  clear hA hl hb1
  go_wp2_with fail
  refine (Hf.out _).mono ?_
  rintro e w2 ⟨rfl, hb2⟩
  have hA := HA1.out.below hb2 HA1.out.lt
  have hl := Hl1.out.trans (hb2.mono (Nat.le_of_lt HA1.out.lt))
  obtain ⟨_, _, _, _, _, _⟩ := hA.six
  have HA2 := Lib.hid hA; have Hl2 := Lib.hid hl
  clear hA hl hb2 HA1 Hl1
  go_wp2_with fail
  refine (Hz.out _).mono ?_
  rintro e w3 ⟨rfl, hb3⟩
  have hA := HA2.out.below hb3 HA2.out.lt
  have hl := Hl2.out.trans (hb3.mono (Nat.le_of_lt HA2.out.lt))
  obtain ⟨_, _, _, _, _, _⟩ := hA.six
  have HA3 := Lib.hid hA; have Hl3 := Lib.hid hl
  clear hA hl hb3 HA2 Hl2
  go_wp2
  go_ret
  exact ⟨rfl, Hl3.out⟩
set_option maxRecDepth 10000 in
set_option maxHeartbeats 4000000 in
theorem impl_named_0 (x y : Int) (V : ByteArray) (hVz : V.size ≤ 1000) (w : World) (htab : Tab w) (hI : ∀ W, Calls Tryd.prog 23 #[.agg #[.int .i64 x, .int .i64 y, .int .i64 0]] W fun e w' => e = .returned (.bool true) ∧ Below W.heap.size W w')
    (hV : ∀ W, Tab W → Calls Tryd.prog 48 #[.agg #[.int .i64 x, .int .i64 y, .int .i64 0]] W fun e w' => e = .returned (.string V) ∧ Below W.heap.size W w') :
    Calls Tryd.prog 27 #[.agg #[.int .i64 x, .int .i64 y, .int .i64 0]] w fun e w' => e = .returned (.string (V)) ∧ Below w.heap.size w w' := by
  have Ht := Lib.hid (fun W (hb : Below w.heap.size w W) => htab.below hb)
  have HI := Lib.hid hI; have HV := Lib.hid hV; clear hI hV htab
  generalize hN : w.heap.size = N at *
  have HN := Lib.hid hN
  go_enter Tryd.func27, Tryd.ntmps27
  go_wp2_with fail
  refine (HI.out _).mono ?_
  rintro e w1 ⟨rfl, hb1⟩
  obtain ⟨hA, hl⟩ := Blk.of1 HN.out hb1 (by have := HN.out; simp; omega)
  obtain ⟨_, _, _, _, _, _⟩ := hA.six
  have HA1 := Lib.hid hA; have Hl1 := Lib.hid hl
  clear hA hl hb1
  generalize hM : w1.heap.size = M at *
  have HM := Lib.hid hM
  have hNM := Lib.hid (show N < M by have := HA1.out.lt; have := HM.out; omega)
  have nNM : N ≠ M := by have := hNM.out; omega
  have hA2 := HA1.out.alloc (.cells #[.int .i64 x, .int .i64 y, .int .i64 0] 25)
  have hB2 := Blk.new' hM 25 #[.int .i64 x, .int .i64 y, .int .i64 0]
  have hl2 := Hl1.out.alloc (Nat.le_of_lt (by have := HA1.out.lt; omega)) (.cells #[.int .i64 x, .int .i64 y, .int .i64 0] 25)
  have HA2 := Lib.hid hA2; have HB2 := Lib.hid hB2; have Hl2 := Lib.hid hl2
  obtain ⟨_, _, _, _, _, _⟩ := hA2.six
  obtain ⟨_, _, _, _, _, _⟩ := hB2.six
  clear hA2 hB2 hl2
  go_wp2_with fail
  refine (HV.out _ (Ht.out _ Hl2.out)).mono ?_
  rintro e w3 ⟨rfl, hb3⟩
  go_wp2
  go_ret
  exact ⟨rfl, Hl2.out.trans (hb3.mono (Nat.le_of_lt HA2.out.lt))⟩
set_option maxRecDepth 10000 in
set_option maxHeartbeats 4000000 in
theorem impl_named_1 (x y : Int) (V : ByteArray) (hVz : V.size ≤ 1000) (z : Int) (z0 : 0 < z) (z1 : z ≤ 20) (w : World) (htab : Tab w) (hI : ∀ W, Calls Tryd.prog 23 #[.agg #[.int .i64 x, .int .i64 y, .int .i64 z]] W fun e w' => e = .returned (.bool true) ∧ Below W.heap.size W w')
    (hV : ∀ W, Tab W → Calls Tryd.prog 48 #[.agg #[.int .i64 x, .int .i64 y, .int .i64 0]] W fun e w' => e = .returned (.string V) ∧ Below W.heap.size W w') :
    Calls Tryd.prog 27 #[.agg #[.int .i64 x, .int .i64 y, .int .i64 z]] w fun e w' => e = .returned (.string (V ++ ⟨#[32, 109, 105, 110, 117, 115, 32]⟩ ++ Surf.dec z)) ∧ Below w.heap.size w w' := by
  have Ht := Lib.hid (fun W (hb : Below w.heap.size w W) => htab.below hb)
  have HI := Lib.hid hI; have HV := Lib.hid hV; clear hI hV htab
  have f0 : (z == 0) = false := by rw [beq_eq_false_iff_ne]; omega
  obtain ⟨T, hT, hTz⟩ : ∃ T, Surf.dec z = T ∧ T.size ≤ 100 := ⟨_, rfl, Fmt.itoa_size (by omega) (by omega)⟩
  have hf := fun W (ht : Tab W) => impl_FormatInt z (by omega) (by omega) W ht
  rw [show (⟨(Lib.itoa z).toArray⟩ : ByteArray) = T from hT] at hf
  rw [hT]
  have Hz := Lib.hid hf
  clear z0 z1 hf hT
  generalize hN : w.heap.size = N at *
  have HN := Lib.hid hN
  go_enter Tryd.func27, Tryd.ntmps27
  go_wp2_with fail
  refine (HI.out _).mono ?_
  rintro e w1 ⟨rfl, hb1⟩
  obtain ⟨hA, hl⟩ := Blk.of1 HN.out hb1 (by have := HN.out; simp; omega)
  obtain ⟨_, _, _, _, _, _⟩ := hA.six
  have HA1 := Lib.hid hA; have Hl1 := Lib.hid hl
  clear hA hl hb1
  generalize hM : w1.heap.size = M at *
  have HM := Lib.hid hM
  have hNM := Lib.hid (show N < M by have := HA1.out.lt; have := HM.out; omega)
  have nNM : N ≠ M := by have := hNM.out; omega
  have hA2 := HA1.out.alloc (.cells #[.int .i64 x, .int .i64 y, .int .i64 0] 25)
  have hB2 := Blk.new' hM 25 #[.int .i64 x, .int .i64 y, .int .i64 0]
  have hl2 := Hl1.out.alloc (Nat.le_of_lt (by have := HA1.out.lt; omega)) (.cells #[.int .i64 x, .int .i64 y, .int .i64 0] 25)
  have HA2 := Lib.hid hA2; have HB2 := Lib.hid hB2; have Hl2 := Lib.hid hl2
  obtain ⟨_, _, _, _, _, _⟩ := hA2.six
  obtain ⟨_, _, _, _, _, _⟩ := hB2.six
  clear hA2 hB2 hl2
  have hq1 : ¬ 9223372036854775807 < V.size + 7 := by omega
  have hq2 : ¬ 9223372036854775807 < V.size + 7 + T.size := by omega
  go_upto_region 7 with fail
  have HV' := Lib.hid (fun V (hS : V.cell? ⟨M, 0, none⟩ = some (.int .i64 x) ∧ V.cell? ⟨M, 1, none⟩ = some (.int .i64 y) ∧ V.cell? ⟨M, 2, none⟩ = some (.int .i64 0) ∧ V.cell? ⟨N, 2, none⟩ = some (.int .i64 z) ∧ Below (w1.alloc (.cells #[.int .i64 x, .int .i64 y, .int .i64 0] 25)).heap.size (w1.alloc (.cells #[.int .i64 x, .int .i64 y, .int .i64 0] 25)) V) => HV.out V (Ht.out V (Hl2.out.trans (hS.2.2.2.2.mono (Nat.le_of_lt HA2.out.lt)))))
  have Hz' := Lib.hid (fun V (hS : V.cell? ⟨M, 0, none⟩ = some (.int .i64 x) ∧ V.cell? ⟨M, 1, none⟩ = some (.int .i64 y) ∧ V.cell? ⟨M, 2, none⟩ = some (.int .i64 0) ∧ V.cell? ⟨N, 2, none⟩ = some (.int .i64 z) ∧ Below (w1.alloc (.cells #[.int .i64 x, .int .i64 y, .int .i64 0] 25)).heap.size (w1.alloc (.cells #[.int .i64 x, .int .i64 y, .int .i64 0] 25)) V) => Hz.out V (Ht.out V (Hl2.out.trans (hS.2.2.2.2.mono (Nat.le_of_lt HA2.out.lt)))))
  go_region_held3 (fun w' => w'.cell? ⟨M, 0, none⟩ = some (.int .i64 x) ∧ w'.cell? ⟨M, 1, none⟩ = some (.int .i64 y) ∧ w'.cell? ⟨M, 2, none⟩ = some (.int .i64 0) ∧ w'.cell? ⟨N, 2, none⟩ = some (.int .i64 z) ∧ Below (w1.alloc (.cells #[.int .i64 x, .int .i64 y, .int .i64 0] 25)).heap.size (w1.alloc (.cells #[.int .i64 x, .int .i64 y, .int .i64 0] 25)) w') (first | exact ⟨HB2.out.drew.cell 0, HB2.out.drew.cell 1, HB2.out.drew.cell 2, HA2.out.drew.cell 2, Below.drew (Below.refl _ _)⟩ | exact ⟨(HB2.out.drewN _).cell 0, (HB2.out.drewN _).cell 1, (HB2.out.drewN _).cell 2, (HA2.out.drewN _).cell 2, below_drewN (Below.refl _ _) _⟩ | assumption)
    (first
      | (go_at_call 48; refine (HV'.out _ (by assumption)).mono ?_; rintro e w3 ⟨rfl, hb3⟩; have hS3 := four_keep (by assumption) HB2.out.lt HA2.out.lt hb3)
      | (go_at_call 49; refine (Hz'.out _ (by assumption)).mono ?_; rintro e w4 ⟨rfl, hb4⟩; have hS4 := four_keep (by assumption) HB2.out.lt HA2.out.lt hb4))
  have hbx := (And.right (And.right (And.right (And.right hS4))))
  have Hl5 := Lib.hid (Hl2.out.trans (hbx.mono (Nat.le_of_lt HA2.out.lt)))
  go_wp2
  go_ret
  exact ⟨rfl, Hl5.out⟩
set_option maxRecDepth 10000 in
set_option maxHeartbeats 2000000 in
theorem spec_SurfaceName (x y z : Int) (w : World) (ha : I64s [x, y, z]) :
    Calls Tryd.prog 28 #[.agg #[.int .i64 x, .int .i64 y, .int .i64 z]] w fun e w' => e = .returned (.string (Surf.named x y z)) ∧ Below w.heap.size w w' := by
  have hI := fun W => spec_IsSurface x y z W ha
  unfold Surf.named
  by_cases hs : Surf.Is x y z
  · rw [if_pos hs]
    rw [decide_eq_true hs] at hI
    obtain ⟨⟨h1, h2⟩, ⟨h3, h4⟩, ⟨h5, h6⟩, h7⟩ := hs
    clear ha
    by_cases hx0 : x = 0
    · subst hx0
      by_cases hy0 : y = 0
      · subst hy0
        have hv : Surf.base 0 0 = ⟨#[115, 112, 104, 101, 114, 101]⟩ := by rfl
        rw [hv]
        by_cases hz : 0 < z
        · rw [if_pos hz]; exact spec_name3_1 z hz h6 w hI
        · obtain rfl : z = 0 := by omega
          rw [if_neg hz]; exact spec_name3_0 w hI
      · by_cases hy1 : y = 1
        · subst hy1
          have hv : Surf.base 0 1 = ⟨#[112, 114, 111, 106, 101, 99, 116, 105, 118, 101, 32, 112, 108, 97, 110, 101]⟩ := by rfl
          rw [hv]
          by_cases hz : 0 < z
          · rw [if_pos hz]; exact spec_name4_1 z hz h6 w hI
          · obtain rfl : z = 0 := by omega
            rw [if_neg hz]; exact spec_name4_0 w hI
        · by_cases hy2 : y = 2
          · subst hy2
            have hv : Surf.base 0 2 = ⟨#[107, 108, 101, 105, 110, 32, 98, 111, 116, 116, 108, 101]⟩ := by rfl
            rw [hv]
            by_cases hz : 0 < z
            · rw [if_pos hz]; exact spec_name5_1 z hz h6 w hI
            · obtain rfl : z = 0 := by omega
              rw [if_neg hz]; exact spec_name5_0 w hI
          · have hy : 2 < y := by omega
            have hv : Surf.base 0 y = Surf.dec y ++ ⟨#[32, 99, 114, 111, 115, 115, 99, 97, 112, 115]⟩ := by unfold Surf.base; rw [if_neg (by omega), if_neg (by omega), if_neg (by omega), if_neg (by omega), if_neg (by omega), if_pos hy]
            rw [hv]
            by_cases hz : 0 < z
            · rw [if_pos hz]; exact spec_name6_1 y hy (by omega) z hz h6 w hI
            · obtain rfl : z = 0 := by omega
              rw [if_neg hz]; exact spec_name6_0 y hy (by omega) w hI
    · obtain rfl : y = 0 := by omega
      by_cases hx1 : x = 1
      · subst hx1
        have hv : Surf.base 1 0 = ⟨#[116, 111, 114, 117, 115]⟩ := by rfl
        rw [hv]
        by_cases hz : 0 < z
        · rw [if_pos hz]; exact spec_name0_1 z hz h6 w hI
        · obtain rfl : z = 0 := by omega
          rw [if_neg hz]; exact spec_name0_0 w hI
      · by_cases hx2 : x = 2
        · subst hx2
          have hv : Surf.base 2 0 = ⟨#[100, 111, 117, 98, 108, 101, 32, 116, 111, 114, 117, 115]⟩ := by rfl
          rw [hv]
          by_cases hz : 0 < z
          · rw [if_pos hz]; exact spec_name1_1 z hz h6 w hI
          · obtain rfl : z = 0 := by omega
            rw [if_neg hz]; exact spec_name1_0 w hI
        · have hx : 2 < x := by omega
          have hv : Surf.base x 0 = Surf.dec x ++ ⟨#[32, 104, 97, 110, 100, 108, 101, 115]⟩ := by unfold Surf.base; rw [if_neg (by omega), if_neg (by omega), if_pos hx]
          rw [hv]
          by_cases hz : 0 < z
          · rw [if_pos hz]; exact spec_name2_1 x hx (by omega) z hz h6 w hI
          · obtain rfl : z = 0 := by omega
            rw [if_neg hz]; exact spec_name2_0 x hx (by omega) w hI
  · rw [if_neg hs]
    rw [decide_eq_false hs] at hI
    have HI := Lib.hid hI; clear hI ha hs
    generalize hN : w.heap.size = N at *
    have HN := Lib.hid hN
    go_enter Tryd.func28, Tryd.ntmps28
    go_wp2_with fail
    refine (HI.out _).mono ?_
    rintro e w1 ⟨rfl, hb1⟩
    obtain ⟨_, hl⟩ := Blk.of1 HN.out hb1 (by have := HN.out; simp; omega)
    have Hl1 := Lib.hid hl
    clear hl hb1
    go_wp2
    go_ret
    exact ⟨rfl, Hl1.out⟩
set_option maxRecDepth 10000 in
set_option maxHeartbeats 2000000 in
theorem impl_SurfaceName (x y z : Int) (w : World) (htab : Tab w) (ha : I64s [x, y, z]) :
    Calls Tryd.prog 27 #[.agg #[.int .i64 x, .int .i64 y, .int .i64 z]] w fun e w' => e = .returned (.string (Surf.named x y z)) ∧ Below w.heap.size w w' := by
  have hI := fun W => impl_IsSurface x y z W ha
  unfold Surf.named
  by_cases hs : Surf.Is x y z
  · rw [if_pos hs]
    rw [decide_eq_true hs] at hI
    obtain ⟨⟨h1, h2⟩, ⟨h3, h4⟩, ⟨h5, h6⟩, h7⟩ := hs
    clear ha
    by_cases hx0 : x = 0
    · subst hx0
      by_cases hy0 : y = 0
      · subst hy0
        have hv : Surf.base 0 0 = ⟨#[115, 112, 104, 101, 114, 101]⟩ := by rfl
        rw [hv]
        by_cases hz : 0 < z
        · rw [if_pos hz]; exact impl_named_1 0 0 _ (by decide) z hz h6 w htab hI (fun W ht => impl_name3 W ht)
        · obtain rfl : z = 0 := by omega
          rw [if_neg hz]; exact impl_named_0 0 0 _ (by decide) w htab hI (fun W ht => impl_name3 W ht)
      · by_cases hy1 : y = 1
        · subst hy1
          have hv : Surf.base 0 1 = ⟨#[112, 114, 111, 106, 101, 99, 116, 105, 118, 101, 32, 112, 108, 97, 110, 101]⟩ := by rfl
          rw [hv]
          by_cases hz : 0 < z
          · rw [if_pos hz]; exact impl_named_1 0 1 _ (by decide) z hz h6 w htab hI (fun W ht => impl_name4 W ht)
          · obtain rfl : z = 0 := by omega
            rw [if_neg hz]; exact impl_named_0 0 1 _ (by decide) w htab hI (fun W ht => impl_name4 W ht)
        · by_cases hy2 : y = 2
          · subst hy2
            have hv : Surf.base 0 2 = ⟨#[107, 108, 101, 105, 110, 32, 98, 111, 116, 116, 108, 101]⟩ := by rfl
            rw [hv]
            by_cases hz : 0 < z
            · rw [if_pos hz]; exact impl_named_1 0 2 _ (by decide) z hz h6 w htab hI (fun W ht => impl_name5 W ht)
            · obtain rfl : z = 0 := by omega
              rw [if_neg hz]; exact impl_named_0 0 2 _ (by decide) w htab hI (fun W ht => impl_name5 W ht)
          · have hy : 2 < y := by omega
            have hv : Surf.base 0 y = Surf.dec y ++ ⟨#[32, 99, 114, 111, 115, 115, 99, 97, 112, 115]⟩ := by unfold Surf.base; rw [if_neg (by omega), if_neg (by omega), if_neg (by omega), if_neg (by omega), if_neg (by omega), if_pos hy]
            rw [hv]
            by_cases hz : 0 < z
            · rw [if_pos hz]; exact impl_named_1 0 y _ (by have := Fmt.itoa_size (n := y) (by omega) (by omega); rw [ByteArray.size_append]; exact Nat.le_trans (Nat.add_le_add this (show _ ≤ 100 by decide)) (by decide)) z hz h6 w htab hI (fun W ht => impl_name6 y hy (by omega) W ht)
            · obtain rfl : z = 0 := by omega
              rw [if_neg hz]; exact impl_named_0 0 y _ (by have := Fmt.itoa_size (n := y) (by omega) (by omega); rw [ByteArray.size_append]; exact Nat.le_trans (Nat.add_le_add this (show _ ≤ 100 by decide)) (by decide)) w htab hI (fun W ht => impl_name6 y hy (by omega) W ht)
    · obtain rfl : y = 0 := by omega
      by_cases hx1 : x = 1
      · subst hx1
        have hv : Surf.base 1 0 = ⟨#[116, 111, 114, 117, 115]⟩ := by rfl
        rw [hv]
        by_cases hz : 0 < z
        · rw [if_pos hz]; exact impl_named_1 1 0 _ (by decide) z hz h6 w htab hI (fun W ht => impl_name0 W ht)
        · obtain rfl : z = 0 := by omega
          rw [if_neg hz]; exact impl_named_0 1 0 _ (by decide) w htab hI (fun W ht => impl_name0 W ht)
      · by_cases hx2 : x = 2
        · subst hx2
          have hv : Surf.base 2 0 = ⟨#[100, 111, 117, 98, 108, 101, 32, 116, 111, 114, 117, 115]⟩ := by rfl
          rw [hv]
          by_cases hz : 0 < z
          · rw [if_pos hz]; exact impl_named_1 2 0 _ (by decide) z hz h6 w htab hI (fun W ht => impl_name1 W ht)
          · obtain rfl : z = 0 := by omega
            rw [if_neg hz]; exact impl_named_0 2 0 _ (by decide) w htab hI (fun W ht => impl_name1 W ht)
        · have hx : 2 < x := by omega
          have hv : Surf.base x 0 = Surf.dec x ++ ⟨#[32, 104, 97, 110, 100, 108, 101, 115]⟩ := by unfold Surf.base; rw [if_neg (by omega), if_neg (by omega), if_pos hx]
          rw [hv]
          by_cases hz : 0 < z
          · rw [if_pos hz]; exact impl_named_1 x 0 _ (by have := Fmt.itoa_size (n := x) (by omega) (by omega); rw [ByteArray.size_append]; exact Nat.le_trans (Nat.add_le_add this (show _ ≤ 100 by decide)) (by decide)) z hz h6 w htab hI (fun W ht => impl_name2 x hx (by omega) W ht)
          · obtain rfl : z = 0 := by omega
            rw [if_neg hz]; exact impl_named_0 x 0 _ (by have := Fmt.itoa_size (n := x) (by omega) (by omega); rw [ByteArray.size_append]; exact Nat.le_trans (Nat.add_le_add this (show _ ≤ 100 by decide)) (by decide)) w htab hI (fun W ht => impl_name2 x hx (by omega) W ht)
  · rw [if_neg hs]
    rw [decide_eq_false hs] at hI
    have HI := Lib.hid hI; clear hI ha hs
    generalize hN : w.heap.size = N at *
    have HN := Lib.hid hN
    go_enter Tryd.func27, Tryd.ntmps27
    go_wp2_with fail
    refine (HI.out _).mono ?_
    rintro e w1 ⟨rfl, hb1⟩
    obtain ⟨_, hl⟩ := Blk.of1 HN.out hb1 (by have := HN.out; simp; omega)
    have Hl1 := Lib.hid hl
    clear hl hb1
    go_wp2
    go_ret
    exact ⟨rfl, Hl1.out⟩
end Go.Proofs.YtodgongemoabiaaDoor
