/-
  The walks of the program's haveClasses, IsClass, FormOf and TwistClass.
-/
import Derived.Test.YtamgimdjnmcpaaaDoorBase
import Derived.Test.YtamgimdjnmcpaaaDoorSlice
import Derived.Test.YtamgimdjnmcpaaaDoorIntRow
import Derived.Test.YtamgimdjnmcpaaaDoorInts
import Derived.Test.YtamgimdjnmcpaaaDoorOwn
import Derived.Test.YtamgimdjnmcpaaaDoorTw
import Derived.Test.YtamgimdjnmcpaaaDoorTwErr
import Derived.Test.YtamgimdjnmcpaaaDoorGrid
import Derived.Deep.QuietTactic
import Derived.Deep.RegionHeld3
import Derived.BigQuiet
import Derived.StillTailTactics
namespace Go.Proofs.YtamgimdjnmcpaaaDoor
open Go.RowKit

set_option maxRecDepth 10000 in
theorem impl_haveClasses (g : Int) (w : World) : Calls Tryd.prog 67 #[.int .i64 g] w fun e w' => e = .returned (.bool (decide (1 ≤ g ∧ g ≤ 3))) ∧ w' = w := by
  by_cases h1 : 1 ≤ g
  · by_cases h2 : g ≤ 3
    · have hd : decide (1 ≤ g ∧ g ≤ 3) = true := by simp [h1, h2]
      rw [hd]; clear hd
      go_enter Tryd.func67, Tryd.ntmps67
      go_wp2
      go_ret
      exact ⟨by simp [*], rfl⟩
    · have hd : decide (1 ≤ g ∧ g ≤ 3) = false := by simp [h1, h2]
      rw [hd]; clear hd
      go_enter Tryd.func67, Tryd.ntmps67
      go_wp2
      go_ret
      exact ⟨by simp [*], rfl⟩
  · have hd : decide (1 ≤ g ∧ g ≤ 3) = false := by simp [h1]
    rw [hd]; clear hd
    go_enter Tryd.func67, Tryd.ntmps67
    go_wp2
    go_ret
    exact ⟨by simp [*], rfl⟩
set_option maxRecDepth 10000 in
set_option maxHeartbeats 400000 in
theorem impl_IsClass (g : Int) (a : Option Addr) (c : Nat) (l : List Int) (w : World) (hE : Errs w) (ha : RowAt w a (intCells l)) (hl : l.length ≤ 1048576) :
    Calls Tryd.prog 32 #[.int .i64 g, .slice a l.length c] w fun e w' => e = .returned (.bool (decide (Tw.IsC g l))) ∧ Below w.heap.size w w' := by
  have hC := impl_haveClasses g w
  have hT := impl_areTooGreat a c l w hE ha (by omega)
  by_cases hg : 1 ≤ g ∧ g ≤ 3
  · rw [decide_eq_true hg] at hC
    have e1 : IntKind.i64.wrap (2 * g) = 2 * g := wrap_small (by omega) (by omega)
    by_cases hl2 : (l.length : Int) = 2 * g
    · have hd : decide (Tw.IsC g l) = decide (Tw.Fits l) := decide_eq_decide.2 ⟨fun h => h.2.2, fun h => ⟨hg, hl2, h⟩⟩
      rw [hd]
      have ht : ((l.length : Int) == 2 * g) = true := beq_iff_eq.2 hl2
      generalize decide (Tw.Fits l) = r at *
      have HC := Lib.hid hC; have HT := Lib.hid hT
      clear hC hT hd hg hl2 hE ha
      go_enter Tryd.func32, Tryd.ntmps32
      go_wp2_with fail
      refine HC.out.mono ?_
      rintro e w1 ⟨rfl, hw⟩
      rw [hw]; clear hw w1
      go_wp2_with fail
      refine HT.out.mono ?_
      rintro e w1 ⟨rfl, hb1⟩
      go_wp2
      go_ret
      exact ⟨by simp, hb1⟩
    · have hd : decide (Tw.IsC g l) = false := decide_eq_false fun h => hl2 h.2.1
      rw [hd]
      have ht : ((l.length : Int) == 2 * g) = false := beq_eq_false_iff_ne.2 hl2
      have HC := Lib.hid hC
      clear hC hT hd hg hl2 hE ha
      go_enter Tryd.func32, Tryd.ntmps32
      go_wp2_with fail
      refine HC.out.mono ?_
      rintro e w1 ⟨rfl, hw⟩
      rw [hw]; clear hw w1
      go_wp2
      go_ret
      exact ⟨rfl, Below.refl _ _⟩
  · rw [decide_eq_false hg] at hC
    have hd : decide (Tw.IsC g l) = false := decide_eq_false fun h => hg h.1
    rw [hd]
    have HC := Lib.hid hC
    clear hC hT hd hg hE ha
    go_enter Tryd.func32, Tryd.ntmps32
    go_wp2_with fail
    refine HC.out.mono ?_
    rintro e w1 ⟨rfl, hw⟩
    rw [hw]; clear hw w1
    go_wp2
    go_ret
    exact ⟨rfl, Below.refl _ _⟩
set_option maxRecDepth 10000 in
set_option maxHeartbeats 2000000 in
theorem impl_FormOf (g : Int) (ax : Option Addr) (cx : Nat) (x : List Int) (ay : Option Addr) (cy : Nat) (y : List Int) (w : World) (hE : Errs w) (hx : RowAt w ax (intCells x)) (hlx : x.length ≤ 1048576) (hy : RowAt w ay (intCells y)) (hly : y.length ≤ 1048576) :
    Calls Tryd.prog 26 #[.int .i64 g, .slice ax x.length cx, .slice ay y.length cy] w fun e w' => e = .returned (.int .i64 (Tw.formOf g x y)) ∧ Below w.heap.size w w' := by
  have hX := impl_IsClass g ax cx x w hE hx hlx
  by_cases cX : Tw.IsC g x
  · rw [decide_eq_true cX] at hX
    have hY := fun W (hb : Below w.heap.size w W) => impl_IsClass g ay cy y W (hE.keeps hb) (hy.below hb) hly
    by_cases cY : Tw.IsC g y
    · rw [decide_eq_true cY] at hY
      rw [Tw.formOf_of cX cY]
      have hg := cX.1
      obtain ⟨n, rfl⟩ : ∃ n : Nat, g = (n : Int) := ⟨g.toNat, by omega⟩
      have hxl := cX.len
      have hyl := cY.len
      have n0 : 1 ≤ n := by omega
      have n3 : n ≤ 3 := by omega
      have Hxl := Lib.hid (show x.length = 2 * n by omega)
      have Hyl := Lib.hid (show y.length = 2 * n by omega)
      have Hf := Lib.hid (show Tw.form x y = Tw.formTo x y n by unfold Tw.form; rw [show x.length / 2 = n by omega])
      have Hbd := Lib.hid (Tw.formTo_bound cX.2.2 cY.2.2)
      have Fx := Lib.hid cX.2.2; have Fy := Lib.hid cY.2.2
      have HX := Lib.hid hX; have HY := Lib.hid hY; have Rx := Lib.hid hx; have Ry := Lib.hid hy
      clear hX hY hx hy cX cY hg hxl hyl hE hlx hly
      go_enter Tryd.func26, Tryd.ntmps26
      go_wp2_with fail
      refine HX.out.mono ?_
      rintro e w1 ⟨rfl, hb1⟩
      have Hb1 := Lib.hid hb1; clear hb1
      go_wp2_with fail
      refine (HY.out w1 Hb1.out).mono ?_
      rintro e w2 ⟨rfl, hb2⟩
      have Hb2 := Lib.hid (Hb1.out.trans (hb2.mono Hb1.out.size)); clear hb2
      go_wp2
      go_loopw [7, 8, 20] (fun sv _ iv wr => ∃ i : Nat, i ≤ n ∧ iv = .int .i64 i ∧ sv = .int .i64 (Tw.formTo x y i) ∧ Hid (Below w.heap.size w wr)) (fun _ _ iv _ => n - (intOf iv).toNat)
      case atStart => exact ⟨0, by omega, rfl, rfl, Hb2⟩
      case round =>
        obtain ⟨i, hi, rfl, rfl, hb⟩ := hrel
        by_cases hlt : i < n
        · obtain ⟨b, o, eb, hbw, hc1⟩ := intCells_get? (Rx.out.below hb.out) (Tw.get?_nth (show 2 * i < x.length by rw [Hxl.out]; omega))
          obtain ⟨b', o', eb', hbw', hc4⟩ := intCells_get? (Ry.out.below hb.out) (Tw.get?_nth (show 2 * i < y.length by rw [Hyl.out]; omega))
          obtain ⟨b2, o2, eb2, _, hc3⟩ := intCells_get? (Rx.out.below hb.out) (Tw.get?_nth (show 2 * i + 1 < x.length by rw [Hxl.out]; omega))
          obtain ⟨b3, o3, eb3, _, hc2⟩ := intCells_get? (Ry.out.below hb.out) (Tw.get?_nth (show 2 * i + 1 < y.length by rw [Hyl.out]; omega))
          subst eb; cases eb2; subst eb'; cases eb3
          have f1 := Fx.out.nth (2 * i); have f2 := Fy.out.nth (2 * i + 1); have f3 := Fx.out.nth (2 * i + 1); have f4 := Fy.out.nth (2 * i)
          have p1 := Tw.mul_abs (A := 1000) (B := 1000) f1 f2
          have p2 := Tw.mul_abs (A := 1000) (B := 1000) f3 f4
          have hbd := Hbd.out i
          have hst : Tw.formTo x y (i + 1) = Tw.formTo x y i + (Tw.nth x (2 * i) * Tw.nth y (2 * i + 1) - Tw.nth x (2 * i + 1) * Tw.nth y (2 * i)) := rfl
          generalize Tw.nth x (2 * i) = A at *
          generalize Tw.nth y (2 * i + 1) = B at *
          generalize Tw.nth x (2 * i + 1) = C at *
          generalize Tw.nth y (2 * i) = D at *
          obtain ⟨P, hP⟩ : ∃ P, A * B = P := ⟨_, rfl⟩
          obtain ⟨Q, hQ⟩ : ∃ Q, C * D = Q := ⟨_, rfl⟩
          rw [hP] at p1 hst; rw [hQ] at p2 hst
          have e1 : IntKind.i64.wrap (A * B) = P := by rw [hP]; exact wrap_small (by omega) (by omega)
          have e2 : IntKind.i64.wrap (C * D) = Q := by rw [hQ]; exact wrap_small (by omega) (by omega)
          obtain ⟨S, hS⟩ : ∃ S, Tw.formTo x y i = S := ⟨_, rfl⟩
          rw [hS] at hst hbd ⊢
          have e3 : IntKind.i64.wrap (P - Q) = P - Q := wrap_small (by omega) (by omega)
          have e4 : IntKind.i64.wrap (S + (P - Q)) = S + (P - Q) := wrap_small (by omega) (by omega)
          have w1 : IntKind.i64.wrap (2 * (i : Int)) = 2 * (i : Int) := wrap_small (by omega) (by omega)
          have w2 : IntKind.i64.wrap (2 * (i : Int) + 1) = 2 * (i : Int) + 1 := wrap_small (by omega) (by omega)
          have i0 : (0 : Int) ≤ 2 * (i : Int) := by omega
          have i1 : 2 * (i : Int) < (x.length : Int) := by have := Hxl.out; omega
          have i2 : 2 * (i : Int) < (y.length : Int) := by have := Hyl.out; omega
          have i3 : (0 : Int) ≤ 2 * (i : Int) + 1 := by omega
          have i4 : 2 * (i : Int) + 1 < (x.length : Int) := by have := Hxl.out; omega
          have i5 : 2 * (i : Int) + 1 < (y.length : Int) := by have := Hyl.out; omega
          have t1 : (2 * (i : Int)).toNat = 2 * i := by omega
          have t2 : (2 * (i : Int) + 1).toNat = 2 * i + 1 := by omega
          have Hst := Lib.hid hst
          clear hst hP hQ hS p1 p2 hbd f1 f2 f3 f4
          go_wp2
          go_quiet (fail)
          all_goals go_wp2
          all_goals
            go_roundw
            case rel => exact ⟨i + 1, by omega, by go_num, by rw [Hst.out], Lib.hid (below_drewN hb.out _)⟩
            case measure => simp [intOf]; omega
        · obtain rfl : i = n := by omega
          go_wp2
          go_ret
          exact ⟨by rw [Hf.out]; rfl, hb.out⟩
    · rw [decide_eq_false cY] at hY
      rw [show Tw.formOf g x y = 0 from if_neg fun h => cY h.2]
      have HX := Lib.hid hX; have HY := Lib.hid hY
      clear hX hY hx hy cX cY hE
      go_enter Tryd.func26, Tryd.ntmps26
      go_wp2_with fail
      refine HX.out.mono ?_
      rintro e w1 ⟨rfl, hb1⟩
      have Hb1 := Lib.hid hb1; clear hb1
      go_wp2_with fail
      refine (HY.out w1 Hb1.out).mono ?_
      rintro e w2 ⟨rfl, hb2⟩
      have Hb2 := Lib.hid (Hb1.out.trans (hb2.mono Hb1.out.size)); clear hb2
      go_wp2
      go_ret
      exact ⟨rfl, Hb2.out⟩
  · rw [decide_eq_false cX] at hX
    rw [show Tw.formOf g x y = 0 from if_neg fun h => cX h.1]
    have HX := Lib.hid hX
    clear hX hx hy cX hE
    go_enter Tryd.func26, Tryd.ntmps26
    go_wp2_with fail
    refine HX.out.mono ?_
    rintro e w1 ⟨rfl, hb1⟩
    have Hb1 := Lib.hid hb1; clear hb1
    go_wp2
    go_ret
    exact ⟨rfl, Hb1.out⟩
end Go.Proofs.YtamgimdjnmcpaaaDoor
