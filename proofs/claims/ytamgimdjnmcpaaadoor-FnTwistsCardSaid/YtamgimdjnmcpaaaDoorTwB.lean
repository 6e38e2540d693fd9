/-
  The walks of the program's TwistClass, isTable, ApplyTable, commonDivisor and IsPrimitiveClass.
-/
import Derived.Test.YtamgimdjnmcpaaaDoorBase
import Derived.Test.YtamgimdjnmcpaaaDoorSlice
import Derived.Test.YtamgimdjnmcpaaaDoorIntRow
import Derived.Test.YtamgimdjnmcpaaaDoorInts
import Derived.Test.YtamgimdjnmcpaaaDoorOwn
import Derived.Test.YtamgimdjnmcpaaaDoorTw
import Derived.Test.YtamgimdjnmcpaaaDoorTwErr
import Derived.Test.YtamgimdjnmcpaaaDoorTwA
import Derived.Test.YtamgimdjnmcpaaaDoorGrid
import Derived.Deep.QuietTactic
import Derived.Deep.RegionHeld3
import Derived.BigQuiet
import Derived.StillTailTactics
namespace Go.Proofs.YtamgimdjnmcpaaaDoor
open Go.RowKit

theorem intCells_some {l : List Int} {i : Nat} {v : Int} (h : l[i]? = some v) : (intCells l)[i]? = some (.int .i64 v) := by
  unfold intCells; rw [List.getElem?_map, h]; rfl
theorem mk_ints (T : List Int) (n : Nat) (h : T.length = n) (hn : n ≤ 1048576) (w : World) : (Instr.makeSlice 24 (.int .i64 (n : Int)) (.int .i64 (n : Int))).run Tryd.prog w = .ok (.slice (some ⟨w.heap.size, 0, none⟩) n n) (w.alloc (.cells (filled (intCells T) (.int .i64 0) 0) 3)) := by
  obtain ⟨i0, hi, hz0, hz1, hz2⟩ := info_parts info_int
  have hmk := run_make_rowN (P := Tryd.prog) 24 3 i0 _ Tryd.underlying24 hi hz0 .i64 .i64 n n (Nat.le_refl _) (by rw [hz2]; omega) (by omega) w
  have hmc : madeCells (Value.int .i64 0).cells (n * i0.size) = filled (intCells T) (.int .i64 0) 0 := by
    rw [hz1, Nat.mul_one, filled_zero, intCells_len, h]; exact made_one _ _
  rw [hmc] at hmk
  exact hmk
theorem filled_blk {w : World} {N : Nat} {T : List Int} {n : Nat} (h : Blk w N 3 (filled (intCells T) (.int .i64 0) n)) (hn : T.length = n) : Blk w N 3 (intCells T).toArray := by
  rw [← hn, ← intCells_len, filled_all] at h
  exact h

set_option maxRecDepth 10000 in
set_option maxHeartbeats 2000000 in
theorem impl_TwistClass (g : Int) (ac : Option Addr) (cc : Nat) (c : List Int) (ax : Option Addr) (cx : Nat) (x : List Int) (k : Int) (w : World) (hE : Errs w) (hc : RowAt w ac (intCells c)) (hlc : c.length ≤ 1048576) (hx : RowAt w ax (intCells x)) (hlx : x.length ≤ 1048576) :
    Calls Tryd.prog 15 #[.int .i64 g, .slice ac c.length cc, .slice ax x.length cx, .int .i64 k] w fun e w' => Gives2 w (Tw.twist g c x k) (decide (Tw.TwOk g c x k)) e w' := by
  have hC := impl_IsClass g ac cc c w hE hc hlc
  by_cases cC : Tw.IsC g c
  · rw [decide_eq_true cC] at hC
    have hX := fun W (hb : Below w.heap.size w W) => impl_IsClass g ax cx x W (hE.keeps hb) (hx.below hb) hlx
    by_cases cX : Tw.IsC g x
    · rw [decide_eq_true cX] at hX
      by_cases k1 : -20 ≤ k
      · by_cases k2 : k ≤ 20
        · have hF := fun W (hb : Below w.heap.size w W) => impl_FormOf g ac cc c ax cx x W (hE.keeps hb) (hc.below hb) hlc (hx.below hb) hlx
          rw [Tw.formOf_of cC cX] at hF
          have hbd := Tw.form_bound cC cX
          have hall := Tw.tw_bound cC cX ⟨k1, k2⟩
          obtain ⟨T, hT⟩ : ∃ T, Tw.tw c x (k * Tw.form c x) = T := ⟨_, rfl⟩
          have hTn : ∀ (i : Nat), i < x.length → T[i]? = some (Tw.nth x i + k * Tw.form c x * Tw.nth c i) := fun (i : Nat) (hi : i < x.length) => by
            rw [← hT]; exact (Tw.get?_nth (x := Tw.tw c x (k * Tw.form c x)) (i := i) (by rw [Tw.tw_len]; exact hi)).trans (congrArg some (Tw.tw_nth (c := c) (n := k * Tw.form c x) hi))
          have hTl : T.length = x.length := by rw [← hT]; exact Tw.tw_len c x (k * Tw.form c x)
          have hres := Tw.twist_keep cC cX ⟨k1, k2⟩
          rw [hT] at hres
          rw [hres.1, hres.2]
          have hxl := cX.len; have hcl := cC.len
          have hlcx : c.length = x.length := by omega
          have hx6 := hxl.1
          clear hT hres
          obtain ⟨F, hF0⟩ : ∃ F, Tw.form c x = F := ⟨_, rfl⟩
          simp only [hF0] at hF hbd hall hTn
          obtain ⟨M, hM⟩ : ∃ M, k * F = M := ⟨_, rfl⟩
          simp only [hM] at hall hTn
          have eM : IntKind.i64.wrap (k * F) = M := by rw [hM]; have := (hall 0).1; exact wrap_small (by omega) (by omega)
          have hmk := fun W => mk_ints T x.length hTl (by omega) W
          have Hx := Lib.hid hX; have HC := Lib.hid hC; have HF := Lib.hid hF; have Hall := Lib.hid hall; have HTn := Lib.hid hTn; have HTl := Lib.hid hTl; have HE := Lib.hid hE; have Rc := Lib.hid hc; have Rx := Lib.hid hx; have Hl := Lib.hid hlcx
          have fx := Lib.hid cX.2.2; have fc := Lib.hid cC.2.2
          clear hC hX hF hall hTn hTl hE hc hx hlcx hxl hcl cC cX hM hF0 hbd
          go_enter Tryd.func15, Tryd.ntmps15
          go_wp2_with fail
          refine HC.out.mono ?_
          rintro e w1 ⟨rfl, hb1⟩
          have Hb1 := Lib.hid hb1; clear hb1
          go_wp2_with fail
          refine (Hx.out w1 Hb1.out).mono ?_
          rintro e w2 ⟨rfl, hb2⟩
          have Hb2 := Lib.hid (Hb1.out.trans (hb2.mono Hb1.out.size)); clear hb2
          go_wp2_with fail
          refine (HF.out w2 Hb2.out).mono ?_
          rintro e w3 ⟨rfl, hb3⟩
          have Hb3 := Lib.hid (Hb2.out.trans (hb3.mono Hb2.out.size)); clear hb3
          obtain ⟨N, hN⟩ : ∃ N, w3.heap.size = N := ⟨_, rfl⟩
          have HN := Lib.hid hN
          have HNw := Lib.hid (show w.heap.size ≤ N by rw [← hN]; exact Hb3.out.size)
          have Hst0 := Lib.hid (show Blk (w3.alloc (.cells (filled (intCells T) (.int .i64 0) 0) 3)) N 3 (filled (intCells T) (.int .i64 0) 0) by rw [← hN]; exact Blk.new w3 _ _)
          have hmk3 := hmk w3
          rw [hN] at hmk3
          clear hN hmk
          go_wp2
          go_loopw [12, 42] (fun _ iv wr => ∃ i : Nat, i ≤ x.length ∧ iv = .int .i64 i ∧ Hid (Blk wr N 3 (filled (intCells T) (.int .i64 0) i)) ∧ Hid (Below w.heap.size w wr)) (fun _ iv _ => x.length - (intOf iv).toNat)
          case atStart => exact ⟨0, by omega, rfl, Hst0, Lib.hid (Hb3.out.alloc Hb3.out.size _)⟩
          case round =>
            obtain ⟨i, hi, rfl, hk, hb⟩ := hrel
            by_cases hlt : i < x.length
            · obtain ⟨b, o, eb, hbw, hc1⟩ := intCells_get? (Rx.out.below hb.out) (Tw.get?_nth hlt)
              obtain ⟨b', o', eb', hbw', hc2⟩ := intCells_get? (Rc.out.below hb.out) (Tw.get?_nth (show i < c.length by rw [Hl.out]; exact hlt))
              subst eb; subst eb'
              have Hs := Lib.hid (filled_step (z := .int .i64 0) (intCells_some (HTn.out i hlt)))
              have hfz := hk.out.frozen i
              have hdst : wr.cell? ⟨N, i, none⟩ = some (.int .i64 0) := by rw [hk.out.cell i]; exact filled_at (by rw [intCells_len, HTl.out]; exact hlt)
              have hbd := (Hall.out i).2
              have f1 := fx.out.nth i; have f2 := fc.out.nth i
              generalize Tw.nth x i = A at *
              generalize Tw.nth c i = B at *
              obtain ⟨P, hP⟩ : ∃ P, M * B = P := ⟨_, rfl⟩
              rw [hP] at hbd Hs
              have e1 : IntKind.i64.wrap (M * B) = P := by rw [hP]; exact wrap_small (by omega) (by omega)
              have e2 : IntKind.i64.wrap (A + P) = A + P := wrap_small (by omega) (by omega)
              have i0 : (0 : Int) ≤ (i : Int) := by omega
              have i1 : (i : Int) < (x.length : Int) := by omega
              have i2 : (i : Int) < (c.length : Int) := by have := Hl.out; omega
              clear hP hbd f1 f2
              go_wp2
              go_still_tail 14, (by kernel_rfl)
              change wpList _ _ _ _ _ wr.drew
              go_wp2
              go_roundw
              case rel =>
                refine ⟨i + 1, by omega, by go_num, Lib.hid ?_, Lib.hid (Below.setCell (below_drewN hb.out 1) HNw.out _)⟩
                have h := (hk.out.drewN 1).put i (.int .i64 (A + P))
                rw [Hs.out] at h; exact h
              case measure => simp [intOf]; omega
            · obtain rfl : i = x.length := by omega
              have Hk := Lib.hid (filled_blk hk.out HTl.out)
              have Hrow := Lib.hid (show RowAt wr (some ⟨N, 0, none⟩) (intCells T) from (RowIn.of_blk Hk.out (Nat.zero_le _) Hk.out.lt).row)
              have hA := impl_areTooGreat (some ⟨N, 0, none⟩) x.length T wr (HE.out.keeps hb.out) Hrow.out (by rw [HTl.out]; omega)
              rw [HTl.out] at hA
              have HA := Lib.hid hA
              clear hA
              by_cases hF : Tw.Fits T
              · rw [decide_eq_true hF] at HA
                have HF := Lib.hid hF; clear hF
                go_wp2_with fail
                refine HA.out.mono ?_
                rintro e w5 ⟨rfl, hb5⟩
                have Hb5 := Lib.hid hb5; clear hb5
                go_wp2
                go_ret2
                rw [Tw.ok_true HF.out, Tw.keep_true HF.out]
                exact ⟨_, _, by rw [HTl.out]; rfl, by rw [HTl.out]; exact Nat.le_refl _, by unfold maxLen; omega, Fresh.of_blk (Hk.out.below Hb5.out Hk.out.lt) HNw.out, hb.out.trans (Hb5.out.mono hb.out.size)⟩
              · rw [decide_eq_false hF] at HA
                have HF := Lib.hid hF; clear hF
                go_wp2_with fail
                refine HA.out.mono ?_
                rintro e w5 ⟨rfl, hb5⟩
                have Hb5 := Lib.hid hb5; clear hb5
                go_wp2
                go_ret2
                rw [Tw.ok_false HF.out, Tw.keep_false HF.out]
                exact Gives2.none (hb.out.trans (Hb5.out.mono hb.out.size))
        · have hno : ¬ Tw.TwOk g c x k := fun h => k2 h.2.1.2
          rw [Tw.twist_none hno, decide_eq_false hno]
          have Hx := Lib.hid hX; have HC := Lib.hid hC
          clear hC hX hno cC cX hE hc hx
          go_enter Tryd.func15, Tryd.ntmps15
          go_wp2_with fail
          refine HC.out.mono ?_
          rintro e w1 ⟨rfl, hb1⟩
          have Hb1 := Lib.hid hb1; clear hb1
          go_wp2_with fail
          refine (Hx.out w1 Hb1.out).mono ?_
          rintro e w2 ⟨rfl, hb2⟩
          have Hb2 := Lib.hid (Hb1.out.trans (hb2.mono Hb1.out.size)); clear hb2
          go_wp2
          go_ret2
          exact Gives2.none Hb2.out
      · have hno : ¬ Tw.TwOk g c x k := fun h => k1 h.2.1.1
        rw [Tw.twist_none hno, decide_eq_false hno]
        have Hx := Lib.hid hX; have HC := Lib.hid hC
        clear hC hX hno cC cX hE hc hx
        go_enter Tryd.func15, Tryd.ntmps15
        go_wp2_with fail
        refine HC.out.mono ?_
        rintro e w1 ⟨rfl, hb1⟩
        have Hb1 := Lib.hid hb1; clear hb1
        go_wp2_with fail
        refine (Hx.out w1 Hb1.out).mono ?_
        rintro e w2 ⟨rfl, hb2⟩
        have Hb2 := Lib.hid (Hb1.out.trans (hb2.mono Hb1.out.size)); clear hb2
        go_wp2
        go_ret2
        exact Gives2.none Hb2.out
    · rw [decide_eq_false cX] at hX
      have hno : ¬ Tw.TwOk g c x k := fun h => cX h.1.2
      rw [Tw.twist_none hno, decide_eq_false hno]
      have Hx := Lib.hid hX; have HC := Lib.hid hC
      clear hC hX hno cC cX hE hc hx
      go_enter Tryd.func15, Tryd.ntmps15
      go_wp2_with fail
      refine HC.out.mono ?_
      rintro e w1 ⟨rfl, hb1⟩
      have Hb1 := Lib.hid hb1; clear hb1
      go_wp2_with fail
      refine (Hx.out w1 Hb1.out).mono ?_
      rintro e w2 ⟨rfl, hb2⟩
      have Hb2 := Lib.hid (Hb1.out.trans (hb2.mono Hb1.out.size)); clear hb2
      go_wp2
      go_ret2
      exact Gives2.none Hb2.out
  · rw [decide_eq_false cC] at hC
    have hno : ¬ Tw.TwOk g c x k := fun h => cC h.1.1
    rw [Tw.twist_none hno, decide_eq_false hno]
    have HC := Lib.hid hC
    clear hC hno cC hE hc hx
    go_enter Tryd.func15, Tryd.ntmps15
    go_wp2_with fail
    refine HC.out.mono ?_
    rintro e w1 ⟨rfl, hb1⟩
    have Hb1 := Lib.hid hb1; clear hb1
    go_wp2
    go_ret2
    exact Gives2.none Hb1.out
end Go.Proofs.YtamgimdjnmcpaaaDoor
