/-
  The walks of the model's DehnStep, l8Dehn and DehnWord, and of the program's DehnWord.
-/
import Derived.Test.YtfaagbmaekoogaaBase
import Derived.Test.YtfaagbmaekoogaaSlice
import Derived.Test.YtfaagbmaekoogaaInts
import Derived.Test.YtfaagbmaekoogaaOwn
import Derived.Test.YtfaagbmaekoogaaWord
import Derived.Test.YtfaagbmaekoogaaIsWord
import Derived.Test.YtfaagbmaekoogaaReduce
import Derived.Test.YtfaagbmaekoogaaReduceSpec
import Derived.Test.YtfaagbmaekoogaaAm
import Derived.Test.YtfaagbmaekoogaaGrpA
import Derived.Test.YtfaagbmaekoogaaGrpB
import Derived.Test.YtfaagbmaekoogaaGrpC
import Derived.Test.YtfaagbmaekoogaaGrpD
import Derived.WalkMore
import Derived.Outline
namespace Go.Proofs.Ytfaagbmaekoogaa
open Go.RowKit

theorem stepW_not {g : Int} {l : List Int} (h : ¬ Dn.Fit g l) : Dn.stepW g l = none := if_neg h
theorem stepW_of {g : Int} {l : List Int} (h : Dn.Fit g l) : Dn.stepW g l = Dn.step g (Word.red l) := if_pos h
theorem dehnW_not {g : Int} {l : List Int} (h : ¬ Dn.Fit g l) : Dn.dehnW g l = [] := if_neg h
theorem dehnW_of {g : Int} {l : List Int} (h : Dn.Fit g l) : Dn.dehnW g l = Dn.dehn g (Word.red l) := if_pos h
theorem Gives2.later {w w0 w' : World} {l : List Int} {b : Bool} {e : Ending} (h : Gives2 w0 l b e w') (hb : Below w.heap.size w w0) : Gives2 w l b e w' := by
  obtain ⟨a, c, he, h1, h2, h3, h4⟩ := h
  exact ⟨a, c, he, h1, h2, h3.mono hb.size, hb.trans (h4.mono hb.size)⟩
def lenOf (v : Value) : Nat := match v with | .slice _ n _ => n | _ => 0

set_option maxRecDepth 10000 in
set_option maxHeartbeats 1000000 in
theorem spec_DehnStep (g : Int) (a : Option Addr) (c : Nat) (l : List Int) (w : World) (ha : RowAt w a (intCells l)) (hl : l.length ≤ 1048576) :
    Calls Try.prog 48 #[.int .i64 g, .slice a l.length c] w fun e w' => Gives2 w ((Dn.stepW g l).getD []) (Dn.stepW g l).isSome e w' := by
  have hcF := spec_l8Fits g a c l w ha hl
  by_cases hF : Dn.Fit g l
  · rw [decide_eq_true hF] at hcF
    rw [stepW_of hF]
    have HF := Lib.hid hF; have HcF := Lib.hid hcF; have Ha := Lib.hid ha
    clear hF hcF ha
    go_enter Try.func48, Try.ntmps48
    go_wp2_with fail
    refine HcF.out.mono ?_
    rintro e w1 ⟨rfl, hb1⟩
    have Hb1 := Lib.hid hb1; clear hb1
    go_wp2_with fail
    refine (spec_l2Reduce a c l w1 (Ha.out.below Hb1.out) (by have := HF.out.2.1.2; omega) HF.out.2.1.1).mono ?_
    rintro e w2 ⟨ra, rc, rfl, hrc, hrcm, hfr, hb2⟩
    have Hfr := Lib.hid hfr; have Hb2 := Lib.hid (Hb1.out.trans (hb2.mono Hb1.out.size))
    clear hfr hb2
    have hcS := spec_l8Step g ra rc (Word.red l) w2 Hfr.out.row (by have := HF.out.red.2.1.2; omega) hrc HF.out.1 HF.out.red.lets
    generalize hS : Dn.step g (Word.red l) = S at *
    have HS := Lib.hid hS; clear hS
    have HcS := Lib.hid hcS; clear hcS
    go_wp2_with fail
    refine HcS.out.mono ?_
    rintro e w3 hg
    have Hg := Lib.hid (hg.later Hb2.out)
    obtain ⟨ya, yc, rfl, _, _, _, _⟩ := hg
    go_wp2
    go_ret2
    rw [HS.out]
    exact Hg.out
  · rw [decide_eq_false hF] at hcF
    rw [stepW_not hF]
    have HcF := Lib.hid hcF
    clear hcF hF
    go_enter Try.func48, Try.ntmps48
    go_wp2_with fail
    refine HcF.out.mono ?_
    rintro e w1 ⟨rfl, hb1⟩
    go_wp2
    go_ret2
    exact Gives.with2 (own_gives (by exact own_mono (own_made (w := w1) rfl) hb1.size) rfl (hb1.alloc hb1.size _))

set_option maxRecDepth 10000 in
set_option maxHeartbeats 2000000 in
theorem spec_l8Dehn (g : Int) (a : Option Addr) (c : Nat) (l : List Int) (w : World) (ha : RowAt w a (intCells l)) (hl : l.length ≤ 1000) (hG : Dn.Gr g) (hL : ∀ x ∈ l, Dn.Let g x) :
    Calls Try.prog 129 #[.int .i64 g, .slice a l.length c] w fun e w' => Gives w (Dn.dehn g (Word.red l)) e w' := by
  have hcR := spec_l2Reduce a c l w ha hl (fun x hx => (hL x hx).1)
  have hlen := Word.red_len l
  have hrL : ∀ x ∈ Word.red l, Dn.Let g x := Word.red_mem hL
  generalize Word.red l = R at *
  have HcR := Lib.hid hcR; have HrL := Lib.hid hrL; have Hg := Lib.hid hG
  clear hcR hrL hL ha hG
  go_enter Try.func129, Try.ntmps129
  go_wp2_with fail
  refine HcR.out.mono ?_
  rintro e w1 ⟨ra, rc, rfl, hrc, hrcm, hfr, hb1⟩
  have Hfr := Lib.hid hfr; have Hb1 := Lib.hid hb1
  clear hfr hb1
  go_wp2
  go_loopw [5, 6, 7] (fun ov _ _ wr => ∃ (v : List Int) (va : Option Addr) (vc : Nat), ov = .slice va v.length vc ∧ v.length ≤ 1000 ∧ Hid (v.length ≤ vc ∧ vc ≤ maxLen ∧ Fresh wr w.heap.size 3 va (intCells v) ∧ Below w.heap.size w wr ∧ Dn.dehn g v = Dn.dehn g R ∧ ∀ x ∈ v, Dn.Let g x)) (fun ov _ _ _ => lenOf ov)
  case atStart => exact ⟨R, ra, rc, rfl, by omega, Lib.hid ⟨hrc, hrcm, Hfr.out, Hb1.out, rfl, HrL.out⟩⟩
  case round =>
    obtain ⟨v, va, vc, rfl, hv, hh⟩ := hrel
    obtain ⟨h1, h2, h3, h4, h5, h6⟩ := hh.out
    have hcS := spec_l8Step g va vc v wr h3.row hv h1 Hg.out h6
    have hsl := fun r => Dn.step_len (g := g) (w := v) (r := r) Hg.out
    have hsL := fun r => Dn.step_letters (g := g) (w := v) (r := r) Hg.out h6
    have hd0 := fun h : Dn.step g v = none => Dn.dehn_none h
    have hd1 := fun r => Dn.dehn_some (g := g) (w := v) (r := r) Hg.out
    clear h1 h2 h3 h4 h5 h6
    cases hS : Dn.step g v with
    | none =>
      rw [hS] at hcS
      have Hd := Lib.hid (hd0 hS)
      have HcS := Lib.hid hcS
      clear hcS hS hd0 hd1 hsL hsl
      go_wp2_with fail
      refine HcS.out.mono ?_
      rintro e w3 ⟨ya, yc, rfl, hyc, hycm, hfy, hb3⟩
      have Hb3 := Lib.hid hb3
      clear hfy hb3
      go_wp2
      go_ret
      obtain ⟨h1, h2, h3, h4, h5, h6⟩ := hh.out
      rw [← h5, Hd.out]
      exact ⟨_, _, rfl, h1, h2, h3.below Hb3.out, h4.trans (Hb3.out.mono h4.size)⟩
    | some r =>
      rw [hS] at hcS
      have Hd := Lib.hid (hd1 r hS)
      have HsL := Lib.hid (hsL r hS)
      have hlt := hsl r hS
      have HcS := Lib.hid hcS
      clear hcS hS hd0 hd1 hsL hsl
      go_wp2_with fail
      refine HcS.out.mono ?_
      rintro e w3 ⟨ya, yc, rfl, hyc, hycm, hfy, hb3⟩
      have Hb3 := Lib.hid hb3; have Hfy := Lib.hid hfy
      clear hfy hb3
      go_wp2
      go_roundw
      case rel =>
        obtain ⟨h1, h2, h3, h4, h5, h6⟩ := hh.out
        exact ⟨r, ya, yc, rfl, by omega, Lib.hid ⟨hyc, hycm, Hfy.out.mono h4.size, h4.trans (Hb3.out.mono h4.size), by rw [← h5, Hd.out], HsL.out⟩⟩
      case measure => simp only [lenOf, Option.getD_some]; omega

set_option maxRecDepth 10000 in
set_option maxHeartbeats 1000000 in
theorem spec_DehnWord (g : Int) (a : Option Addr) (c : Nat) (l : List Int) (w : World) (ha : RowAt w a (intCells l)) (hl : l.length ≤ 1048576) :
    Calls Try.prog 60 #[.int .i64 g, .slice a l.length c] w fun e w' => Gives w (Dn.dehnW g l) e w' := by
  have hcF := spec_l8Fits g a c l w ha hl
  by_cases hF : Dn.Fit g l
  · rw [decide_eq_true hF] at hcF
    rw [dehnW_of hF]
    have HF := Lib.hid hF; have HcF := Lib.hid hcF; have Ha := Lib.hid ha
    clear hF hcF ha
    go_enter Try.func60, Try.ntmps60
    go_wp2_with fail
    refine HcF.out.mono ?_
    rintro e w1 ⟨rfl, hb1⟩
    have Hb1 := Lib.hid hb1; clear hb1
    go_wp2_with fail
    refine (spec_l8Dehn g a c l w1 (Ha.out.below Hb1.out) (by have := HF.out.2.1.2; omega) HF.out.1 HF.out.lets).mono ?_
    rintro e w2 hg
    have Hg := Lib.hid (hg.later Hb1.out)
    obtain ⟨ya, yc, rfl, _, _, _, _⟩ := hg
    go_wp2
    go_ret
    exact Hg.out
  · rw [decide_eq_false hF] at hcF
    rw [dehnW_not hF]
    have HcF := Lib.hid hcF
    clear hcF hF
    go_enter Try.func60, Try.ntmps60
    go_wp2_with fail
    refine HcF.out.mono ?_
    rintro e w1 ⟨rfl, hb1⟩
    go_wp2
    go_ret
    exact own_gives (by exact own_mono (own_made (w := w1) rfl) hb1.size) rfl (hb1.alloc hb1.size _)

set_option maxRecDepth 10000 in
set_option maxHeartbeats 2000000 in
theorem impl_DehnWord (g : Int) (a : Option Addr) (c : Nat) (l : List Int) (w : World) (ha : RowAt w a (intCells l)) (hl : l.length ≤ 1048576) :
    Calls Try.prog 52 #[.int .i64 g, .slice a l.length c] w fun e w' => Gives w (Dn.dehnW g l) e w' := by
  have hcF := impl_isGroupWord g a c l w ha (by omega)
  by_cases hF : Dn.Fit g l
  · rw [decide_eq_true hF] at hcF
    rw [dehnW_of hF]
    have hcR := fun W (hb : Below w.heap.size w W) => impl_ReduceWord a c l W (ha.below hb) hl
    rw [show Word.reduce l = Word.red l from if_pos hF.2.1] at hcR
    have hRF := hF.red
    have hRR := Am.red_red l
    have hG := hF.1
    generalize Word.red l = R at *
    have HcF := Lib.hid hcF; have HcR := Lib.hid hcR; have HRF := Lib.hid hRF; have HRR := Lib.hid hRR; have Hg := Lib.hid hG
    clear hF hcF ha hcR hRF hRR hG
    go_enter Try.func52, Try.ntmps52
    go_wp2
    go_step3
    go_wp2_with fail
    refine HcF.out.mono ?_
    rintro e w1 ⟨rfl, hb1⟩
    have Hb1 := Lib.hid hb1; clear hb1
    go_wp2_with fail
    refine (HcR.out w1 Hb1.out).mono ?_
    rintro e w2 ⟨ra, rc, rfl, hrc, hrcm, hfr, hb2⟩
    have Hfr := Lib.hid (hfr.mono Hb1.out.size); have Hb2 := Lib.hid (Hb1.out.trans (hb2.mono Hb1.out.size))
    clear hfr hb2
    go_wp2
    go_step3
    go_wp2
    go_loopw [5, 6, 7] (fun ov _ _ wr => ∃ (v : List Int) (va : Option Addr) (vc : Nat), ov = .slice va v.length vc ∧ v.length ≤ 1000 ∧ Hid (v.length ≤ vc ∧ vc ≤ maxLen ∧ Fresh wr w.heap.size 3 va (intCells v) ∧ Below w.heap.size w wr ∧ Dn.dehn g v = Dn.dehn g R ∧ Dn.Fit g v ∧ Word.red v = v)) (fun ov _ _ _ => lenOf ov)
    case atStart => exact ⟨R, ra, rc, rfl, by have := HRF.out.2.1.2; omega, Lib.hid ⟨hrc, hrcm, Hfr.out, Hb2.out, rfl, HRF.out, HRR.out⟩⟩
    case round =>
      obtain ⟨v, va, vc, rfl, hv, hh⟩ := hrel
      obtain ⟨h1, h2, h3, h4, h5, h6, h7⟩ := hh.out
      have hcS := impl_DehnStep_fit g va vc v wr h3.row h6
      rw [h7] at hcS
      have hsl := fun r => Dn.step_len (g := g) (w := v) (r := r) Hg.out
      have hsL := fun r => Dn.step_letters (g := g) (w := v) (r := r) Hg.out h6.lets
      have hsR := fun r => Dn.step_red (g := g) (w := v) (r := r)
      have hd0 := fun h : Dn.step g v = none => Dn.dehn_none h
      have hd1 := fun r => Dn.dehn_some (g := g) (w := v) (r := r) Hg.out
      clear h1 h2 h3 h4 h5 h6 h7
      cases hS : Dn.step g v with
      | none =>
        rw [hS] at hcS
        have Hd := Lib.hid (hd0 hS)
        have HcS := Lib.hid hcS
        clear hcS hS hd0 hd1 hsL hsl hsR
        go_wp2_with fail
        refine HcS.out.mono ?_
        rintro e w3 ⟨ya, yc, rfl, hyc, hycm, hfy, hb3⟩
        have Hb3 := Lib.hid hb3
        clear hfy hb3
        go_wp2
        simp only [Exit.noGoto_ret]
        go_ret
        obtain ⟨h1, h2, h3, h4, h5, h6, h7⟩ := hh.out
        rw [← h5, Hd.out]
        exact ⟨_, _, rfl, h1, h2, h3.below Hb3.out, h4.trans (Hb3.out.mono h4.size)⟩
      | some r =>
        rw [hS] at hcS
        have Hd := Lib.hid (hd1 r hS)
        have hlt := hsl r hS
        have HsF := Lib.hid (Dn.Fit.mk Hg.out (hsL r hS) (by have := hh.out.2.2.2.2.2.1.2.1.2; omega))
        have HsR := Lib.hid (hsR r hS)
        have HcS := Lib.hid hcS
        clear hcS hS hd0 hd1 hsL hsl hsR
        go_wp2_with fail
        refine HcS.out.mono ?_
        rintro e w3 ⟨ya, yc, rfl, hyc, hycm, hfy, hb3⟩
        have Hb3 := Lib.hid hb3; have Hfy := Lib.hid hfy
        clear hfy hb3
        go_wp2
        go_roundw
        case rel =>
          obtain ⟨h1, h2, h3, h4, h5, h6, h7⟩ := hh.out
          exact ⟨r, ya, yc, rfl, by omega, Lib.hid ⟨hyc, hycm, Hfy.out.mono h4.size, h4.trans (Hb3.out.mono h4.size), by rw [← h5, Hd.out], HsF.out, HsR.out⟩⟩
        case measure => simp only [lenOf, Option.getD_some]; omega
  · rw [decide_eq_false hF] at hcF
    rw [dehnW_not hF]
    have HcF := Lib.hid hcF
    clear hcF hF
    go_enter Try.func52, Try.ntmps52
    go_wp2
    go_step3
    go_wp2_with fail
    refine HcF.out.mono ?_
    rintro e w1 ⟨rfl, hb1⟩
    go_wp2
    simp only [Exit.noGoto_ret]
    go_ret
    exact Gives.none hb1
end Go.Proofs.Ytfaagbmaekoogaa
