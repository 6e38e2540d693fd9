/-
  The walks of the program's and the model's AreConjugate and ProductWord.
-/
import Derived.Test.YtapclpfhpmmbjaaBase
import Derived.Test.YtapclpfhpmmbjaaSlice
import Derived.Test.YtapclpfhpmmbjaaInts
import Derived.Test.YtapclpfhpmmbjaaWord
import Derived.Test.YtapclpfhpmmbjaaIsWord
import Derived.Test.YtapclpfhpmmbjaaReduce
import Derived.Test.YtapclpfhpmmbjaaReduceSpec
import Derived.Test.YtapclpfhpmmbjaaAppend
import Derived.Test.YtapclpfhpmmbjaaCore
import Derived.Test.YtapclpfhpmmbjaaConcat
import Derived.Test.YtapclpfhpmmbjaaTurn
import Derived.Deep.QuietTactic
import Derived.StillTailTactics
import Derived.BigQuiet
namespace Go.Proofs.Ytapclpfhpmmbjaa
open Go.RowKit

/-- Whether some turn of a, from the k-th on, is b. -/
def TurnIs (a b : List Int) : Prop := ∃ k, k < a.length ∧ Word.turn a (k : Nat) = b
def ConjB (a b : List Int) : Prop := TurnIs a b ∨ a = [] ∧ b = []
open Classical in
noncomputable def conjB (v w : List Int) : Bool := decide (Word.Conj v w)
open Classical in
theorem conj_not1 {v w : List Int} (h : ¬ Word.IsW v) : conjB v w = false := by
  unfold conjB; exact decide_eq_false (fun x => h x.1)
open Classical in
theorem conj_not2 {v w : List Int} (h : ¬ Word.IsW w) : conjB v w = false := by
  unfold conjB; exact decide_eq_false (fun x => h x.2.1)
open Classical in
theorem conj_empty {v w : List Int} (h1 : Word.IsW v) (h2 : Word.IsW w) (he : (Word.core (Word.red v)).length = 0) (b : Bool) (hb : b = true ↔ (Word.core (Word.red w)).length = 0) : conjB v w = b := by
  unfold conjB
  have h0 := List.eq_nil_of_length_eq_zero he
  rw [Bool.eq_iff_iff, hb, decide_eq_true_iff]
  constructor
  · rintro ⟨_, _, ⟨k, hk, _⟩ | ⟨_, h⟩⟩
    · rw [he] at hk; omega
    · rw [h]; rfl
  · intro h
    exact ⟨h1, h2, Or.inr ⟨h0, List.eq_nil_of_length_eq_zero h⟩⟩
open Classical in
theorem conj_yes {v w : List Int} (h1 : Word.IsW v) (h2 : Word.IsW w) {k : Nat} (hk : k < (Word.core (Word.red v)).length) (h : Word.turn (Word.core (Word.red v)) (k : Nat) = Word.core (Word.red w)) : conjB v w = true := by
  unfold conjB; exact decide_eq_true ⟨h1, h2, Or.inl ⟨k, hk, h⟩⟩
open Classical in
theorem conj_no {v w : List Int} (he : (Word.core (Word.red v)).length ≠ 0) (h : ∀ k, k < (Word.core (Word.red v)).length → Word.turn (Word.core (Word.red v)) (k : Nat) ≠ Word.core (Word.red w)) : conjB v w = false := by
  unfold conjB
  refine decide_eq_false ?_
  rintro ⟨_, _, ⟨k, hk, hx⟩ | ⟨hx, _⟩⟩
  · exact h k hk hx
  · rw [hx] at he; exact he rfl
theorem coreOf_of {l : List Int} (h : Word.IsW l) : Word.coreOf l = Word.core (Word.red l) := if_pos h
theorem core_red_w {l : List Int} (h : Word.IsW l) : Word.IsW (Word.core (Word.red l)) := Word.core_w (Word.red_w h)

set_option maxRecDepth 10000 in
set_option maxHeartbeats 400000 in
theorem impl_AreConjugate (aV : Option Addr) (cV : Nat) (lV : List Int) (aW : Option Addr) (cW : Nat) (lW : List Int) (w : World) (haV : RowAt w aV (intCells lV)) (hlV : lV.length ≤ 1048576) (haW : RowAt w aW (intCells lW)) (hlW : lW.length ≤ 1048576) :
    Calls Try.prog 28 #[.slice aV lV.length cV, .slice aW lW.length cW] w fun e w' => e = .returned (.bool (conjB lV lW)) ∧ Below w.heap.size w w' := by
  have hcV := impl_IsWord aV cV lV w haV hlV
  by_cases hV : Word.IsW lV
  · have hcW := fun W h => impl_IsWord aW cW lW W h hlW
    by_cases hW : Word.IsW lW
    · rw [decide_eq_true hV] at hcV
      rw [decide_eq_true hW] at hcW
      have HcV := Lib.hid hcV; have HcW := Lib.hid hcW; have HV := Lib.hid hV; have HW := Lib.hid hW
      clear hcV hcW hV hW
      go_enter Try.func28, Try.ntmps28
      go_wp2_with fail
      refine HcV.out.mono ?_
      rintro e w1 ⟨rfl, hb1⟩
      go_wp2_with fail
      refine (HcW.out w1 (haW.below hb1)).mono ?_
      rintro e w2 ⟨rfl, hb2⟩
      have hb2' : Below w.heap.size w w2 := hb1.trans (hb2.mono hb1.size)
      go_wp2_with fail
      refine (impl_CoreWord aV cV lV w2 (haV.below hb2') hlV).mono ?_
      rintro e w3 ⟨ra, rc, rfl, hr1, hr2, hrf, hb3⟩
      rw [coreOf_of HV.out] at hr1 hrf ⊢
      have hb3' : Below w.heap.size w w3 := hb2'.trans (hb3.mono hb2'.size)
      go_wp2_with fail
      refine (impl_CoreWord aW cW lW w3 (haW.below hb3') hlW).mono ?_
      rintro e w4 ⟨sa, sc, rfl, hs1, hs2, hsf, hb4⟩
      rw [coreOf_of HW.out] at hs1 hsf ⊢
      have hb4' : Below w.heap.size w w4 := hb3'.trans (hb4.mono hb3'.size)
      have hR := Lib.hid (hrf.row.below hb4)
      have hS := Lib.hid hsf.row
      have hXw := core_red_w HV.out
      have hYw := core_red_w HW.out
      have hXl := hXw.2
      have hYl := hYw.2
      have HXw := Lib.hid hXw
      clear hrf hsf hXw hYw
      have Hem := Lib.hid (@conj_empty lV lW HV.out HW.out)
      have Hye := Lib.hid (fun (k : Nat) => @conj_yes lV lW HV.out HW.out k)
      have Hno := Lib.hid (@conj_no lV lW)
      generalize Word.core (Word.red lV) = X at *
      generalize Word.core (Word.red lW) = Y at *
      by_cases hX : X.length = 0
      · have hd : decide ((Y.length : Int) = 0) = decide (Y.length = 0) := by simp
        have Hd := Lib.hid (Hem.out hX (decide (Y.length = 0)) (by simp))
        by_cases hY : Y.length = 0
        · go_wp2
          go_ret
          refine ⟨?_, hb4'⟩
          rw [Hd.out]; simp [hY]
        · have hY' : ((Y.length : Int) == 0) = false := by rw [beq_eq_false_iff_ne]; omega
          go_wp2
          go_ret
          refine ⟨?_, hb4'⟩
          rw [Hd.out]; simp [hY]
      · have hX' : ((X.length : Int) == 0) = false := by rw [beq_eq_false_iff_ne]; omega
        have Hb4 := Lib.hid hb4'
        go_wp2
        go_loopw [4, 7, 28] (fun rv _ iv wr => rv = .bool false ∧ ∃ i : Nat, i ≤ X.length ∧ iv = .int .i64 i ∧ Below w4.heap.size w4 wr ∧ Hid (∀ k, k < i → Word.turn X (k : Nat) ≠ Y)) (fun _ _ iv _ => X.length - (intOf iv).toNat)
        case atStart => exact ⟨rfl, 0, by omega, rfl, Below.refl _ _, Lib.hid (fun k h => by omega)⟩
        case round =>
          obtain ⟨rfl, i, hi, rfl, hb, hall⟩ := hrel
          by_cases hlt : i < X.length
          · have hT := impl_TurnWord ra rc X i wr (hR.out.below hb) (by omega) hr1 (by omega) (by omega)
            rw [turned_of HXw.out] at hT
            have HT := Lib.hid hT; clear hT
            have hTl := Word.turn_len X (i : Nat)
            have Hyes := Lib.hid (Hye.out i hlt)
            generalize hZ : Word.turn X (i : Nat) = Z at *
            have HZ := Lib.hid hZ
            have HTl := Lib.hid hTl; clear hZ hTl
            go_wp2_with fail
            refine HT.out.mono ?_
            rintro e w5 ⟨ta, tc, rfl, ht1, ht2, htf, hb5⟩
            have hE := slices_Equal ta sa tc sc Z Y w5 htf.row (hS.out.below (hb.trans (hb5.mono hb.size))) (by have := HTl.out; omega) (by omega)
            by_cases hzy : Z = Y
            · rw [decide_eq_true hzy] at hE
              have HE := Lib.hid hE; have Hy := Lib.hid (Hyes.out hzy); clear hE hzy
              go_wp2_with fail
              refine HE.out.mono ?_
              rintro e w6 ⟨rfl, hb6⟩
              go_wp2
              go_ret
              refine ⟨by rw [Hy.out]; rfl, ?_⟩
              have h5 := hb.trans (hb5.mono hb.size)
              have h6 := h5.trans (hb6.mono h5.size)
              exact Hb4.out.trans (h6.mono Hb4.out.size)
            · rw [decide_eq_false hzy] at hE
              have HE := Lib.hid hE; have Hn := Lib.hid hzy; clear hE hzy
              go_wp2_with fail
              refine HE.out.mono ?_
              rintro e w6 ⟨rfl, hb6⟩
              have h5 := hb.trans (hb5.mono hb.size)
              have h6 := h5.trans (hb6.mono h5.size)
              go_wp2
              go_roundw
              case rel => exact ⟨rfl, i + 1, by omega, by go_num, h6, Lib.hid (fun k h => by
                rcases Nat.lt_or_ge k i with h' | h'
                · exact hall.out k h'
                · obtain rfl : k = i := by omega
                  rw [HZ.out]; exact Hn.out)⟩
              case measure => simp [intOf]; omega
          · obtain rfl : i = X.length := by omega
            have Hd := Lib.hid (Hno.out hX hall.out)
            go_wp2
            go_ret
            exact ⟨by rw [Hd.out]; rfl, Hb4.out.trans (hb.mono Hb4.out.size)⟩
    · rw [decide_eq_true hV] at hcV
      rw [decide_eq_false hW] at hcW
      have HcV := Lib.hid hcV; have HcW := Lib.hid hcW
      have Hd := Lib.hid (conj_not2 (v := lV) hW)
      clear hcV hcW hV hW
      go_enter Try.func28, Try.ntmps28
      go_wp2_with fail
      refine HcV.out.mono ?_
      rintro e w1 ⟨rfl, hb1⟩
      go_wp2_with fail
      refine (HcW.out w1 (haW.below hb1)).mono ?_
      rintro e w2 ⟨rfl, hb2⟩
      go_wp2
      go_ret
      exact ⟨by rw [Hd.out]; rfl, hb1.trans (hb2.mono hb1.size)⟩
  · rw [decide_eq_false hV] at hcV
    have HcV := Lib.hid hcV
    have Hd := Lib.hid (conj_not1 (w := lW) hV)
    clear hcV hV
    go_enter Try.func28, Try.ntmps28
    go_wp2_with fail
    refine HcV.out.mono ?_
    rintro e w1 ⟨rfl, hb1⟩
    go_wp2
    go_ret
    exact ⟨by rw [Hd.out]; rfl, hb1⟩
set_option maxRecDepth 10000 in
set_option maxHeartbeats 400000 in
theorem spec_l2Same (a a' : Option Addr) (c c' : Nat) (l l' : List Int) (w : World) (ha : RowAt w a (intCells l)) (ha' : RowAt w a' (intCells l')) (hl : l.length ≤ 1048576) (hl' : l'.length ≤ 1048576) :
    Calls Try.prog 58 #[.slice a l.length c, .slice a' l'.length c'] w fun e w' => e = .returned (.bool (decide (l = l'))) ∧ Below w.heap.size w w' := by
  by_cases hll : l.length = l'.length
  · go_enter Try.func58, Try.ntmps58
    have Hll := Lib.hid hll
    go_wp2
    go_loopw [4, 5] (fun rv iv wr => rv = .bool false ∧ ∃ i : Nat, i ≤ l.length ∧ iv = .int .i64 i ∧ Below w.heap.size w wr ∧ Hid (∀ j, j < i → l[j]? = l'[j]?)) (fun _ iv _ => l.length - (intOf iv).toNat)
    case atStart => exact ⟨rfl, 0, by omega, rfl, Below.refl _ _, Lib.hid (fun j h => by omega)⟩
    case round =>
      obtain ⟨rfl, i, hi, rfl, hb, hsame⟩ := hrel
      by_cases hlt : i < l.length
      · have hlt' : i < l'.length := by rw [← Hll.out]; exact hlt
        obtain ⟨b, o, rfl, hbw, hcell⟩ := intCells_at (ha.below hb) hlt
        obtain ⟨b', o', rfl, hbw', hcell'⟩ := intCells_at (ha'.below hb) hlt'
        have h0 : (0 : Int) ≤ (i : Int) := by omega
        have h1 : (i : Int) < (l.length : Int) := by omega
        have h2 : (i : Int) < (l'.length : Int) := by omega
        have Hx : Hid (l[i]? = some l[i]) := Lib.hid (List.getElem?_eq_getElem hlt)
        have Hy : Hid (l'[i]? = some l'[i]) := Lib.hid (List.getElem?_eq_getElem hlt')
        generalize l[i] = x at *
        generalize l'[i] = y at *
        by_cases hxy : x = y
        · subst hxy
          go_wp2
          go_quiet (fail)
          all_goals go_wp2
          all_goals
            go_roundw
            case rel => exact ⟨rfl, i + 1, by omega, by go_num, below_drewN hb _, Lib.hid (fun j h => by
              rcases Nat.lt_or_ge j i with h' | h'
              · exact hsame.out j h'
              · obtain rfl : j = i := by omega
                rw [Hx.out, Hy.out])⟩
            case measure => simp [intOf]; omega
        · have hd : decide (l = l') = false := decide_eq_false (by
            rintro rfl
            exact hxy (Option.some.inj (Hx.out.symm.trans Hy.out)))
          have Hd := Lib.hid hd; clear hd
          go_wp2
          go_quiet (fail)
          all_goals go_wp2
          all_goals
            go_ret
            refine ⟨?_, below_drewN hb _⟩
            rw [Hd.out]; rfl
      · obtain rfl : i = l.length := by omega
        have hd : decide (l = l') = true := decide_eq_true (List.ext_getElem? (fun j => by
          rcases Nat.lt_or_ge j l.length with h | h
          · exact hsame.out j h
          · rw [List.getElem?_eq_none h, List.getElem?_eq_none (by rw [← Hll.out]; exact h)]))
        have Hd := Lib.hid hd; clear hd
        go_wp2
        go_ret
        refine ⟨?_, hb⟩
        rw [Hd.out]; rfl
  · have hd : decide (l = l') = false := decide_eq_false (fun e => hll (by rw [e]))
    have Hd := Lib.hid hd; clear hd
    go_enter Try.func58, Try.ntmps58
    go_wp2
    go_ret
    refine ⟨?_, Below.refl _ _⟩
    rw [Hd.out]; rfl

set_option maxRecDepth 10000 in
set_option maxHeartbeats 400000 in
theorem spec_AreConjugate (aV : Option Addr) (cV : Nat) (lV : List Int) (aW : Option Addr) (cW : Nat) (lW : List Int) (w : World) (haV : RowAt w aV (intCells lV)) (hlV : lV.length ≤ 1048576) (haW : RowAt w aW (intCells lW)) (hlW : lW.length ≤ 1048576) :
    Calls Try.prog 29 #[.slice aV lV.length cV, .slice aW lW.length cW] w fun e w' => e = .returned (.bool (conjB lV lW)) ∧ Below w.heap.size w w' := by
  have hcV := spec_IsWord aV cV lV w haV hlV
  by_cases hV : Word.IsW lV
  · have hcW := fun W h => spec_IsWord aW cW lW W h hlW
    by_cases hW : Word.IsW lW
    · rw [decide_eq_true hV] at hcV
      rw [decide_eq_true hW] at hcW
      have HcV := Lib.hid hcV; have HcW := Lib.hid hcW; have HV := Lib.hid hV; have HW := Lib.hid hW
      clear hcV hcW hV hW
      go_enter Try.func29, Try.ntmps29
      go_wp2_with fail
      refine HcV.out.mono ?_
      rintro e w1 ⟨rfl, hb1⟩
      go_wp2_with fail
      refine (HcW.out w1 (haW.below hb1)).mono ?_
      rintro e w2 ⟨rfl, hb2⟩
      have hb2' : Below w.heap.size w w2 := hb1.trans (hb2.mono hb1.size)
      go_wp2_with fail
      refine (spec_l2Core aV cV lV w2 (haV.below hb2') HV.out.2 HV.out).mono ?_
      rintro e w3 ⟨ra, rc, rfl, hr1, hr2, hrf, hb3⟩
      have hb3' : Below w.heap.size w w3 := hb2'.trans (hb3.mono hb2'.size)
      go_wp2_with fail
      refine (spec_l2Core aW cW lW w3 (haW.below hb3') HW.out.2 HW.out).mono ?_
      rintro e w4 ⟨sa, sc, rfl, hs1, hs2, hsf, hb4⟩
      have hb4' : Below w.heap.size w w4 := hb3'.trans (hb4.mono hb3'.size)
      have hR := Lib.hid (hrf.row.below hb4)
      have hS := Lib.hid hsf.row
      have hXw := core_red_w HV.out
      have hYw := core_red_w HW.out
      have hXl := hXw.2
      have hYl := hYw.2
      have HXw := Lib.hid hXw
      clear hrf hsf hXw hYw
      have Hem := Lib.hid (@conj_empty lV lW HV.out HW.out)
      have Hye := Lib.hid (fun (k : Nat) => @conj_yes lV lW HV.out HW.out k)
      have Hno := Lib.hid (@conj_no lV lW)
      generalize Word.core (Word.red lV) = X at *
      generalize Word.core (Word.red lW) = Y at *
      by_cases hX : X.length = 0
      · have Hd := Lib.hid (Hem.out hX (decide (Y.length = 0)) (by simp))
        have hX0 : ((X.length : Int) == 0) = true := by rw [beq_iff_eq]; omega
        have hXn : ¬ ((0 : Int) < (X.length : Int)) := by omega
        have Hb4 := Lib.hid hb4'
        go_wp2
        go_loopw [4, 7] (fun rv iv wr => rv = .bool false ∧ iv = .int .i64 0 ∧ wr = w4) (fun _ _ _ => 0)
        case atStart => exact ⟨rfl, rfl, rfl⟩
        case round =>
          obtain ⟨rfl, rfl, rfl⟩ := hrel
          by_cases hY : Y.length = 0
          · have hY' : ((Y.length : Int) == 0) = true := by rw [beq_iff_eq]; omega
            go_wp2
            go_ret
            refine ⟨?_, Hb4.out⟩
            rw [Hd.out]; simp [hY]
          · have hY' : ((Y.length : Int) == 0) = false := by rw [beq_eq_false_iff_ne]; omega
            go_wp2
            go_ret
            refine ⟨?_, Hb4.out⟩
            rw [Hd.out]; simp [hY]
      · have hX' : ((X.length : Int) == 0) = false := by rw [beq_eq_false_iff_ne]; omega
        have Hb4 := Lib.hid hb4'
        go_wp2
        go_loopw [4, 7] (fun rv iv wr => rv = .bool false ∧ ∃ i : Nat, i ≤ X.length ∧ iv = .int .i64 i ∧ Below w4.heap.size w4 wr ∧ Hid (∀ k, k < i → Word.turn X (k : Nat) ≠ Y)) (fun _ iv _ => X.length - (intOf iv).toNat)
        case atStart => exact ⟨rfl, 0, by omega, rfl, Below.refl _ _, Lib.hid (fun k h => by omega)⟩
        case round =>
          obtain ⟨rfl, i, hi, rfl, hb, hall⟩ := hrel
          by_cases hlt : i < X.length
          · have hT := spec_l2Turn ra rc X i wr (hR.out.below hb) (by omega) hr1 (by omega) (by omega)
            have HT := Lib.hid hT; clear hT
            have hTl := Word.turn_len X (i : Nat)
            have Hyes := Lib.hid (Hye.out i hlt)
            generalize hZ : Word.turn X (i : Nat) = Z at *
            have HZ := Lib.hid hZ
            have HTl := Lib.hid hTl; clear hZ hTl
            go_wp2_with fail
            refine HT.out.mono ?_
            rintro e w5 ⟨ta, tc, rfl, ht1, ht2, htf, hb5⟩
            have hE := spec_l2Same ta sa tc sc Z Y w5 htf.row (hS.out.below (hb.trans (hb5.mono hb.size))) (by have := HTl.out; omega) (by omega)
            by_cases hzy : Z = Y
            · rw [decide_eq_true hzy] at hE
              have HE := Lib.hid hE; have Hy := Lib.hid (Hyes.out hzy); clear hE hzy
              go_wp2_with fail
              refine HE.out.mono ?_
              rintro e w6 ⟨rfl, hb6⟩
              go_wp2
              go_ret
              refine ⟨by rw [Hy.out]; rfl, ?_⟩
              have h5 := hb.trans (hb5.mono hb.size)
              have h6 := h5.trans (hb6.mono h5.size)
              exact Hb4.out.trans (h6.mono Hb4.out.size)
            · rw [decide_eq_false hzy] at hE
              have HE := Lib.hid hE; have Hn := Lib.hid hzy; clear hE hzy
              go_wp2_with fail
              refine HE.out.mono ?_
              rintro e w6 ⟨rfl, hb6⟩
              have h5 := hb.trans (hb5.mono hb.size)
              have h6 := h5.trans (hb6.mono h5.size)
              go_wp2
              go_roundw
              case rel => exact ⟨rfl, i + 1, by omega, by go_num, h6, Lib.hid (fun k h => by
                rcases Nat.lt_or_ge k i with h' | h'
                · exact hall.out k h'
                · obtain rfl : k = i := by omega
                  rw [HZ.out]; exact Hn.out)⟩
              case measure => simp [intOf]; omega
          · obtain rfl : i = X.length := by omega
            have Hd := Lib.hid (Hno.out hX hall.out)
            go_wp2
            go_ret
            exact ⟨by rw [Hd.out]; rfl, Hb4.out.trans (hb.mono Hb4.out.size)⟩
    · rw [decide_eq_true hV] at hcV
      rw [decide_eq_false hW] at hcW
      have HcV := Lib.hid hcV; have HcW := Lib.hid hcW
      have Hd := Lib.hid (conj_not2 (v := lV) hW)
      clear hcV hcW hV hW
      go_enter Try.func29, Try.ntmps29
      go_wp2_with fail
      refine HcV.out.mono ?_
      rintro e w1 ⟨rfl, hb1⟩
      go_wp2_with fail
      refine (HcW.out w1 (haW.below hb1)).mono ?_
      rintro e w2 ⟨rfl, hb2⟩
      go_wp2
      go_ret
      exact ⟨by rw [Hd.out]; rfl, hb1.trans (hb2.mono hb1.size)⟩
  · rw [decide_eq_false hV] at hcV
    have HcV := Lib.hid hcV
    have Hd := Lib.hid (conj_not1 (w := lW) hV)
    clear hcV hV
    go_enter Try.func29, Try.ntmps29
    go_wp2_with fail
    refine HcV.out.mono ?_
    rintro e w1 ⟨rfl, hb1⟩
    go_wp2
    go_ret
    exact ⟨by rw [Hd.out]; rfl, hb1⟩
end Go.Proofs.Ytapclpfhpmmbjaa
