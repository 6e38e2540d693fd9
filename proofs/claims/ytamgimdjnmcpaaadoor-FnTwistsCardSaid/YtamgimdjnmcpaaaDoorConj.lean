/-
  The walks of the program's and the model's AreConjugate and ProductWord.
-/
import Derived.Test.YtamgimdjnmcpaaaDoorBase
import Derived.Test.YtamgimdjnmcpaaaDoorSlice
import Derived.Test.YtamgimdjnmcpaaaDoorInts
import Derived.Test.YtamgimdjnmcpaaaDoorWord
import Derived.Test.YtamgimdjnmcpaaaDoorIsWord
import Derived.Test.YtamgimdjnmcpaaaDoorReduce
import Derived.Test.YtamgimdjnmcpaaaDoorReduceSpec
import Derived.Test.YtamgimdjnmcpaaaDoorAppend
import Derived.Test.YtamgimdjnmcpaaaDoorCore
import Derived.Test.YtamgimdjnmcpaaaDoorConcat
import Derived.Test.YtamgimdjnmcpaaaDoorTurn
import Derived.Deep.QuietTactic
import Derived.StillTailTactics
import Derived.BigQuiet
namespace Go.Proofs.YtamgimdjnmcpaaaDoor
open Go.RowKit

/-- Whether some turn of a, from the k-th on, is b. -/
def TurnIs (a b : List Int) : Prop := ∃ k, k < a.length ∧ Word.turn a (k : Nat) = b
def ConjB (a b : List Int) : Prop := TurnIs a b ∨ a = [] ∧ b = []
open Classical in
noncomputable def conjB (v w : List Int) : Bool := decide (Word.Conj v w)
open Classical in
theorem conj_not1 {v w : List Int} (h : ¬ Word.IsW v) : conjB v w = false := by
  unfold conjB; exact decide_eq_false (fun x => h x.1)
open Classical in
theorem conj_not2 {v w : List Int} (h : ¬ Word.IsW w) : conjB v w = false := by
  unfold conjB; exact decide_eq_false (fun x => h x.2.1)
open Classical in
theorem conj_empty {v w : List Int} (h1 : Word.IsW v) (h2 : Word.IsW w) (he : (Word.core (Word.red v)).length = 0) (b : Bool) (hb : b = true ↔ (Word.core (Word.red w)).length = 0) : conjB v w = b := by
  unfold conjB
  have h0 := List.eq_nil_of_length_eq_zero he
  rw [Bool.eq_iff_iff, hb, decide_eq_true_iff]
  constructor
  · rintro ⟨_, _, ⟨k, hk, _⟩ | ⟨_, h⟩⟩
    · rw [he] at hk; omega
    · rw [h]; rfl
  · intro h
    exact ⟨h1, h2, Or.inr ⟨h0, List.eq_nil_of_length_eq_zero h⟩⟩
open Classical in
theorem conj_yes {v w : List Int} (h1 : Word.IsW v) (h2 : Word.IsW w) {k : Nat} (hk : k < (Word.core (Word.red v)).length) (h : Word.turn (Word.core (Word.red v)) (k : Nat) = Word.core (Word.red w)) : conjB v w = true := by
  unfold conjB; exact decide_eq_true ⟨h1, h2, Or.inl ⟨k, hk, h⟩⟩
open Classical in
theorem conj_no {v w : List Int} (he : (Word.core (Word.red v)).length ≠ 0) (h : ∀ k, k < (Word.core (Word.red v)).length → Word.turn (Word.core (Word.red v)) (k : Nat) ≠ Word.core (Word.red w)) : conjB v w = false := by
  unfold conjB
  refine decide_eq_false ?_
  rintro ⟨_, _, ⟨k, hk, hx⟩ | ⟨hx, _⟩⟩
  · exact h k hk hx
  · rw [hx] at he; exact he rfl
theorem coreOf_of {l : List Int} (h : Word.IsW l) : Word.coreOf l = Word.core (Word.red l) := if_pos h
theorem core_red_w {l : List Int} (h : Word.IsW l) : Word.IsW (Word.core (Word.red l)) := Word.core_w (Word.red_w h)

set_option maxRecDepth 10000 in
set_option maxHeartbeats 400000 in
theorem spec_l2Same (a a' : Option Addr) (c c' : Nat) (l l' : List Int) (w : World) (ha : RowAt w a (intCells l)) (ha' : RowAt w a' (intCells l')) (hl : l.length ≤ 1048576) (hl' : l'.length ≤ 1048576) :
    Calls Tryd.prog 82 #[.slice a l.length c, .slice a' l'.length c'] w fun e w' => e = .returned (.bool (decide (l = l'))) ∧ Below w.heap.size w w' := by
  by_cases hll : l.length = l'.length
  · go_enter Tryd.func82, Tryd.ntmps82
    have Hll := Lib.hid hll
    go_wp2
    go_loopw [4, 5] (fun rv iv wr => rv = .bool false ∧ ∃ i : Nat, i ≤ l.length ∧ iv = .int .i64 i ∧ Below w.heap.size w wr ∧ Hid (∀ j, j < i → l[j]? = l'[j]?)) (fun _ iv _ => l.length - (intOf iv).toNat)
    case atStart => exact ⟨rfl, 0, by omega, rfl, Below.refl _ _, Lib.hid (fun j h => by omega)⟩
    case round =>
      obtain ⟨rfl, i, hi, rfl, hb, hsame⟩ := hrel
      by_cases hlt : i < l.length
      · have hlt' : i < l'.length := by rw [← Hll.out]; exact hlt
        obtain ⟨b, o, rfl, hbw, hcell⟩ := intCells_at (ha.below hb) hlt
        obtain ⟨b', o', rfl, hbw', hcell'⟩ := intCells_at (ha'.below hb) hlt'
        have h0 : (0 : Int) ≤ (i : Int) := by omega
        have h1 : (i : Int) < (l.length : Int) := by omega
        have h2 : (i : Int) < (l'.length : Int) := by omega
        have Hx : Hid (l[i]? = some l[i]) := Lib.hid (List.getElem?_eq_getElem hlt)
        have Hy : Hid (l'[i]? = some l'[i]) := Lib.hid (List.getElem?_eq_getElem hlt')
        generalize l[i] = x at *
        generalize l'[i] = y at *
        by_cases hxy : x = y
        · subst hxy
          go_wp2
          go_quiet (fail)
          all_goals go_wp2
          all_goals
            go_roundw
            case rel => exact ⟨rfl, i + 1, by omega, by go_num, below_drewN hb _, Lib.hid (fun j h => by
              rcases Nat.lt_or_ge j i with h' | h'
              · exact hsame.out j h'
              · obtain rfl : j = i := by omega
                rw [Hx.out, Hy.out])⟩
            case measure => simp [intOf]; omega
        · have hd : decide (l = l') = false := decide_eq_false (by
            rintro rfl
            exact hxy (Option.some.inj (Hx.out.symm.trans Hy.out)))
          have Hd := Lib.hid hd; clear hd
          go_wp2
          go_quiet (fail)
          all_goals go_wp2
          all_goals
            go_ret
            refine ⟨?_, below_drewN hb _⟩
            rw [Hd.out]; rfl
      · obtain rfl : i = l.length := by omega
        have hd : decide (l = l') = true := decide_eq_true (List.ext_getElem? (fun j => by
          rcases Nat.lt_or_ge j l.length with h | h
          · exact hsame.out j h
          · rw [List.getElem?_eq_none h, List.getElem?_eq_none (by rw [← Hll.out]; exact h)]))
        have Hd := Lib.hid hd; clear hd
        go_wp2
        go_ret
        refine ⟨?_, hb⟩
        rw [Hd.out]; rfl
  · have hd : decide (l = l') = false := decide_eq_false (fun e => hll (by rw [e]))
    have Hd := Lib.hid hd; clear hd
    go_enter Tryd.func82, Tryd.ntmps82
    go_wp2
    go_ret
    refine ⟨?_, Below.refl _ _⟩
    rw [Hd.out]; rfl

end Go.Proofs.YtamgimdjnmcpaaaDoor
