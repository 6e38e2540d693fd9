/-
  The walks of the program's and the model's IsWord.
-/
import Derived.Test.YtehibigjdbpikaaGreatDoorBase
import Derived.Test.YtehibigjdbpikaaGreatDoorSlice
import Derived.Test.YtehibigjdbpikaaGreatDoorInts
import Derived.Test.YtehibigjdbpikaaGreatDoorWord
import Derived.Deep.QuietTactic
import Derived.BigQuiet
namespace Go.Proofs.YtehibigjdbpikaaGreatDoor
open Go.RowKit


set_option maxRecDepth 10000 in
set_option maxHeartbeats 400000 in
theorem spec_l1In (x lo hi : Int) (w : World) : Calls Tryz.prog 76 #[.int .i64 x, .int .i64 lo, .int .i64 hi] w fun e w' => e = .returned (.bool (decide (lo ≤ x ∧ x ≤ hi))) ∧ w' = w := by
  by_cases h1 : lo ≤ x
  · by_cases h2 : x ≤ hi
    · have hd : decide (lo ≤ x ∧ x ≤ hi) = true := by simp [h1, h2]
      rw [hd]; clear hd
      go_enter Tryz.func76, Tryz.ntmps76
      go_wp2
      go_ret
      exact ⟨by simp [*], rfl⟩
    · have hd : decide (lo ≤ x ∧ x ≤ hi) = false := by simp [h1, h2]
      rw [hd]; clear hd
      go_enter Tryz.func76, Tryz.ntmps76
      go_wp2
      go_ret
      exact ⟨by simp [*], rfl⟩
  · have hd : decide (lo ≤ x ∧ x ≤ hi) = false := by simp [h1]
    rw [hd]; clear hd
    go_enter Tryz.func76, Tryz.ntmps76
    go_wp2
    go_ret
    exact ⟨by simp [*], rfl⟩

set_option maxRecDepth 10000 in
set_option maxHeartbeats 400000 in
theorem spec_l2Letter (x : Int) (w : World) : Calls Tryz.prog 134 #[.int .i64 x] w fun e w' => e = .returned (.bool (decide (Word.Letter x))) ∧ w' = w := by
  by_cases h1 : 1 ≤ x ∧ x ≤ 8
  · have hd := Word.letter_true (x := x) (by omega)
    rw [hd]; clear hd
    have hc := spec_l1In x 1 8 w
    rw [show decide (1 ≤ x ∧ x ≤ 8) = true from by simp [h1]] at hc
    go_enter Tryz.func134, Tryz.ntmps134
    go_wp2_with fail
    refine hc.mono ?_
    rintro e w1 ⟨rfl, rfl⟩
    go_wp2
    go_ret
    exact ⟨rfl, rfl⟩
  · have hc := spec_l1In x 1 8 w
    rw [show decide (1 ≤ x ∧ x ≤ 8) = false from by simp only [decide_eq_false_iff_not]; exact h1] at hc
    have hd := Word.letter_neg h1
    rw [hd]; clear hd
    have hc2 := spec_l1In x (-8) (-1) w
    generalize decide (-8 ≤ x ∧ x ≤ -1) = r at hc2 ⊢
    clear h1
    go_enter Tryz.func134, Tryz.ntmps134
    go_wp2_with fail
    refine hc.mono ?_
    rintro e w1 ⟨rfl, rfl⟩
    go_wp2_with fail
    refine hc2.mono ?_
    rintro e w1 ⟨rfl, rfl⟩
    go_wp2
    go_ret
    exact ⟨rfl, rfl⟩


set_option maxRecDepth 10000 in
set_option maxHeartbeats 400000 in
theorem spec_IsWord (a : Option Addr) (c : Nat) (l : List Int) (w : World) (ha : RowAt w a (intCells l)) (hl : l.length ≤ 1048576) :
    Calls Tryz.prog 104 #[.slice a l.length c] w fun e w' => e = .returned (.bool (decide (Word.IsW l))) ∧ Below w.heap.size w w' := by
  go_enter Tryz.func104, Tryz.ntmps104
  go_wp2
  go_loopw [2, 3] (fun rv iv wr => rv = .bool false ∧ ∃ i : Nat, i ≤ l.length ∧ iv = .int .i64 i ∧ Hid (∀ j (hj : j < l.length), j < i → Word.Letter l[j]) ∧ Below w.heap.size w wr) (fun _ iv _ => l.length - (intOf iv).toNat)
  case atStart => exact ⟨rfl, 0, by omega, rfl, Lib.hid (fun j _ h => by omega), Below.refl _ _⟩
  case round =>
    obtain ⟨rfl, i, hi, rfl, hall, hb⟩ := hrel
    by_cases hlt : i < l.length
    · obtain ⟨b, o, rfl, hbw, hcell⟩ := intCells_at (ha.below hb) hlt
      have hc := spec_l2Letter l[i] wr
      by_cases hL : Word.Letter l[i]
      · rw [decide_eq_true hL] at hc
        have Hc := Lib.hid hc; clear hc
        go_wp2_with fail
        refine Hc.out.mono ?_
        rintro e w1 ⟨rfl, rfl⟩
        go_wp2
        go_roundw
        case rel => exact ⟨rfl, i + 1, by omega, by go_num, Lib.hid (fun j hj h => by
          rcases Nat.lt_or_ge j i with h' | h'
          · exact hall.out j hj h'
          · obtain rfl : j = i := by omega
            exact hL), hb⟩
        case measure => simp [intOf]; omega
      · rw [decide_eq_false hL] at hc
        have hd : decide (Word.IsW l) = false := decide_eq_false (Word.bad_at hlt hL)
        have Hd := Lib.hid hd
        have Hc := Lib.hid hc; clear hc hd
        have HL := Lib.hid hL; clear hL
        go_wp2_with fail
        refine Hc.out.mono ?_
        rintro e w1 ⟨rfl, rfl⟩
        go_wp2
        go_ret
        refine ⟨?_, hb⟩
        rw [Hd.out]; rfl
    · obtain rfl : i = l.length := by omega
      have Hd := Lib.hid (Word.isW_len hall.out)
      by_cases h2 : l.length ≤ 24
      · go_wp2
        go_ret
        refine ⟨?_, hb⟩
        rw [Hd.out]; simp <;> omega
      · go_wp2
        go_ret
        refine ⟨?_, hb⟩
        rw [Hd.out]; simp <;> omega
end Go.Proofs.YtehibigjdbpikaaGreatDoor
