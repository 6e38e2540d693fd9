/-
  The laws' test whether two slices hold the same integers, and rows that are carried along.
-/
import Derived.Test.YtehibigjdbpikaaGreatDoorBase
import Derived.Test.YtehibigjdbpikaaGreatDoorSlice
import Derived.Test.YtehibigjdbpikaaGreatDoorInts
import Derived.Deep.QuietTactic
import Derived.BigQuiet
namespace Go.Proofs.YtehibigjdbpikaaGreatDoor
open Go.RowKit

/-- Rows that lie in a world. -/
def Rows (w : World) (rs : List (Option Addr × List Int)) : Prop := ∀ r ∈ rs, RowAt w r.1 (intCells r.2)
theorem Rows.nil (w : World) : Rows w [] := fun _ h => by cases h
theorem Rows.below {w w' : World} {rs : List (Option Addr × List Int)} (h : Rows w rs) (hb : Below w.heap.size w w') : Rows w' rs := fun r hr => (h r hr).below hb
theorem Rows.cons {w : World} {rs : List (Option Addr × List Int)} (h : Rows w rs) {a : Option Addr} {l : List Int} (hr : RowAt w a (intCells l)) : Rows w ((a, l) :: rs) := fun r hm => by
  rcases List.mem_cons.1 hm with rfl | hm
  · exact hr
  · exact h r hm
theorem Rows.get {w : World} {rs : List (Option Addr × List Int)} (h : Rows w rs) (a : Option Addr) (l : List Int) (hm : (a, l) ∈ rs) : RowAt w a (intCells l) := h (a, l) hm

set_option maxRecDepth 10000 in
set_option maxHeartbeats 400000 in
theorem sameInts_eq (a a' : Option Addr) (c c' : Nat) (l : List Int) (w : World) (ha : RowAt w a (intCells l)) (ha' : RowAt w a' (intCells l)) (hl : l.length ≤ 9223372036854775807) :
    Calls Tryz.prog 15 #[.slice a l.length c, .slice a' l.length c'] w fun e w' => e = .returned (.bool true) ∧ Below w.heap.size w w' := by
  go_enter Tryz.func15, Tryz.ntmps15
  go_wp2
  go_loopw [4, 5] (fun rv iv wr => rv = .bool false ∧ ∃ i : Nat, i ≤ l.length ∧ iv = .int .i64 i ∧ Below w.heap.size w wr) (fun _ iv _ => l.length - (intOf iv).toNat)
  case atStart => exact ⟨rfl, 0, by omega, rfl, Below.refl _ _⟩
  case round =>
    obtain ⟨rfl, i, hi, rfl, hb⟩ := hrel
    by_cases hlt : i < l.length
    · obtain ⟨b, o, rfl, hbw, hcell⟩ := intCells_at (ha.below hb) hlt
      obtain ⟨b', o', rfl, hbw', hcell'⟩ := intCells_at (ha'.below hb) hlt
      generalize l[i] = x at hcell hcell'
      have h0 : (0 : Int) ≤ (i : Int) := by omega
      have h1 : (i : Int) < (l.length : Int) := by omega
      go_wp2
      go_quiet (fail)
      all_goals go_wp2
      all_goals
        go_roundw
        case rel => exact ⟨rfl, i + 1, by omega, by go_num, below_drewN hb _⟩
        case measure => simp [intOf]; omega
    · obtain rfl : i = l.length := by omega
      go_wp2
      go_ret
      exact ⟨rfl, hb⟩
end Go.Proofs.YtehibigjdbpikaaGreatDoor
