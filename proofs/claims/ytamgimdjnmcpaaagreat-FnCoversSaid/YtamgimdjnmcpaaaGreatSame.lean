/-
  The laws' test whether two slices hold the same integers, and rows that are carried along. The laws' test whether two lists of rows are the same.
-/
import Derived.Test.YtamgimdjnmcpaaaGreatBase
import Derived.Test.YtamgimdjnmcpaaaGreatSlice
import Derived.Test.YtamgimdjnmcpaaaGreatInts
import Derived.Deep.QuietTactic
import Derived.BigQuiet
import Derived.Test.YtamgimdjnmcpaaaGreatGrid
namespace Go.Proofs.YtamgimdjnmcpaaaGreat
open Go.RowKit

/-- Rows that lie in a world. -/
def Rows (w : World) (rs : List (Option Addr × List Int)) : Prop := ∀ r ∈ rs, RowAt w r.1 (intCells r.2)
theorem Rows.nil (w : World) : Rows w [] := fun _ h => by cases h
theorem Rows.below {w w' : World} {rs : List (Option Addr × List Int)} (h : Rows w rs) (hb : Below w.heap.size w w') : Rows w' rs := fun r hr => (h r hr).below hb
theorem Rows.cons {w : World} {rs : List (Option Addr × List Int)} (h : Rows w rs) {a : Option Addr} {l : List Int} (hr : RowAt w a (intCells l)) : Rows w ((a, l) :: rs) := fun r hm => by
  rcases List.mem_cons.1 hm with rfl | hm
  · exact hr
  · exact h r hm
theorem Rows.get {w : World} {rs : List (Option Addr × List Int)} (h : Rows w rs) (a : Option Addr) (l : List Int) (hm : (a, l) ∈ rs) : RowAt w a (intCells l) := h (a, l) hm

set_option maxRecDepth 10000 in
set_option maxHeartbeats 400000 in
theorem sameInts_eq (a a' : Option Addr) (c c' : Nat) (l : List Int) (w : World) (ha : RowAt w a (intCells l)) (ha' : RowAt w a' (intCells l)) (hl : l.length ≤ 9223372036854775807) :
    Calls Tryz.prog 15 #[.slice a l.length c, .slice a' l.length c'] w fun e w' => e = .returned (.bool true) ∧ Below w.heap.size w w' := by
  go_enter Tryz.func15, Tryz.ntmps15
  go_wp2
  go_loopw [4, 5] (fun rv iv wr => rv = .bool false ∧ ∃ i : Nat, i ≤ l.length ∧ iv = .int .i64 i ∧ Below w.heap.size w wr) (fun _ iv _ => l.length - (intOf iv).toNat)
  case atStart => exact ⟨rfl, 0, by omega, rfl, Below.refl _ _⟩
  case round =>
    obtain ⟨rfl, i, hi, rfl, hb⟩ := hrel
    by_cases hlt : i < l.length
    · obtain ⟨b, o, rfl, hbw, hcell⟩ := intCells_at (ha.below hb) hlt
      obtain ⟨b', o', rfl, hbw', hcell'⟩ := intCells_at (ha'.below hb) hlt
      generalize l[i] = x at hcell hcell'
      have h0 : (0 : Int) ≤ (i : Int) := by omega
      have h1 : (i : Int) < (l.length : Int) := by omega
      go_wp2
      go_quiet (fail)
      all_goals go_wp2
      all_goals
        go_roundw
        case rel => exact ⟨rfl, i + 1, by omega, by go_num, below_drewN hb _⟩
        case measure => simp [intOf]; omega
    · obtain rfl : i = l.length := by omega
      go_wp2
      go_ret
      exact ⟨rfl, hb⟩
end Go.Proofs.YtamgimdjnmcpaaaGreat
namespace Go.Proofs.YtamgimdjnmcpaaaGreat
open Go.RowKit

set_option maxRecDepth 10000 in
set_option maxHeartbeats 400000 in
theorem sameInts_q (a a' : Option Addr) (c c' : Nat) (l : List Int) (w : World) (ha : RowAt w a (intCells l)) (ha' : RowAt w a' (intCells l)) (hl : l.length ≤ 9223372036854775807) :
    Calls Tryz.prog 15 #[.slice a l.length c, .slice a' l.length c'] w fun e w' => e = .returned (.bool true) ∧ ∃ m, w' = w.drewN m := by
  go_enter Tryz.func15, Tryz.ntmps15
  go_wp2
  go_loopw [4, 5] (fun rv iv wr => rv = .bool false ∧ ∃ i : Nat, i ≤ l.length ∧ iv = .int .i64 i ∧ Hid (∃ m, wr = w.drewN m)) (fun _ iv _ => l.length - (intOf iv).toNat)
  case atStart => exact ⟨rfl, 0, by omega, rfl, Lib.hid ⟨0, rfl⟩⟩
  case round =>
    obtain ⟨rfl, i, hi, rfl, hm⟩ := hrel
    have hb : Hid (Below w.heap.size w wr) := Lib.hid (by obtain ⟨m, rfl⟩ := hm.out; exact below_drewN (Below.refl _ w) m)
    by_cases hlt : i < l.length
    · obtain ⟨b, o, rfl, hbw, hcell⟩ := intCells_at (ha.below hb.out) hlt
      obtain ⟨b', o', rfl, hbw', hcell'⟩ := intCells_at (ha'.below hb.out) hlt
      generalize l[i] = x at hcell hcell'
      have h0 : (0 : Int) ≤ (i : Int) := by omega
      have h1 : (i : Int) < (l.length : Int) := by omega
      go_wp2
      go_quiet (fail)
      all_goals go_wp2
      all_goals
        go_roundw
        case rel => exact ⟨rfl, i + 1, by omega, by go_num, Lib.hid (by obtain ⟨m, rfl⟩ := hm.out; exact ⟨_, World.drewN_drewN ..⟩)⟩
        case measure => simp [intOf]; omega
    · obtain rfl : i = l.length := by omega
      go_wp2
      go_ret
      exact ⟨rfl, hm.out⟩

set_option maxRecDepth 10000 in
set_option maxHeartbeats 400000 in
theorem sameLists_eq (a a' : Option Addr) (c c' : Nat) (L : List (List Int)) (w : World) (ha : GridAt w a L) (ha' : GridAt w a' L) (hl : tot L ≤ 1048576) :
    Calls Tryz.prog 21 #[.slice a L.length c, .slice a' L.length c'] w fun e w' => e = .returned (.bool true) ∧ Below w.heap.size w w' := by
  have Ha := Lib.hid ha
  have Ha' := Lib.hid ha'
  have HL := Lib.hid hl
  have hln : L.length ≤ 1048576 := by unfold tot at hl; omega
  clear ha ha' hl
  go_enter Tryz.func21, Tryz.ntmps21
  go_wp2
  go_loopw [4, 5] (fun rv iv wr => rv = .bool false ∧ ∃ i : Nat, i ≤ L.length ∧ iv = .int .i64 i ∧ Hid (Below w.heap.size w wr)) (fun _ iv _ => L.length - (intOf iv).toNat)
  case atStart => exact ⟨rfl, 0, by omega, rfl, Lib.hid (Below.refl _ _)⟩
  case round =>
    obtain ⟨rfl, i, hi, rfl, hb⟩ := hrel
    by_cases hlt : i < L.length
    · obtain ⟨b, o, ai, ci, rfl, hbw, hcell, hrow⟩ := (Ha.out.below hb.out).at hlt
      obtain ⟨b', o', ai', ci', rfl, hbw', hcell', hrow'⟩ := (Ha'.out.below hb.out).at hlt
      have hll : L[i].length ≤ 1048576 := by have := len_le_sumLen hlt; have := HL.out; unfold tot at this; omega
      generalize L[i] = r at *
      have Hrow := Lib.hid hrow
      have Hrow' := Lib.hid hrow'
      have h0 : (0 : Int) ≤ (i : Int) := by omega
      have h1 : (i : Int) < (L.length : Int) := by omega
      clear hrow hrow'
      go_wp2
      go_quiet (exact Calls.quiet_of (sameInts_q ai ai' ci ci' r _ (Hrow.out.below (below_drewN (Below.refl _ _) _)) (Hrow'.out.below (below_drewN (Below.refl _ _) _)) (by omega)))
      all_goals go_wp2
      all_goals
        go_roundw
        case rel => exact ⟨rfl, i + 1, by omega, by go_num, Lib.hid (below_drewN hb.out _)⟩
        case measure => simp [intOf]; omega
    · obtain rfl : i = L.length := by omega
      go_wp2
      go_ret
      exact ⟨rfl, hb.out⟩

end Go.Proofs.YtamgimdjnmcpaaaGreat
