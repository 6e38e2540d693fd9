/-
  The laws' sum of a list of noughts.
-/
import Derived.Test.YtfaagbmaekoogaaBase
import Derived.Test.YtfaagbmaekoogaaSlice
import Derived.Test.YtfaagbmaekoogaaInts
import Derived.Deep.QuietTactic
import Derived.BigQuiet
namespace Go.Proofs.Ytfaagbmaekoogaa
open Go.RowKit

set_option maxRecDepth 10000 in
set_option maxHeartbeats 400000 in
theorem total_zero (a : Option Addr) (c : Nat) (l : List Int) (w : World) (ha : RowAt w a (intCells l)) (hl : l.length ≤ 1048576) (hz : ∀ x ∈ l, x = 0) :
    Calls Try.prog 65 #[.slice a l.length c] w fun e w' => e = .returned (.int .i64 0) ∧ Below w.heap.size w w' := by
  have Ha := Lib.hid ha; have Hz := Lib.hid hz
  clear ha hz
  go_enter Try.func65, Try.ntmps65
  go_wp2
  go_loopw [3, 4] (fun sv iv wr => ∃ i : Nat, i ≤ l.length ∧ iv = .int .i64 i ∧ sv = .int .i64 0 ∧ Hid (Below w.heap.size w wr)) (fun _ iv _ => l.length - (intOf iv).toNat)
  case atStart => exact ⟨0, by omega, rfl, rfl, Lib.hid (Below.refl _ _)⟩
  case round =>
    obtain ⟨i, hi, rfl, rfl, hb⟩ := hrel
    by_cases hlt : i < l.length
    · obtain ⟨b, o, rfl, hbw, hcell⟩ := intCells_at (Ha.out.below hb.out) hlt
      rw [Hz.out _ (List.getElem_mem hlt)] at hcell
      have dlt : decide (i < l.length) = true := decide_eq_true hlt
      have h0 : (0 : Int) ≤ (i : Int) := by omega
      have h1 : (i : Int) < (l.length : Int) := by omega
      go_wp2
      go_roundw
      case rel => exact ⟨i + 1, by omega, by go_num, rfl, hb⟩
      case measure => simp [intOf]; omega
    · obtain rfl : i = l.length := by omega
      have dlt : decide (l.length < l.length) = false := decide_eq_false (by omega)
      go_wp2
      go_ret
      exact ⟨rfl, hb.out⟩
end Go.Proofs.Ytfaagbmaekoogaa
