/-
  The walks of the laws' helpers over rows of rows of integers: sizes, equality, marks.
-/
import Derived.Test.YtamgimdjnmcpaaaDoorBase
import Derived.Test.YtamgimdjnmcpaaaDoorSlice
import Derived.Test.YtamgimdjnmcpaaaDoorIntRow
import Derived.Test.YtamgimdjnmcpaaaDoorInts
import Derived.Test.YtamgimdjnmcpaaaDoorGrid
import Derived.Test.YtamgimdjnmcpaaaDoorGridWalk
import Derived.Deep.QuietTactic
import Derived.BigQuiet
namespace Go.Proofs.YtamgimdjnmcpaaaDoor
open Go.RowKit

set_option maxRecDepth 10000 in
set_option maxHeartbeats 400000 in
theorem szIntS (a : Option Addr) (n c : Nat) (k : Int) (w : World) (hn : n ≤ 9223372036854775807) (h0 : 0 ≤ k) (h1 : k ≤ 1048576) :
    Calls Tryd.prog 73 #[.slice a n c, .int .i64 k] w fun e w' => e = .returned (.int .i64 (if (n : Int) ≤ k then k - n else -1)) ∧ w' = w := by
  by_cases hk : (n : Int) ≤ k
  · rw [if_pos hk]
    have hd : decide (k - (n : Int) < 0) = false := decide_eq_false (by omega)
    go_enter Tryd.func73, Tryd.ntmps73
    go_wp2
    go_ret
    exact ⟨rfl, rfl⟩
  · rw [if_neg hk]
    have hd : decide (k - (n : Int) < 0) = true := decide_eq_true (by omega)
    go_enter Tryd.func73, Tryd.ntmps73
    go_wp2
    go_ret
    exact ⟨rfl, rfl⟩

set_option maxRecDepth 10000 in
set_option maxHeartbeats 400000 in
theorem szIntSS (a : Option Addr) (c k : Nat) (L : List (List Int)) (w : World) (ha : GridAt w a L) (hl : L.length ≤ 9223372036854775807) (hr : ∀ r ∈ L, r.length ≤ 9223372036854775807) (h1 : k ≤ 1048576) :
    Calls Tryd.prog 48 #[.slice a L.length c, .int .i64 k] w fun e w' => e = .returned (.int .i64 (if tot L ≤ k then ((k - tot L : Nat) : Int) else -1)) ∧ Below w.heap.size w w' := by
  generalize hv : (if tot L ≤ k then ((k - tot L : Nat) : Int) else -1) = v
  have Hv := Lib.hid hv; clear hv
  by_cases hk : L.length ≤ k
  · have hd : decide ((k : Int) - (L.length : Int) < 0) = false := decide_eq_false (by omega)
    have Ha := Lib.hid ha
    have Hr := Lib.hid hr
    clear ha hr
    go_enter Tryd.func48, Tryd.ntmps48
    go_wp2
    go_loopw [1, 4, 5] (fun kv rv iv wr => Below w.heap.size w wr ∧ rv = .int .i64 0 ∧ ∃ i : Nat, i ≤ L.length ∧ iv = .int .i64 i ∧ Hid (L.length + sumLen (L.take i) ≤ k) ∧ kv = .int .i64 ((k : Int) - (L.length : Int) - (sumLen (L.take i) : Int))) (fun _ _ iv _ => L.length - (intOf iv).toNat)
    case atStart => exact ⟨Below.refl _ _, rfl, 0, by omega, rfl, Lib.hid (by simpa [sumLen_nil] using hk), by simp [sumLen]⟩
    case round =>
      obtain ⟨hb, rfl, i, hi, rfl, hs, rfl⟩ := hrel
      by_cases hlt : i < L.length
      · obtain ⟨b, o, ai, ci, rfl, hbw, hcell, _⟩ := (Ha.out.below hb).at hlt
        have hst := sumLen_take hlt
        have hle := sumLen_le L (i + 1)
        have hll := Hr.out _ (List.getElem_mem hlt)
        have hs' := hs.out
        generalize L[i] = r at *
        generalize hS : sumLen (L.take i) = S at *
        generalize hS' : sumLen (L.take (i + 1)) = S' at *
        have Hs := Lib.hid hst; have Hle := Lib.hid hle
        have HS' := Lib.hid hS'
        clear hS hS' hst hle
        by_cases hin : (r.length : Int) ≤ (k : Int) - (L.length : Int) - (S : Int)
        · have hc := szIntS ai r.length ci ((k : Int) - (L.length : Int) - (S : Int)) wr hll (by omega) (by omega)
          rw [if_pos hin] at hc
          have Hc := Lib.hid hc; clear hc
          have hd2 : decide ((k : Int) - (L.length : Int) - (S : Int) - (r.length : Int) < 0) = false := decide_eq_false (by omega)
          have hb1 := Hs.out
          clear hs' hd
          go_wp2_with fail
          refine Hc.out.mono ?_
          rintro e w1 ⟨rfl, rfl⟩
          go_wp2
          go_roundw
          case rel => exact ⟨hb, rfl, i + 1, by omega, by go_num, Lib.hid (by rw [HS'.out, Hs.out]; omega), by rw [HS'.out, Hs.out]; congr 1; omega⟩
          case measure => simp [intOf]; omega
        · have hc := szIntS ai r.length ci ((k : Int) - (L.length : Int) - (S : Int)) wr hll (by omega) (by omega)
          rw [if_neg hin] at hc
          have Hc := Lib.hid hc; clear hc
          have Hin := Lib.hid hin
          clear hin hd
          go_wp2_with fail
          refine Hc.out.mono ?_
          rintro e w1 ⟨rfl, rfl⟩
          go_wp2
          go_ret
          refine ⟨?_, hb⟩
          rw [show v = -1 from by rw [← Hv.out]; exact if_neg (by unfold tot; have := Hin.out; have := Hs.out; have := Hle.out; omega)]; rfl
      · obtain rfl : i = L.length := by omega
        have hs' := hs.out
        rw [sumLen_all] at hs' ⊢
        have Hs := Lib.hid hs'; clear hs'
        go_wp2
        go_ret
        refine ⟨?_, hb⟩
        have := Hs.out
        rw [show v = (k : Int) - L.length - sumLen L from by rw [← Hv.out, if_pos (by unfold tot; omega)]; unfold tot; omega]; rfl
  · have hd : decide ((k : Int) - (L.length : Int) < 0) = true := decide_eq_true (by omega)
    go_enter Tryd.func48, Tryd.ntmps48
    go_wp2
    go_ret
    exact ⟨by rw [show v = -1 from by rw [← Hv.out]; exact if_neg (by unfold tot; omega)]; rfl, Below.refl _ _⟩

theorem szIntSS_fit (a : Option Addr) (c k : Nat) (L : List (List Int)) (w : World) (ha : GridAt w a L) (hm : L.length ≤ 9223372036854775807 ∧ ∀ r ∈ L, r.length ≤ 9223372036854775807) (h1 : k ≤ 1048576) (hf : tot L ≤ k) :
    Calls Tryd.prog 48 #[.slice a L.length c, .int .i64 k] w fun e w' => e = .returned (.int .i64 ((k - tot L : Nat) : Int)) ∧ Below w.heap.size w w' := by
  have h := szIntSS a c k L w ha hm.1 hm.2 h1
  rw [if_pos hf] at h
  exact h
theorem szIntSS_big (a : Option Addr) (c k : Nat) (L : List (List Int)) (w : World) (ha : GridAt w a L) (hm : L.length ≤ 9223372036854775807 ∧ ∀ r ∈ L, r.length ≤ 9223372036854775807) (h1 : k ≤ 1048576) (hf : ¬ tot L ≤ k) :
    Calls Tryd.prog 48 #[.slice a L.length c, .int .i64 k] w fun e w' => e = .returned (.int .i64 (-1)) ∧ Below w.heap.size w w' := by
  have h := szIntSS a c k L w ha hm.1 hm.2 h1
  rw [if_neg hf] at h
  exact h

set_option maxRecDepth 10000 in
set_option maxHeartbeats 400000 in
theorem eqIntS_q (a a' : Option Addr) (c c' : Nat) (l : List Int) (w : World) (ha : RowAt w a (intCells l)) (ha' : RowAt w a' (intCells l)) (hl : l.length ≤ 9223372036854775807) :
    Calls Tryd.prog 42 #[.slice a l.length c, .slice a' l.length c'] w fun e w' => e = .returned (.bool true) ∧ ∃ m, w' = w.drewN m := by
  go_enter Tryd.func42, Tryd.ntmps42
  go_wp2
  go_loopw [4, 5] (fun rv iv wr => rv = .bool false ∧ ∃ i : Nat, i ≤ l.length ∧ iv = .int .i64 i ∧ Hid (∃ m, wr = w.drewN m)) (fun _ iv _ => l.length - (intOf iv).toNat)
  case atStart => exact ⟨rfl, 0, by omega, rfl, Lib.hid ⟨0, rfl⟩⟩
  case round =>
    obtain ⟨rfl, i, hi, rfl, hm⟩ := hrel
    have hb : Hid (Below w.heap.size w wr) := Lib.hid (by obtain ⟨m, rfl⟩ := hm.out; exact below_drewN (Below.refl _ w) m)
    by_cases hlt : i < l.length
    · obtain ⟨b, o, rfl, hbw, hcell⟩ := intCells_at (ha.below hb.out) hlt
      obtain ⟨b', o', rfl, hbw', hcell'⟩ := intCells_at (ha'.below hb.out) hlt
      generalize l[i] = x at hcell hcell'
      have h0 : (0 : Int) ≤ (i : Int) := by omega
      have h1 : (i : Int) < (l.length : Int) := by omega
      go_wp2
      go_quiet (fail)
      all_goals go_wp2
      all_goals
        go_roundw
        case rel => exact ⟨rfl, i + 1, by omega, by go_num, Lib.hid (by obtain ⟨m, rfl⟩ := hm.out; exact ⟨_, World.drewN_drewN ..⟩)⟩
        case measure => simp [intOf]; omega
    · obtain rfl : i = l.length := by omega
      go_wp2
      go_ret
      exact ⟨rfl, hm.out⟩

set_option maxRecDepth 10000 in
set_option maxHeartbeats 400000 in
theorem eqIntSS (a a' : Option Addr) (c c' : Nat) (L : List (List Int)) (w : World) (ha : GridAt w a L) (ha' : GridAt w a' L) (hl : tot L ≤ 1048576) :
    Calls Tryd.prog 45 #[.slice a L.length c, .slice a' L.length c'] w fun e w' => e = .returned (.bool true) ∧ Below w.heap.size w w' := by
  have Ha := Lib.hid ha
  have Ha' := Lib.hid ha'
  have HL := Lib.hid hl
  have hln : L.length ≤ 1048576 := by unfold tot at hl; omega
  clear ha ha' hl
  go_enter Tryd.func45, Tryd.ntmps45
  go_wp2
  go_loopw [4, 5] (fun rv iv wr => rv = .bool false ∧ ∃ i : Nat, i ≤ L.length ∧ iv = .int .i64 i ∧ Hid (Below w.heap.size w wr)) (fun _ iv _ => L.length - (intOf iv).toNat)
  case atStart => exact ⟨rfl, 0, by omega, rfl, Lib.hid (Below.refl _ _)⟩
  case round =>
    obtain ⟨rfl, i, hi, rfl, hb⟩ := hrel
    by_cases hlt : i < L.length
    · obtain ⟨b, o, ai, ci, rfl, hbw, hcell, hrow⟩ := (Ha.out.below hb.out).at hlt
      obtain ⟨b', o', ai', ci', rfl, hbw', hcell', hrow'⟩ := (Ha'.out.below hb.out).at hlt
      have hll : L[i].length ≤ 1048576 := by have := len_le_sumLen hlt; have := HL.out; unfold tot at this; omega
      generalize L[i] = r at *
      have Hrow := Lib.hid hrow
      have Hrow' := Lib.hid hrow'
      have h0 : (0 : Int) ≤ (i : Int) := by omega
      have h1 : (i : Int) < (L.length : Int) := by omega
      clear hrow hrow'
      go_wp2
      go_quiet (exact Calls.quiet_of (eqIntS_q ai ai' ci ci' r _ (Hrow.out.below (below_drewN (Below.refl _ _) _)) (Hrow'.out.below (below_drewN (Below.refl _ _) _)) (by omega)))
      all_goals go_wp2
      all_goals
        go_roundw
        case rel => exact ⟨rfl, i + 1, by omega, by go_num, Lib.hid (below_drewN hb.out _)⟩
        case measure => simp [intOf]; omega
    · obtain rfl : i = L.length := by omega
      go_wp2
      go_ret
      exact ⟨rfl, hb.out⟩

end Go.Proofs.YtamgimdjnmcpaaaDoor
