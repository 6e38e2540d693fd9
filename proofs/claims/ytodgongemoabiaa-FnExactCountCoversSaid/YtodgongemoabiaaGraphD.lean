/-
  The walks of the program's and the model's CountRotations and FirstRotation.
-/
import Derived.Test.YtodgongemoabiaaBase
import Derived.Test.YtodgongemoabiaaSlice
import Derived.Test.YtodgongemoabiaaIntRow
import Derived.Test.YtodgongemoabiaaInts
import Derived.Test.YtodgongemoabiaaOwn
import Derived.Test.YtodgongemoabiaaGrid
import Derived.Test.YtodgongemoabiaaClass
import Derived.Test.YtodgongemoabiaaLab
import Derived.Test.YtodgongemoabiaaMap
import Derived.Test.YtodgongemoabiaaMapB
import Derived.Test.YtodgongemoabiaaGraphA
import Derived.Test.YtodgongemoabiaaMapTopo
import Derived.Deep.QuietTactic
import Derived.BigQuiet
namespace Go.Proofs.Ytodgongemoabiaa
open Go.RowKit

namespace Gr
theorem fac_step {K : Nat} (h : 1 ≤ K) : fac (K - 1) * K = fac K := by
  obtain ⟨j, rfl⟩ : ∃ j, K = j + 1 := ⟨K - 1, by omega⟩
  rfl
theorem fac_le {K : Nat} (h : K ≤ 20) : fac K ≤ 2432902008176640000 := by rw [← fac_20]; exact fac_mono h
end Gr

set_option maxRecDepth 10000 in
set_option maxHeartbeats 1000000 in
theorem spec_l7Factorial (n : Int) (w : World) (h0 : -1 ≤ n) (h1 : n ≤ 20) :
    Calls Try.prog 154 #[.int .i64 n] w fun e w' => e = .returned (.int .i64 ((Gr.fac n.toNat : Nat) : Int)) ∧ w' = w := by
  obtain ⟨m, hm⟩ : ∃ m, n.toNat = m := ⟨_, rfl⟩
  rw [hm]
  have Hm := Lib.hid hm
  clear hm
  go_enter Try.func154, Try.ntmps154
  go_wp2
  go_loopw [3, 4] (fun ov kv wr => ∃ K : Nat, 2 ≤ K ∧ (K ≤ m + 1 ∨ K = 2) ∧ kv = .int .i64 K ∧ ov = .int .i64 ((Gr.fac (K - 1) : Nat) : Int) ∧ wr = w) (fun _ kv _ => 30 - (intOf kv).toNat)
  case atStart => exact ⟨2, Nat.le_refl _, Or.inr rfl, rfl, rfl, rfl⟩
  case round =>
    obtain ⟨K, hK2, hKm, rfl, rfl, rfl⟩ := hrel
    by_cases hlt : K ≤ m
    · have d1 : (K : Int) ≤ n := by have := Hm.out; omega
      have hK20 : K ≤ 20 := by have := Hm.out; omega
      have hst := Gr.fac_step (K := K) (by omega)
      have hle := Gr.fac_le hK20
      have hle0 := Gr.fac_le (K := K - 1) (by omega)
      have hmul : ((Gr.fac (K - 1) : Nat) : Int) * (K : Int) = ((Gr.fac K : Nat) : Int) := by rw [← hst]; exact (Int.natCast_mul _ _).symm
      have hwr : IntKind.i64.wrap (((Gr.fac (K - 1) : Nat) : Int) * (K : Int)) = ((Gr.fac K : Nat) : Int) := by rw [hmul]; exact wrap_small (by omega) (by omega)
      clear hst hmul
      generalize hf : Gr.fac (K - 1) = f0 at *
      generalize hg : Gr.fac K = f1 at *
      have Hg := Lib.hid hg
      clear hf hg
      go_wp2
      go_roundw
      case rel => exact ⟨K + 1, by omega, Or.inl (by omega), by go_num, by rw [Nat.add_sub_cancel, Hg.out], trivial⟩
      case measure => simp [intOf] <;> omega
    · have d1 : ¬ (K : Int) ≤ n := by have := Hm.out; omega
      have hf : Gr.fac (K - 1) = Gr.fac m := by
        rcases hKm with h | h
        · rw [show K - 1 = m by omega]
        · subst h
          rcases (by omega : m = 0 ∨ m = 1) with rfl | rfl <;> rfl
      rw [hf]
      clear hf hlt
      go_wp2
      go_ret
      exact ⟨rfl, rfl⟩


end Go.Proofs.Ytodgongemoabiaa
