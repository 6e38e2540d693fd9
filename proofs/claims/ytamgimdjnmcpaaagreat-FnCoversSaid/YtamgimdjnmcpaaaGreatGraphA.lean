/-
  The walks of the program's and the model's IsGraph. The walk of the model's IsGraph. The walks of the program's and the model's DegreesOf and CountRotations, and of the darts of a vertex. The walks of the program's and the model's CountRotations and FirstRotation.
-/
import Derived.Test.YtamgimdjnmcpaaaGreatBase
import Derived.Test.YtamgimdjnmcpaaaGreatSlice
import Derived.Test.YtamgimdjnmcpaaaGreatInts
import Derived.Test.YtamgimdjnmcpaaaGreatGrid
import Derived.Test.YtamgimdjnmcpaaaGreatWord
import Derived.Test.YtamgimdjnmcpaaaGreatIsWord
import Derived.Test.YtamgimdjnmcpaaaGreatMapTopo
import Derived.Deep.QuietTactic
import Derived.BigQuiet
import Derived.Test.YtamgimdjnmcpaaaGreatIntRow
import Derived.Test.YtamgimdjnmcpaaaGreatOwn
import Derived.Test.YtamgimdjnmcpaaaGreatGridRows
import Derived.Test.YtamgimdjnmcpaaaGreatClass
import Derived.Test.YtamgimdjnmcpaaaGreatLab
import Derived.Test.YtamgimdjnmcpaaaGreatMap
import Derived.Test.YtamgimdjnmcpaaaGreatMapB
import Derived.Test.YtamgimdjnmcpaaaGreatPut
namespace Go.Proofs.YtamgimdjnmcpaaaGreat
open Go.RowKit

theorem len_two {l : List Int} (h : l.length = 2) : ∃ x y, l = [x, y] := by
  match l, h with
  | [x, y], _ => exact ⟨x, y, rfl⟩
theorem two_cells {w : World} {a : Option Addr} {x y : Int} (h : RowAt w a (intCells [x, y])) : ∃ b o, a = some ⟨b, o, none⟩ ∧ b < w.heap.size ∧ w.cell? ⟨b, o, none⟩ = some (.int .i64 x) ∧ w.cell? ⟨b, o + 1, none⟩ = some (.int .i64 y) := by
  obtain ⟨b, o, rfl, hb, hc⟩ := h.at (i := 0) (by simp [intCells])
  exact ⟨b, o, rfl, hb, hc 0 _ rfl, hc 1 _ rfl⟩


namespace Gr
theorem isE_val (x y : Int) : decide (IsE [x, y]) = ((x != y) && (decide (0 ≤ x ∧ x ≤ 6) && decide (0 ≤ y ∧ y ≤ 6))) := by
  rw [Bool.eq_iff_iff]
  simp only [decide_eq_true_eq, Bool.and_eq_true, bne_iff_ne, isE_two]
  omega
theorem isE_not2 {l : List Int} (h : l.length ≠ 2) : decide (IsE l) = false := decide_eq_false (isE_len h)
theorem all_isG {L : List (List Int)} (h : ∀ j (hj : j < L.length), IsE L[j]) : decide (IsG L) = decide (1 ≤ L.length ∧ L.length ≤ 10) :=
  decide_eq_decide.2 ⟨fun hg => hg.2, fun hn => ⟨fun e he => by obtain ⟨j, hj, rfl⟩ := List.getElem_of_mem he; exact h j hj, hn⟩⟩
end Gr



end Go.Proofs.YtamgimdjnmcpaaaGreat
namespace Go.Proofs.YtamgimdjnmcpaaaGreat
open Go.RowKit

end Go.Proofs.YtamgimdjnmcpaaaGreat
namespace Go.Proofs.YtamgimdjnmcpaaaGreat
open Go.RowKit

namespace Gr
/-- The end of an edge at a dart. -/
theorem end_get {L : List (List Int)} (h : IsG L) {k i : Nat} (hk : k < L.length) (hi : i < 2) {r : List Int} (hr : L[k]? = some r) : r.length = 2 ∧ r[i]? = some ((vx L (2 * k + i) : Nat) : Int) := by
  obtain ⟨e, _⟩ := ends h hk
  rw [hr] at e
  cases e
  refine ⟨rfl, ?_⟩
  rcases (by omega : i = 0 ∨ i = 1) with rfl | rfl <;> rfl
theorem degs_yes {L : List (List Int)} (h : IsG L) : degs L = Cls.row (deg L) 7 := if_pos h
theorem degs_no {L : List (List Int)} (h : ¬ IsG L) : degs L = [] := if_neg h
theorem rots_yes {L : List (List Int)} (h : IsG L) : rots L = ((rot (vx L) (2 * L.length) 7 : Nat) : Int) := if_pos h
theorem rots_no {L : List (List Int)} (h : ¬ IsG L) : rots L = -1 := if_neg h
theorem row_more (f : Nat → Nat) (n : Nat) : Cls.row f n ++ [((f n : Nat) : Int)] = Cls.row f (n + 1) := by unfold Cls.row; rw [List.range_succ, List.map_append]; rfl
end Gr



end Go.Proofs.YtamgimdjnmcpaaaGreat
namespace Go.Proofs.YtamgimdjnmcpaaaGreat
open Go.RowKit

namespace Gr
theorem fac_step {K : Nat} (h : 1 ≤ K) : fac (K - 1) * K = fac K := by
  obtain ⟨j, rfl⟩ : ∃ j, K = j + 1 := ⟨K - 1, by omega⟩
  rfl
theorem fac_le {K : Nat} (h : K ≤ 20) : fac K ≤ 2432902008176640000 := by rw [← fac_20]; exact fac_mono h
end Gr

set_option maxRecDepth 10000 in
set_option maxHeartbeats 1000000 in
theorem spec_l7Factorial (n : Int) (w : World) (h0 : -1 ≤ n) (h1 : n ≤ 20) :
    Calls Tryz.prog 64 #[.int .i64 n] w fun e w' => e = .returned (.int .i64 ((Gr.fac n.toNat : Nat) : Int)) ∧ w' = w := by
  obtain ⟨m, hm⟩ : ∃ m, n.toNat = m := ⟨_, rfl⟩
  rw [hm]
  have Hm := Lib.hid hm
  clear hm
  go_enter Tryz.func64, Tryz.ntmps64
  go_wp2
  go_loopw [3, 4] (fun ov kv wr => ∃ K : Nat, 2 ≤ K ∧ (K ≤ m + 1 ∨ K = 2) ∧ kv = .int .i64 K ∧ ov = .int .i64 ((Gr.fac (K - 1) : Nat) : Int) ∧ wr = w) (fun _ kv _ => 30 - (intOf kv).toNat)
  case atStart => exact ⟨2, Nat.le_refl _, Or.inr rfl, rfl, rfl, rfl⟩
  case round =>
    obtain ⟨K, hK2, hKm, rfl, rfl, rfl⟩ := hrel
    by_cases hlt : K ≤ m
    · have d1 : (K : Int) ≤ n := by have := Hm.out; omega
      have hK20 : K ≤ 20 := by have := Hm.out; omega
      have hst := Gr.fac_step (K := K) (by omega)
      have hle := Gr.fac_le hK20
      have hle0 := Gr.fac_le (K := K - 1) (by omega)
      have hmul : ((Gr.fac (K - 1) : Nat) : Int) * (K : Int) = ((Gr.fac K : Nat) : Int) := by rw [← hst]; exact (Int.natCast_mul _ _).symm
      have hwr : IntKind.i64.wrap (((Gr.fac (K - 1) : Nat) : Int) * (K : Int)) = ((Gr.fac K : Nat) : Int) := by rw [hmul]; exact wrap_small (by omega) (by omega)
      clear hst hmul
      generalize hf : Gr.fac (K - 1) = f0 at *
      generalize hg : Gr.fac K = f1 at *
      have Hg := Lib.hid hg
      clear hf hg
      go_wp2
      go_roundw
      case rel => exact ⟨K + 1, by omega, Or.inl (by omega), by go_num, by rw [Nat.add_sub_cancel, Hg.out], trivial⟩
      case measure => simp [intOf] <;> omega
    · have d1 : ¬ (K : Int) ≤ n := by have := Hm.out; omega
      have hf : Gr.fac (K - 1) = Gr.fac m := by
        rcases hKm with h | h
        · rw [show K - 1 = m by omega]
        · subst h
          rcases (by omega : m = 0 ∨ m = 1) with rfl | rfl <;> rfl
      rw [hf]
      clear hf hlt
      go_wp2
      go_ret
      exact ⟨rfl, rfl⟩


end Go.Proofs.YtamgimdjnmcpaaaGreat
