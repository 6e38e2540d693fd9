/-
  The walk of the model's CancelSides at every argument.
-/
import Derived.Test.YtbajfmehncgbeaaBase
import Derived.Test.YtbajfmehncgbeaaSlice
import Derived.Test.YtbajfmehncgbeaaIntRow
import Derived.Test.YtbajfmehncgbeaaInts
import Derived.Test.YtbajfmehncgbeaaOwn
import Derived.Test.YtbajfmehncgbeaaGrid
import Derived.Test.YtbajfmehncgbeaaGridWalk
import Derived.Test.YtbajfmehncgbeaaGridRows
import Derived.Test.YtbajfmehncgbeaaWord
import Derived.Test.YtbajfmehncgbeaaGlue
import Derived.Test.YtbajfmehncgbeaaIsWord
import Derived.Test.YtbajfmehncgbeaaIsGluing
import Derived.Test.YtbajfmehncgbeaaAppend
import Derived.Test.YtbajfmehncgbeaaTurn
import Derived.Test.YtbajfmehncgbeaaMove
import Derived.Test.YtbajfmehncgbeaaMoveA
import Derived.Test.YtbajfmehncgbeaaMoveB
import Derived.Test.YtbajfmehncgbeaaMoveC
import Derived.Test.YtbajfmehncgbeaaMoveF
import Derived.Test.YtbajfmehncgbeaaMoveG
namespace Go.Proofs.Ytbajfmehncgbeaa
open Go.RowKit
set_option maxRecDepth 10000 in
set_option maxHeartbeats 1000000 in
theorem spec_CancelSides (a : Option Addr) (c : Nat) (L : List (List Int)) (p i : Int) (w : World) (ha : GridC w a L) (hl : tot L ≤ 1048576) (_hp0 : -9223372036854775808 ≤ p) (_hp1 : p ≤ 9223372036854775807) (_hi0 : -9223372036854775808 ≤ i) (_hi1 : i ≤ 9223372036854775807) :
    Calls Try.prog 33 #[.slice a L.length c, .int .i64 p, .int .i64 i] w fun e w' => GivesRows2 w (Mv.cancel L p i) (decide (Mv.CancelOk L p i)) e w' := by
  have hG := spec_IsGluing a c L w ha.grid hl
  by_cases hg : Glue.IsG L
  · have hln : L.length ≤ 4 := hg.2.1
    have hX := fun W => spec_l1In p 0 ((L.length : Int) - 1) W
    rw [decide_eq_true hg] at hG
    by_cases hp : 0 ≤ p ∧ p ≤ (L.length : Int) - 1
    · have hH : Mv.Has L p := ⟨hg, hp.1, by omega⟩
      rw [decide_eq_true hp] at hX
      obtain ⟨P, rfl⟩ : ∃ P : Nat, p = (P : Int) := ⟨p.toNat, by omega⟩
      by_cases hin : 3 ≤ (Mv.row L (P : Int)).length ∧ 0 ≤ i ∧ i ≤ ((Mv.row L (P : Int)).length : Int) - 1
      · obtain ⟨I, rfl⟩ : ∃ I : Nat, i = (I : Int) := ⟨i.toNat, by omega⟩
        exact spec_CancelSides_in a c L P I w ha hl hH hin.1 (by omega)
      · have hn : ¬ Mv.CancelOk L (P : Int) i := fun h => hin ⟨h.2.1, h.2.2.1, by have := h.2.2.2.1; omega⟩
        rw [Mv.cancel_no hn, decide_eq_false hn]
        have hY := fun W => spec_l1In i 0 (((Mv.row L (P : Int)).length : Int) - 1) W
        have hP : P < L.length := by have := hH.lt; omega
        have hPi : (P : Int) < (L.length : Int) := by omega
        have hget : L[P]? = some (Mv.row L (P : Int)) := by have := hH.get; simpa using this
        have hrow : (Mv.row L (P : Int)).length ≤ 20 := hH.tot
        obtain ⟨b, o, ai, ci, rfl, hci, hcell0, hrw⟩ := ha.cell hget
        generalize Mv.row L (P : Int) = r at *
        have Hcell0 := Lib.hid hcell0; have HX := Lib.hid hX
        by_cases h3 : (r.length : Int) < 3
        · have d3 : decide ((r.length : Int) < 3) = true := decide_eq_true h3
          clear hget ha hcell0 hrw hn hH hX hY hp hin
          have HG := Lib.hid hG; clear hG
          go_enter Try.func33, Try.ntmps33
          go_wp2_with fail
          refine HG.out.mono ?_
          rintro e w1 ⟨rfl, hb1⟩
          have hcell := Hcell0.out w1 hb1
          go_wp2_with fail
          refine (HX.out _).mono ?_
          rintro e w9 ⟨rfl, hw9⟩
          rw [hw9]; clear hw9 w9
          go_wp2
          go_ret2
          exact GivesRows2.none (hb1.alloc hb1.size _) (Nat.zero_le _)
        · have d3 : decide ((r.length : Int) < 3) = false := decide_eq_false h3
          rw [decide_eq_false (fun h => hin ⟨by omega, h⟩)] at hY
          have HY := Lib.hid hY
          clear hget ha hcell0 hrw hn hH hX hY hp hin
          have HG := Lib.hid hG; clear hG
          go_enter Try.func33, Try.ntmps33
          go_wp2_with fail
          refine HG.out.mono ?_
          rintro e w1 ⟨rfl, hb1⟩
          have hcell := Hcell0.out w1 hb1
          go_wp2_with fail
          refine (HX.out _).mono ?_
          rintro e w9 ⟨rfl, hw9⟩
          rw [hw9]; clear hw9 w9
          go_wp2_with fail
          refine (HY.out _).mono ?_
          rintro e w9 ⟨rfl, hw9⟩
          rw [hw9]; clear hw9 w9
          go_wp2
          go_ret2
          exact GivesRows2.none (hb1.alloc hb1.size _) (Nat.zero_le _)
    · rw [decide_eq_false hp] at hX
      have hn : ¬ Mv.CancelOk L p i := fun h => hp ⟨h.1.2.1, by have := h.1.2.2; omega⟩
      rw [Mv.cancel_no hn, decide_eq_false hn]
      have HX := Lib.hid hX
      clear hX hn hp hg
      have HG := Lib.hid hG; clear hG
      go_enter Try.func33, Try.ntmps33
      go_wp2_with fail
      refine HG.out.mono ?_
      rintro e w1 ⟨rfl, hb1⟩
      go_wp2_with fail
      refine (HX.out _).mono ?_
      rintro e w9 ⟨rfl, hw9⟩
      rw [hw9]; clear hw9 w9
      go_wp2
      go_ret2
      exact GivesRows2.none (hb1.alloc hb1.size _) (Nat.zero_le _)
  · have hn : ¬ Mv.CancelOk L p i := fun h => hg h.1.1
    rw [Mv.cancel_no hn, decide_eq_false hn]
    rw [decide_eq_false hg] at hG
    clear hn hg
    have HG := Lib.hid hG; clear hG
    go_enter Try.func33, Try.ntmps33
    go_wp2_with fail
    refine HG.out.mono ?_
    rintro e w1 ⟨rfl, hb1⟩
    go_wp2
    go_ret2
    exact GivesRows2.none (hb1.alloc hb1.size _) (Nat.zero_le _)
end Go.Proofs.Ytbajfmehncgbeaa
