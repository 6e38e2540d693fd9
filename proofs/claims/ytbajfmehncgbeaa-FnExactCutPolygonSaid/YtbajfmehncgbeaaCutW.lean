/-
  The walk of the model's CutPolygon at every argument.
-/
import Derived.Test.YtbajfmehncgbeaaBase
import Derived.Test.YtbajfmehncgbeaaSlice
import Derived.Test.YtbajfmehncgbeaaIntRow
import Derived.Test.YtbajfmehncgbeaaInts
import Derived.Test.YtbajfmehncgbeaaOwn
import Derived.Test.YtbajfmehncgbeaaGrid
import Derived.Test.YtbajfmehncgbeaaGridWalk
import Derived.Test.YtbajfmehncgbeaaGridRows
import Derived.Test.YtbajfmehncgbeaaWord
import Derived.Test.YtbajfmehncgbeaaGlue
import Derived.Test.YtbajfmehncgbeaaIsWord
import Derived.Test.YtbajfmehncgbeaaIsGluing
import Derived.Test.YtbajfmehncgbeaaAppend
import Derived.Test.YtbajfmehncgbeaaConcat
import Derived.Test.YtbajfmehncgbeaaTurn
import Derived.Test.YtbajfmehncgbeaaMove
import Derived.Test.YtbajfmehncgbeaaMoveA
import Derived.Test.YtbajfmehncgbeaaMoveB
import Derived.Test.YtbajfmehncgbeaaMoveC
import Derived.Test.YtbajfmehncgbeaaCut
import Derived.Test.YtbajfmehncgbeaaCutI
import Derived.Test.YtbajfmehncgbeaaCutS
import Derived.Deep.QuietTactic
import Derived.BigQuiet
import Derived.Deep.RegionLaw
import Derived.Deep.RegionWith
namespace Go.Proofs.Ytbajfmehncgbeaa
open Go.RowKit

set_option maxRecDepth 10000 in
set_option maxHeartbeats 1000000 in
theorem spec_CutPolygon (a : Option Addr) (c : Nat) (L : List (List Int)) (p i j : Int) (w : World) (ha : GridC w a L) (hl : tot L ≤ 1048576) (_hp0 : -9223372036854775808 ≤ p) (_hp1 : p ≤ 9223372036854775807) (_hi0 : -9223372036854775808 ≤ i) (_hi1 : i ≤ 9223372036854775807) (_hj0 : -9223372036854775808 ≤ j) (_hj1 : j ≤ 9223372036854775807) :
    Calls Try.prog 15 #[.slice a L.length c, .int .i64 p, .int .i64 i, .int .i64 j] w fun e w' => GivesRows2 w (Mv.cut L p i j) (decide (Mv.CutOk L p i j)) e w' := by
  have hG := spec_IsGluing a c L w ha.grid hl
  by_cases hg : Glue.IsG L
  · have hln : L.length ≤ 4 := hg.2.1
    have hX := fun W => spec_l1In p 0 ((L.length : Int) - 1) W
    rw [decide_eq_true hg] at hG
    by_cases hp : 0 ≤ p ∧ p ≤ (L.length : Int) - 1
    · have hH : Mv.Has L p := ⟨hg, hp.1, by omega⟩
      rw [decide_eq_true hp] at hX
      obtain ⟨P, rfl⟩ : ∃ P : Nat, p = (P : Int) := ⟨p.toNat, by omega⟩
      by_cases hin : 0 ≤ i ∧ i < j ∧ j < ((Mv.row L (P : Int)).length : Int)
      · obtain ⟨I, rfl⟩ : ∃ I : Nat, i = (I : Int) := ⟨i.toNat, by omega⟩
        obtain ⟨J, rfl⟩ : ∃ J : Nat, j = (J : Int) := ⟨j.toNat, by omega⟩
        exact spec_CutPolygon_in a c L P I J w ha hl hH (by omega) (by omega)
      · obtain ⟨hn1, hn2⟩ := cut_no (L := L) (p := (P : Int)) (i := i) (j := j) (fun h => hin h.2)
        rw [hn2, decide_eq_false hn1]
        have hY := fun W => spec_l1In j 0 (((Mv.row L (P : Int)).length : Int) - 1) W
        have hP : P < L.length := by have := hH.lt; omega
        have hPi : (P : Int) < (L.length : Int) := by omega
        have hget : L[P]? = some (Mv.row L (P : Int)) := by have := hH.get; simpa using this
        have hrow : (Mv.row L (P : Int)).length ≤ 20 := hH.tot
        obtain ⟨b, o, ai, ci, rfl, hci, hcell0, hrw⟩ := ha.cell hget
        generalize Mv.row L (P : Int) = r at *
        have Hcell0 := Lib.hid hcell0; have HX := Lib.hid hX
        by_cases h3 : 0 ≤ j ∧ j ≤ (r.length : Int) - 1
        · rw [decide_eq_true h3] at hY
          have hZ := fun W => spec_l1In i 0 (j - 1) W
          rw [decide_eq_false (fun h => hin ⟨by omega, by omega, by omega⟩)] at hZ
          have HY := Lib.hid hY; have HZ := Lib.hid hZ
          obtain ⟨j0, j1⟩ := h3
          clear hget ha hcell0 hrw hn1 hn2 hH hX hY hZ hp hin
          have HG := Lib.hid hG; clear hG
          go_enter Try.func15, Try.ntmps15
          go_wp2_with fail
          refine HG.out.mono ?_
          rintro e w1 ⟨rfl, hb1⟩
          have hcell := Hcell0.out w1 hb1
          go_wp2_with fail
          refine (HX.out _).mono ?_
          rintro e w9 ⟨rfl, hw9⟩
          rw [hw9]; clear hw9 w9
          go_wp2_with fail
          refine (HY.out _).mono ?_
          rintro e w9 ⟨rfl, hw9⟩
          rw [hw9]; clear hw9 w9
          go_wp2_with fail
          refine (HZ.out _).mono ?_
          rintro e w9 ⟨rfl, hw9⟩
          rw [hw9]; clear hw9 w9
          go_wp2
          go_ret2
          exact GivesRows2.none (hb1.alloc hb1.size _) (Nat.zero_le _)
        · rw [decide_eq_false h3] at hY
          have HY := Lib.hid hY
          clear hget ha hcell0 hrw hn1 hn2 hH hX hY hp hin h3
          have HG := Lib.hid hG; clear hG
          go_enter Try.func15, Try.ntmps15
          go_wp2_with fail
          refine HG.out.mono ?_
          rintro e w1 ⟨rfl, hb1⟩
          have hcell := Hcell0.out w1 hb1
          go_wp2_with fail
          refine (HX.out _).mono ?_
          rintro e w9 ⟨rfl, hw9⟩
          rw [hw9]; clear hw9 w9
          go_wp2_with fail
          refine (HY.out _).mono ?_
          rintro e w9 ⟨rfl, hw9⟩
          rw [hw9]; clear hw9 w9
          go_wp2
          go_ret2
          exact GivesRows2.none (hb1.alloc hb1.size _) (Nat.zero_le _)
    · rw [decide_eq_false hp] at hX
      obtain ⟨hn1, hn2⟩ := cut_no (L := L) (p := p) (i := i) (j := j) (fun h => hp ⟨h.1.2.1, by have := h.1.2.2; omega⟩)
      rw [hn2, decide_eq_false hn1]
      have HX := Lib.hid hX
      clear hX hn1 hn2 hp hg
      have HG := Lib.hid hG; clear hG
      go_enter Try.func15, Try.ntmps15
      go_wp2_with fail
      refine HG.out.mono ?_
      rintro e w1 ⟨rfl, hb1⟩
      go_wp2_with fail
      refine (HX.out _).mono ?_
      rintro e w9 ⟨rfl, hw9⟩
      rw [hw9]; clear hw9 w9
      go_wp2
      go_ret2
      exact GivesRows2.none (hb1.alloc hb1.size _) (Nat.zero_le _)
  · obtain ⟨hn1, hn2⟩ := cut_no (L := L) (p := p) (i := i) (j := j) (fun h => hg h.1.1)
    rw [hn2, decide_eq_false hn1]
    rw [decide_eq_false hg] at hG
    clear hn1 hn2 hg
    have HG := Lib.hid hG; clear hG
    go_enter Try.func15, Try.ntmps15
    go_wp2_with fail
    refine HG.out.mono ?_
    rintro e w1 ⟨rfl, hb1⟩
    go_wp2
    go_ret2
    exact GivesRows2.none (hb1.alloc hb1.size _) (Nat.zero_le _)
end Go.Proofs.Ytbajfmehncgbeaa
