/-
  The walk of the program's LiftLengths.
-/
import Derived.Test.YtodgongemoabiaaShelfSort
import Derived.Test.YtodgongemoabiaaBase
import Derived.Test.YtodgongemoabiaaSlice
import Derived.Test.YtodgongemoabiaaIntRow
import Derived.Test.YtodgongemoabiaaInts
import Derived.Test.YtodgongemoabiaaOwn
import Derived.Test.YtodgongemoabiaaAppend
import Derived.Test.YtodgongemoabiaaWord
import Derived.Test.YtodgongemoabiaaGrid
import Derived.Test.YtodgongemoabiaaGridWalk
import Derived.Test.YtodgongemoabiaaGridRows
import Derived.Test.YtodgongemoabiaaGivesRows
import Derived.Test.YtodgongemoabiaaRws
import Derived.Test.YtodgongemoabiaaClass
import Derived.Test.YtodgongemoabiaaLab
import Derived.Test.YtodgongemoabiaaMap
import Derived.Test.YtodgongemoabiaaMapA
import Derived.Test.YtodgongemoabiaaMapB
import Derived.Test.YtodgongemoabiaaMapD
import Derived.Test.YtodgongemoabiaaCov
import Derived.Test.YtodgongemoabiaaCovA
import Derived.Test.YtodgongemoabiaaCovP
import Derived.Test.YtodgongemoabiaaCovQ
import Derived.Test.YtodgongemoabiaaCovR
import Derived.Test.YtodgongemoabiaaCovB
import Derived.Test.YtodgongemoabiaaCovF
import Derived.Test.YtodgongemoabiaaCovG
import Derived.Sort.OwnSortedInts
import Derived.Deep.QuietTactic
import Derived.BigQuiet
import Derived.StillTailTactics
namespace Go.Proofs.Ytodgongemoabiaa
open Go.RowKit Go.Sort

/-- The library's sort of a row of the call's own. -/
theorem lib_Sort (N g cap : Nat) (l : List Int) (w : World) (hown : w.ownsRow N 3 1 (.slice (some ⟨g, 0, none⟩) l.length cap) l.length (intCells l)) (hl : l.length ≤ 1000000) :
    Calls Try.prog 148 #[.slice (some ⟨g, 0, none⟩) l.length cap] w fun e w' => e = .returned (.tuple #[]) ∧ w'.ownsRow N 3 1 (.slice (some ⟨g, 0, none⟩) l.length cap) l.length (intCells l.mergeSort) ∧ w.grownBy w' (some g) := by
  rcases hown.2 with ⟨e, _⟩ | ⟨g', cap', cur, e, hbase, hb, h1, h2, h3, h4⟩
  · cases e
  · cases e
    refine (Try.slices_Sort_int g 0 cap l w (holds_of_blockI hb (by simpa [intCells] using h4)) (Array.getElem?_eq_some_iff.1 hb).1 (by omega)).mono ?_
    rintro e w' ⟨rfl, n, os, rfl⟩
    refine ⟨rfl, ?_, grownBy_sortedI _⟩
    have := ownsRow_sortedI (w := w) (base := N) (g := g) (cap := cap) (n := n) (e := 3) (os := os) (cur := cur) (ss := l) (ts := l.mergeSort) (by simp) hbase hb h1 h2 h3
    exact this
theorem lib_Sort_nil (a : Option Addr) (cap : Nat) (w : World) :
    Calls Try.prog 148 #[.slice a 0 cap] w fun e w' => e = .returned (.tuple #[]) ∧ w' = w := Try.slices_Sort_int_none a cap w
set_option maxRecDepth 10000 in
set_option maxHeartbeats 2000000 in
theorem impl_LiftLengths (a aw : Option Addr) (c cw : Nat) (L : List (List Int)) (l : List Int) (w : World) (ha : GridAt w a L) (hL : ∀ p ∈ L, p.length ≤ 1048576) (hn : L.length ≤ 1048576) (haw : RowAt w aw (intCells l)) (hl : l.length ≤ 1048576) :
    Calls Try.prog 67 #[.slice a L.length c, .slice aw l.length cw] w fun e w' => Gives w (Cv.lifts L l) e w' := by
  obtain ⟨i0, hi0, hz0, hz1, hz2⟩ := info_int_parts
  have Hi0 := Lib.hid hi0; have Hz0 := Lib.hid hz0; have Hz1 := Lib.hid hz1; have Hz2 := Lib.hid hz2
  have hA := impl_ActWord a aw c cw L l w ha hL hn haw hl
  have hl5 := Cv.actW_len5 L l
  have hC := fun ai am ci cm W (h1 : RowAt W ai (intCells (Cv.actW L l))) (h2 : RowAt W am (intCells (Cls.row id (Cv.actW L l).length))) => impl_sheetCycles ai am ci cm (Cv.actW L l).length (List.range (Cv.actW L l).length) (Mp.at_ (Cv.actW L l)) W (by rw [Mp.at_row (Cv.actW_isP L l)]; exact h1) h2 (fun m hm => List.mem_range.1 hm) (fun d hd => Mp.at_lt (Cv.actW_isP L l) hd) (by omega) (by simp; omega)
  have hce : Mp.natRows (Cv.cycIn (Mp.at_ (Cv.actW L l)) (Cv.actW L l).length (List.range (Cv.actW L l).length)).2 = Mp.cycles (Cv.actW L l) := rfl
  rw [hce, List.length_range] at hC
  rw [Cv.lifts_eq]
  have hfew := Cv.cycles_few L l
  generalize Mp.cycles (Cv.actW L l) = C at *
  generalize Cv.actW L l = A at *
  obtain ⟨M, hM⟩ : ∃ M, (C.map fun r => (r.length : Int)) = M := ⟨_, rfl⟩
  rw [hM]
  have HA := Lib.hid hA; have HC := Lib.hid hC; have HM := Lib.hid hM
  clear hA hC ha haw hL hi0 hz0 hz1 hz2 hce hM
  go_enter Try.func67, Try.ntmps67
  go_wp2_with fail
  refine HA.out.mono ?_
  rintro e w1 ⟨ra, rc, rfl, _, _, hf1, hb1⟩
  have Hf1 := Lib.hid hf1.row; have Hb1 := Lib.hid hb1
  clear hf1 hb1
  go_wp2_with fail
  refine (impl_unmovedSheets A.length w1 (by omega)).mono ?_
  rintro e w2 ⟨rfl, hlab, hb2⟩
  have Hf2 := Lib.hid (Hf1.out.below hb2); have Hu2 := Lib.hid hlab.row; have Hb2 := Lib.hid (Hb1.out.trans (hb2.mono Hb1.out.size))
  clear hlab hb2
  go_wp2_with fail
  refine (HC.out ra _ rc _ w2 Hf2.out Hu2.out).mono ?_
  rintro e w3 ⟨ca, cc, rfl, _, _, hg3, hb3⟩
  have Hb3 := Lib.hid (Hb2.out.trans (hb3.mono Hb2.out.size)); have Hg3 := Lib.hid hg3.grid
  clear hg3 hb3
  go_wp2
  go_loopw [6, 8, 18] (fun ov _ iv wr => ∃ i : Nat, i ≤ C.length ∧ iv = .int .i64 i ∧ Hid (Below w3.heap.size w3 wr) ∧ Hid (wr.ownsRow w3.heap.size 3 1 ov i (intCells ((C.take i).map fun r => (r.length : Int))))) (fun _ _ iv _ => C.length - (intOf iv).toNat)
  case atStart => exact ⟨0, by omega, rfl, Lib.hid (Below.refl _ _), Lib.hid (World.ownsRow_nil _ _ _ _)⟩
  case round =>
    obtain ⟨i, hi, rfl, hb, hown⟩ := hrel
    by_cases hlt : i < C.length
    · obtain ⟨q, hq⟩ := get_some hlt
      obtain ⟨b, o, ai, ci, rfl, hbw, hcell, _⟩ := (Hg3.out.below hb.out).get hq
      have hst : intCells ((C.take i).map fun r => (r.length : Int)) ++ [.int .i64 (q.length : Int)] = intCells ((C.take (i + 1)).map fun r => (r.length : Int)) := by
        obtain ⟨hl2, rfl⟩ := List.getElem?_eq_some_iff.1 hq
        rw [List.take_succ_eq_append_getElem hl2, List.map_append, List.map_cons, List.map_nil, ← intCells_snoc]
      have Hst := Lib.hid hst
      obtain ⟨av, cv, rfl⟩ := own_len hown.out
      have hm1 : i + 1 ≤ maxLen := by unfold maxLen; omega
      have hm2 : (i + 1) * 8 ≤ 140737488355328 := by omega
      have hN := hb.out.size
      have hi0 : (0 : Int) ≤ (i : Int) := by omega
      have hi1 : (i : Int) < (C.length : Int) := by omega
      clear hst hq
      generalize intCells ((C.take i).map fun r => (r.length : Int)) = X at *
      go_wp2_with (at_builtin; refine append_one rfl (.tmp 22) (.tmp 25) 42 rfl w3.heap.size 3 i0 _ 8 Try.underlying42 Hi0.out Hz0.out Hz1.out Hz2.out (by rfl) _ _ _ rfl hown.out (by rfl) _ rfl hm1 hm2 hN ?_; intro v1 w1 hown1 hg1 _)
      go_roundw
      case rel => exact ⟨i + 1, by omega, by go_num, Lib.hid (Below.grown (hb.out.alloc hN _) hg1 (by simp; omega) (fun k hk => (hown.out.lt k hk).1)), Lib.hid (by rw [← Hst.out]; exact hown1)⟩
      case measure => simp [intOf]; omega
    · obtain rfl : i = C.length := by omega
      rw [List.take_of_length_le (Nat.le_refl _)] at hown
      rw [HM.out] at hown
      have hml : M.length = C.length := by rw [← HM.out]; exact List.length_map _
      have hbw := Hb3.out.trans (hb.out.mono Hb3.out.size)
      by_cases h0 : C.length = 0
      · obtain ⟨av, cv, rfl⟩ := own_len hown.out
        have hM : M = [] := List.eq_nil_of_length_eq_zero (by omega)
        have hg := own_gives (own_mono hown.out Hb3.out.size) hml hbw
        rw [h0] at hg
        rw [show M = M.mergeSort from by rw [hM]; simp] at hg
        have Hg := Lib.hid hg
        clear hM hml hbw hg
        rw [h0]
        go_wp2_with fail
        refine (lib_Sort_nil av cv wr).mono ?_
        rintro e w5 ⟨rfl, hw5⟩
        rw [hw5]; clear hw5 w5
        go_wp2
        go_ret
        exact Hg.out
      · obtain ⟨g, cap, rfl, hcap, hcm⟩ := own_form hown.out (by omega)
        have hS := lib_Sort w3.heap.size g cap M wr (by rw [hml]; exact hown.out) (by omega)
        rw [hml] at hS
        have hgN := (hown.out.lt g rfl).1
        have HS := Lib.hid hS; have Hml := Lib.hid hml; have Hbw := Lib.hid hbw
        have hw3 := Hb3.out.size
        clear hS hml hbw h0
        go_wp2_with fail
        refine HS.out.mono ?_
        rintro e w5 ⟨rfl, hown5, hg5⟩
        have hb5 := Below.grown Hbw.out hg5 Hbw.out.size (fun k hk => by cases hk; omega)
        have hg := own_gives (own_mono hown5 hw3) (by rw [List.length_mergeSort]; exact Hml.out) hb5
        have Hg := Lib.hid hg
        clear hg hown5 hg5 hb5
        go_wp2
        go_ret
        exact Hg.out
end Go.Proofs.Ytodgongemoabiaa
