/-
  The walk of the program's CutPolygon.
-/
import Derived.Test.YtbajfmehncgbeaaBase
import Derived.Test.YtbajfmehncgbeaaSlice
import Derived.Test.YtbajfmehncgbeaaIntRow
import Derived.Test.YtbajfmehncgbeaaInts
import Derived.Test.YtbajfmehncgbeaaOwn
import Derived.Test.YtbajfmehncgbeaaGrid
import Derived.Test.YtbajfmehncgbeaaGridWalk
import Derived.Test.YtbajfmehncgbeaaGridRows
import Derived.Test.YtbajfmehncgbeaaWord
import Derived.Test.YtbajfmehncgbeaaGlue
import Derived.Test.YtbajfmehncgbeaaIsWord
import Derived.Test.YtbajfmehncgbeaaIsGluing
import Derived.Test.YtbajfmehncgbeaaAppend
import Derived.Test.YtbajfmehncgbeaaConcat
import Derived.Test.YtbajfmehncgbeaaTurn
import Derived.Test.YtbajfmehncgbeaaMove
import Derived.Test.YtbajfmehncgbeaaMoveA
import Derived.Test.YtbajfmehncgbeaaMoveB
import Derived.Test.YtbajfmehncgbeaaMoveC
import Derived.Test.YtbajfmehncgbeaaCut
import Derived.Deep.QuietTactic
import Derived.BigQuiet
import Derived.Deep.RegionLaw
import Derived.Deep.RegionWith
namespace Go.Proofs.Ytbajfmehncgbeaa
open Go.RowKit

set_option maxRecDepth 10000 in
set_option maxHeartbeats 4000000 in
theorem impl_CutPolygon_in (a : Option Addr) (c : Nat) (L : List (List Int)) (P I J : Nat) (w : World) (ha : GridC w a L) (hl : tot L ≤ 1048576) (hH : Mv.Has L (P : Int)) (hIJ : I < J) (hJ : J < (Mv.row L (P : Int)).length) :
    Calls Try.prog 14 #[.slice a L.length c, .int .i64 (P : Int), .int .i64 (I : Int), .int .i64 (J : Int)] w fun e w' => GivesRows2 w (Mv.cut L (P : Int) (I : Int) (J : Int)) (decide (Mv.CutOk L (P : Int) (I : Int) (J : Int))) e w' := by
  have hHc := impl_hasPolygon a c L (P : Int) w ha.grid hl
  rw [decide_eq_true hH] at hHc
  have hP : P < L.length := by have := hH.lt; omega
  have hPi : (P : Int) < (L.length : Int) := by omega
  have hln : L.length ≤ 4 := hH.1.2.1
  have hget : L[P]? = some (Mv.row L (P : Int)) := by have := hH.get; simpa using this
  have hrow : (Mv.row L (P : Int)).length ≤ 20 := hH.tot
  obtain ⟨b, o, ai, ci, rfl, hci, hcell0, hrw⟩ := ha.cell hget
  have Ha := Lib.hid ha.grid
  have hcutn : Mv.CutIn L (P : Int) (I : Int) (J : Int) := ⟨hH, by omega, by omega, by omega⟩
  have hval : Mv.cut L (P : Int) (I : Int) (J : Int) = if Glue.IsG (Mv.cutAt L (P : Int) (I : Int) (J : Int)) then Mv.cutAt L (P : Int) (I : Int) (J : Int) else [] := by
    unfold Mv.cut
    by_cases h : Glue.IsG (Mv.cutAt L (P : Int) (I : Int) (J : Int))
    · rw [if_pos h, if_pos ⟨hcutn, h⟩]
    · rw [if_neg h, if_neg (fun hc => h hc.2)]
  have hdec : decide (Mv.CutOk L (P : Int) (I : Int) (J : Int)) = decide (Glue.IsG (Mv.cutAt L (P : Int) (I : Int) (J : Int))) :=
    decide_eq_decide.2 ⟨fun h => h.2, fun h => ⟨hcutn, h⟩⟩
  rw [hval, hdec]
  obtain ⟨hx0, hx1⟩ := Mv.newL_pos L
  have hN := fun W (hb : Below w.heap.size w W) => impl_leastNewLetter (some ⟨b, o, none⟩) c L W (Ha.out.below hb) hH.1
  have hWi := fun ra rc r W (hb : Below w.heap.size w W) => impl_withPolygon (some ⟨b, o, none⟩) ra c rc w.heap.size P L r W (Ha.out.below hb) hl hP
  have hcut : Mv.cutAt L (P : Int) (I : Int) (J : Int) = L.set P (((Mv.row L (P : Int)).drop I).take (J - I) ++ [(Mv.newL L : Int)]) ++ [[-(Mv.newL L : Int)] ++ (Mv.row L (P : Int)).drop J ++ (Mv.row L (P : Int)).take I] := by
    unfold Mv.cutAt; simp only [Int.toNat_natCast]
  generalize Mv.row L (P : Int) = r at *
  generalize Mv.newL L = x at *
  have hrw0 := hrw w (Below.refl _ _)
  obtain ⟨rb, ro, rfl⟩ := row_some hrw0 (by omega)
  have hR := fun v W lo (h : Held W lo v (Mv.cutAt L (P : Int) (I : Int) (J : Int))) h2 => impl_gluingOrNone v (Mv.cutAt L (P : Int) (I : Int) (J : Int)) lo W h h2
  have htot : tot (Mv.cutAt L (P : Int) (I : Int) (J : Int)) ≤ 1048576 := by
    rw [hcut]
    have h1 := Mv.sum_set (r := (r.drop I).take (J - I) ++ [(x : Int)]) hget
    have h2 := tot_of_append (L.set P ((r.drop I).take (J - I) ++ [(x : Int)])) ([-(x : Int)] ++ r.drop J ++ r.take I)
    have h3 := hH.1.2.2.2.1
    have e1 : ((r.drop I).take (J - I) ++ [(x : Int)]).length ≤ 21 := by simp; omega
    have e2 : ([-(x : Int)] ++ r.drop J ++ r.take I).length ≤ 41 := by simp; omega
    rw [List.length_set] at h2
    omega
  have hR := fun v W lo (h : Held W lo v (Mv.cutAt L (P : Int) (I : Int) (J : Int))) => hR v W lo h htot
  rw [hcut] at hR ⊢
  clear hcut hval hdec hcutn htot
  obtain ⟨R1, hR1⟩ : ∃ R1, (r.drop I).take (J - I) ++ [(x : Int)] = R1 := ⟨_, rfl⟩
  obtain ⟨R2, hR2⟩ : ∃ R2, [-(x : Int)] ++ r.drop J ++ r.take I = R2 := ⟨_, rfl⟩
  rw [hR1, hR2] at hR ⊢
  generalize decide (Glue.IsG (L.set P R1 ++ [R2])) = dG at *
  generalize (if Glue.IsG (L.set P R1 ++ [R2]) then L.set P R1 ++ [R2] else []) = V at *
  have HR1 := Lib.hid hR1; have HR2 := Lib.hid hR2
  clear hR1 hR2
  have Hdrop := Lib.hid (fun m W (hb : Below w.heap.size w W) => row_drop (m := m) (hrw W hb))
  have Htake := Lib.hid (fun m W (hb : Below w.heap.size w W) => row_take (m := m) (hrw W hb))
  have Hmid := Lib.hid (fun W (hb : Below w.heap.size w W) => row_take (m := J - I) (row_drop (m := I) (hrw W hb)))
  have Hl1 : Hid (((r.drop I).take (J - I)).length = J - I) := Lib.hid (by simp; omega)
  have Hl2 : Hid ((r.drop J).length = r.length - J) := Lib.hid (by simp)
  have Hl3 : Hid ((r.take I).length = I) := Lib.hid (by simp; omega)
  obtain ⟨i0, hi0, hz0, hz1, hz2⟩ := info_ints_parts
  have Hi0 := Lib.hid hi0; have Hz0 := Lib.hid hz0; have Hz1 := Lib.hid hz1; have Hz2 := Lib.hid hz2
  have HHc := Lib.hid hHc; have Hcell0 := Lib.hid hcell0; have HN := Lib.hid hN; have HWi := Lib.hid hWi; have HR := Lib.hid hR
  have d1 : decide ((I : Int) < 0) = false := decide_eq_false (by omega)
  have d2 : decide ((J : Int) ≤ (I : Int)) = false := decide_eq_false (by omega)
  have d2n : decide (J ≤ I) = false := decide_eq_false (by omega)
  have d3 : decide ((r.length : Int) ≤ (J : Int)) = false := decide_eq_false (by omega)
  have d3n : decide (r.length ≤ J) = false := decide_eq_false (by omega)
  have k1 : I ≤ J := by omega
  have k2 : (I : Int) ≤ (J : Int) := by omega
  have k3 : J ≤ r.length := by omega
  have k4 : (J : Int) ≤ (r.length : Int) := by omega
  have k5 : J ≤ ci := by omega
  have k6 : (J : Int) ≤ (ci : Int) := by omega
  have k7 : ¬ ci = I := by omega
  have k8 : ¬ ci = J := by omega
  have k9 : I ≤ r.length := by omega
  have k10 : (0 : Int) ≤ (I : Int) := by omega
  have k11 : (0 : Int) ≤ (J : Int) := by omega
  have k12 : I ≤ ci := by omega
  have k13 : (I : Int) ≤ (ci : Int) := by omega
  have k14 : (I : Int) ≤ (r.length : Int) := by omega
  clear hHc hcell0 hN hWi hR ha hget hrw hrw0 hi0 hz0 hz1 hz2 hH
  go_enter Try.func14, Try.ntmps14
  go_wp2_with fail
  refine HHc.out.mono ?_
  rintro e w1 ⟨rfl, hb1⟩
  have hcell := Hcell0.out w1 hb1
  have Hb1 := Lib.hid hb1; clear hb1
  go_wp2_with fail
  refine (HN.out w1 Hb1.out).mono ?_
  rintro e w2 ⟨rfl, hb2⟩
  have Hb2 := Lib.hid (Hb1.out.trans (hb2.mono Hb1.out.size))
  clear hb2 hcell
  have hpa : Part.all [(some ⟨rb, ro + I, none⟩, ci - I, (r.drop I).take (J - I)), (some ⟨w2.heap.size, 0, none⟩, 1, [(x : Int)])] = R1 := by rw [← HR1.out]; simp [Part.all]
  have hbA : Below w.heap.size w (w2.alloc (.cells #[.int .i64 (x : Int)] 3)) := Hb2.out.alloc Hb2.out.size _
  have hcc := concat_parts [(some ⟨rb, ro + I, none⟩, ci - I, (r.drop I).take (J - I)), (some ⟨w2.heap.size, 0, none⟩, 1, [(x : Int)])] (w2.alloc (.cells #[.int .i64 (x : Int)] 3)) (w2.heap.size + 1) 2 #[.slice (some ⟨rb, ro + I, none⟩) (J - I) (ci - I), .slice (some ⟨w2.heap.size, 0, none⟩) 1 1] (by simp) rfl (by simp only [List.map_cons, List.map_nil, Part.cell, Hl1.out]; rfl) (by
    intro p hp
    simp only [List.mem_cons, List.not_mem_nil, or_false] at hp
    rcases hp with rfl | rfl
    · exact Hmid.out _ hbA
    · exact (Blk.new w2 3 #[.int .i64 (x : Int)]).row) (by decide) (by simp [Part.len, Part.all]; omega)
  rw [hpa] at hcc
  have Hcc := Lib.hid hcc
  have HbB : Hid (Below w.heap.size w ((w2.alloc (.cells #[.int .i64 (x : Int)] 3)).alloc (.cells #[.slice (some ⟨rb, ro + I, none⟩) (J - I) (ci - I), .slice (some ⟨w2.heap.size, 0, none⟩) 1 1] 42))) := Lib.hid (hbA.alloc hbA.size _)
  clear hcc hpa hbA
  go_wp2_with fail
  refine Hcc.out.mono ?_
  rintro e w3 ⟨ta, tc, rfl, htc, _, hf, hb3⟩
  have Hb3 := Lib.hid (HbB.out.trans (hb3.mono HbB.out.size))
  have Hf := Lib.hid ((RowIn.of_fresh hf).mono HbB.out.size (Nat.le_refl _)); have Htc := Lib.hid htc
  clear hf hb3 htc
  go_wp2_with fail
  refine (HWi.out ta tc R1 w3 Hb3.out Hf.out Hb3.out.size Htc.out).mono ?_
  rintro e w4 ⟨v, rfl, hh, hb4⟩
  have Hb4 := Lib.hid (Hb3.out.trans (hb4.mono Hb3.out.size))
  obtain ⟨hs, hm, hown, hin, hap⟩ := hh
  rw [List.length_set] at hown
  have Hm := Lib.hid hm; have Hin := Lib.hid hin; have Hap := Lib.hid hap
  obtain ⟨av, cv, rfl⟩ := own_len hown
  have Hown := Lib.hid hown
  have hN4 := Hb4.out.size
  have mneg : IntKind.i64.wrap (-(x : Int)) = -(x : Int) := wrap_small (by omega) (by omega)
  obtain ⟨W5, hW5⟩ : ∃ W5, ((w4.alloc (.cells #[.int .i64 (-(x : Int))] 3)).alloc (.cells #[.slice (some ⟨w4.heap.size, 0, none⟩) 1 1, .slice (some ⟨rb, ro + J, none⟩) (r.length - J) (ci - J), .slice (some ⟨rb, ro, none⟩) I ci] 42)).drew = W5 := ⟨_, rfl⟩
  have hbC0 : Below w4.heap.size w4 (w4.alloc (.cells #[.int .i64 (-(x : Int))] 3)) := (Below.refl _ w4).alloc (Nat.le_refl _) _
  have hbC : Below w4.heap.size w4 W5 := by rw [← hW5]; exact (hbC0.alloc hbC0.size _).drew
  have hsz1 : (w4.alloc (.cells #[.int .i64 (-(x : Int))] 3)).heap.size = w4.heap.size + 1 := by simp
  have hrow5 : RowAt W5 (some ⟨w4.heap.size + 1, 0, none⟩) [.slice (some ⟨w4.heap.size, 0, none⟩) 1 1, .slice (some ⟨rb, ro + J, none⟩) (r.length - J) (ci - J), .slice (some ⟨rb, ro, none⟩) I ci] := by
    rw [← hW5, ← hsz1]
    exact ((Blk.new (w4.alloc (.cells #[.int .i64 (-(x : Int))] 3)) 42 _).drew).row
  have hone5 : RowAt W5 (some ⟨w4.heap.size, 0, none⟩) (intCells [-(x : Int)]) := by
    rw [← hW5]
    exact ((Blk.new w4 3 #[.int .i64 (-(x : Int))]).alloc _).drew.row
  have hcc2 := concat_at [(some ⟨w4.heap.size, 0, none⟩, 1, [-(x : Int)]), (some ⟨rb, ro + J, none⟩, ci - J, r.drop J), (some ⟨rb, ro, none⟩, ci, r.take I)] W5 (some ⟨w4.heap.size + 1, 0, none⟩) 3 (by simp only [List.map_cons, List.map_nil, Part.cell, Hl2.out, Hl3.out]; exact hrow5) rfl (by
    intro p hp
    simp only [List.mem_cons, List.not_mem_nil, or_false] at hp
    rcases hp with rfl | rfl | rfl
    · exact hone5
    · exact Hdrop.out J _ (Hb4.out.trans (hbC.mono hN4))
    · exact Htake.out I _ (Hb4.out.trans (hbC.mono hN4))) (by decide) (by simp [Part.len, Part.all]; omega)
  rw [show Part.all [(some ⟨w4.heap.size, 0, none⟩, 1, [-(x : Int)]), (some ⟨rb, ro + J, none⟩, ci - J, r.drop J), (some ⟨rb, ro, none⟩, ci, r.take I)] = R2 from by rw [← HR2.out]; simp [Part.all]] at hcc2
  have HbC := Lib.hid hbC
  have HbCs : Hid (w4.heap.size ≤ W5.heap.size) := Lib.hid hbC.size
  rw [← hW5] at hcc2 HbC HbCs
  have Hcc2 := Lib.hid hcc2
  clear hW5 hrow5 hone5 hbC0 hsz1
  have ha1 : L.length + 1 ≤ maxLen := by unfold maxLen; omega
  have ha2 : (L.length + 1) * 24 ≤ 140737488355328 := by omega
  clear hcc2 hbC hm hin hap hown hb4
  go_wp2
  go_region_law (first
    | (go_simp; go_at_call 59; refine Hcc2.out.mono ?_; rintro e w5 ⟨ua, uc, rfl, huc, _, hf5, hb5⟩; have Hb5 := Lib.hid (HbC.out.trans (hb5.mono HbCs.out)); have Hf5 := Lib.hid (hf5.mono HbCs.out); have Huc := Lib.hid huc; have Hown5 := Lib.hid (own_keep Hown.out Hb5.out (fun k hk => (Hown.out.lt k hk).2)); have hbase5 := Nat.le_trans hN4 Hb5.out.size; clear hf5 hb5 huc)
    | (refine step_append_row rfl (.tmp 52) (.tmp 64) 24 rfl w.heap.size 42 i0 _ 24 Try.underlying24 Hi0.out Hz0.out Hz1.out Hz2.out (by rfl) _ L.length (hdCells hs) (by rfl) (Hown5.out.alloc _) _ 1 _ [.slice ua R2.length uc] (by rfl) (Blk.new w5 42 #[.slice ua R2.length uc]).row rfl (by simp [Value.oneCell']) ha1 ha2 (by simp; omega) ?_; intro v6 w6 hown6 hg6))
  all_goals
    have hst := grid_step (c := uc) Hin.out Hap.out Hown5.out hN4 Hf5.out Hb5.out hg6 Huc.out
    have Hheld := Lib.hid (show Held w6 w.heap.size v6 (L.set P R1 ++ [R2]) from ⟨hs ++ [⟨ua, uc, R2⟩], by rw [List.map_append, Hm.out]; rfl, by rw [List.length_append, List.length_set, ← hdCells_snoc]; exact hown6, hst.1, hst.2⟩)
    have Hb6 := Lib.hid (show Below w.heap.size w w6 from Below.grown ((Hb4.out.trans (Hb5.out.mono hN4)).alloc hbase5 _) hg6 (by simp; omega) (fun k hk => (Hown5.out.lt k hk).1))
    clear hst hown6 hg6
    go_wp2_with fail
    refine (HR.out v6 w6 w.heap.size Hheld.out).mono ?_
    rintro e w7 ⟨v7, rfl, hh7, hb7⟩
    have Hh7 := Lib.hid hh7; have Hb7 := Lib.hid (Hb6.out.trans (hb7.mono Hb6.out.size))
    clear hh7 hb7
    go_wp2
    go_ret2
    exact Hh7.out.gives Hb7.out
theorem cut_no {L : List (List Int)} {p i j : Int} (h : ¬ Mv.CutIn L p i j) : ¬ Mv.CutOk L p i j ∧ Mv.cut L p i j = [] := ⟨fun h2 => h h2.1, if_neg fun h2 => h h2.1⟩
set_option maxRecDepth 10000 in
set_option maxHeartbeats 1000000 in
theorem impl_CutPolygon (a : Option Addr) (c : Nat) (L : List (List Int)) (p i j : Int) (w : World) (ha : GridC w a L) (hl : tot L ≤ 1048576) (_hp0 : -9223372036854775808 ≤ p) (_hp1 : p ≤ 9223372036854775807) (_hi0 : -9223372036854775808 ≤ i) (_hi1 : i ≤ 9223372036854775807) (_hj0 : -9223372036854775808 ≤ j) (_hj1 : j ≤ 9223372036854775807) :
    Calls Try.prog 14 #[.slice a L.length c, .int .i64 p, .int .i64 i, .int .i64 j] w fun e w' => GivesRows2 w (Mv.cut L p i j) (decide (Mv.CutOk L p i j)) e w' := by
  by_cases hH : Mv.Has L p
  · obtain ⟨P, rfl⟩ : ∃ P : Nat, p = (P : Int) := ⟨p.toNat, by have := hH.2.1; omega⟩
    by_cases hin : 0 ≤ i ∧ i < j ∧ j < ((Mv.row L (P : Int)).length : Int)
    · obtain ⟨I, rfl⟩ : ∃ I : Nat, i = (I : Int) := ⟨i.toNat, by omega⟩
      obtain ⟨J, rfl⟩ : ∃ J : Nat, j = (J : Int) := ⟨j.toNat, by omega⟩
      exact impl_CutPolygon_in a c L P I J w ha hl hH (by omega) (by omega)
    · obtain ⟨hn1, hn2⟩ := cut_no (L := L) (p := (P : Int)) (i := i) (j := j) (fun h => hin h.2)
      rw [hn2, decide_eq_false hn1]
      have hHc := impl_hasPolygon a c L (P : Int) w ha.grid hl
      rw [decide_eq_true hH] at hHc
      have hP : P < L.length := by have := hH.lt; omega
      have hPi : (P : Int) < (L.length : Int) := by omega
      have hget : L[P]? = some (Mv.row L (P : Int)) := by have := hH.get; simpa using this
      have hrow : (Mv.row L (P : Int)).length ≤ 20 := hH.tot
      obtain ⟨b, o, ai, ci, rfl, hci, hcell0, hrw⟩ := ha.cell hget
      generalize Mv.row L (P : Int) = r at *
      have Hcell0 := Lib.hid hcell0
      clear hget ha hcell0 hrw hn1 hn2 hH
      by_cases h3 : i < 0
      · have d3 : decide (i < 0) = true := decide_eq_true h3
        have HHc := Lib.hid hHc; clear hHc
        go_enter Try.func14, Try.ntmps14
        go_wp2_with fail
        refine HHc.out.mono ?_
        rintro e w1 ⟨rfl, hb1⟩
        have hcell := Hcell0.out w1 hb1
        go_wp2
        go_ret2
        exact GivesRows2.none hb1 (Nat.zero_le _)
      · have d3 : decide (i < 0) = false := decide_eq_false h3
        by_cases h4 : j ≤ i
        · have d4 : decide (j ≤ i) = true := decide_eq_true h4
          have HHc := Lib.hid hHc; clear hHc
          go_enter Try.func14, Try.ntmps14
          go_wp2_with fail
          refine HHc.out.mono ?_
          rintro e w1 ⟨rfl, hb1⟩
          have hcell := Hcell0.out w1 hb1
          go_wp2
          go_ret2
          exact GivesRows2.none hb1 (Nat.zero_le _)
        · have d4 : decide (j ≤ i) = false := decide_eq_false h4
          have d5 : decide ((r.length : Int) ≤ j) = true := decide_eq_true (by omega)
          have HHc := Lib.hid hHc; clear hHc
          go_enter Try.func14, Try.ntmps14
          go_wp2_with fail
          refine HHc.out.mono ?_
          rintro e w1 ⟨rfl, hb1⟩
          have hcell := Hcell0.out w1 hb1
          go_wp2
          go_ret2
          exact GivesRows2.none hb1 (Nat.zero_le _)
  · obtain ⟨hn1, hn2⟩ := cut_no (L := L) (p := p) (i := i) (j := j) (fun h => hH h.1)
    rw [hn2, decide_eq_false hn1]
    have hHc := impl_hasPolygon a c L p w ha.grid hl
    rw [decide_eq_false hH] at hHc
    have HHc := Lib.hid hHc; clear hHc
    go_enter Try.func14, Try.ntmps14
    go_wp2_with fail
    refine HHc.out.mono ?_
    rintro e w1 ⟨rfl, hb1⟩
    go_wp2
    go_ret2
    exact GivesRows2.none hb1 (Nat.zero_le _)
end Go.Proofs.Ytbajfmehncgbeaa
