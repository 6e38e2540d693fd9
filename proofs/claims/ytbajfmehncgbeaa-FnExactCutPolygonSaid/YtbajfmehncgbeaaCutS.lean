/-
  The walk of the model's CutPolygon.
-/
import Derived.Test.YtbajfmehncgbeaaBase
import Derived.Test.YtbajfmehncgbeaaSlice
import Derived.Test.YtbajfmehncgbeaaIntRow
import Derived.Test.YtbajfmehncgbeaaInts
import Derived.Test.YtbajfmehncgbeaaOwn
import Derived.Test.YtbajfmehncgbeaaGrid
import Derived.Test.YtbajfmehncgbeaaGridWalk
import Derived.Test.YtbajfmehncgbeaaGridRows
import Derived.Test.YtbajfmehncgbeaaWord
import Derived.Test.YtbajfmehncgbeaaGlue
import Derived.Test.YtbajfmehncgbeaaIsWord
import Derived.Test.YtbajfmehncgbeaaIsGluing
import Derived.Test.YtbajfmehncgbeaaAppend
import Derived.Test.YtbajfmehncgbeaaConcat
import Derived.Test.YtbajfmehncgbeaaTurn
import Derived.Test.YtbajfmehncgbeaaMove
import Derived.Test.YtbajfmehncgbeaaMoveA
import Derived.Test.YtbajfmehncgbeaaMoveB
import Derived.Test.YtbajfmehncgbeaaMoveC
import Derived.Test.YtbajfmehncgbeaaCut
import Derived.Test.YtbajfmehncgbeaaCutI
import Derived.Deep.QuietTactic
import Derived.BigQuiet
import Derived.Deep.RegionLaw
import Derived.Deep.RegionWith
namespace Go.Proofs.Ytbajfmehncgbeaa
open Go.RowKit

set_option maxRecDepth 10000 in
set_option maxHeartbeats 8000000 in
theorem spec_CutPolygon_in (a : Option Addr) (c : Nat) (L : List (List Int)) (P I J : Nat) (w : World) (ha : GridC w a L) (hl : tot L ≤ 1048576) (hH : Mv.Has L (P : Int)) (hIJ : I < J) (hJ : J < (Mv.row L (P : Int)).length) :
    Calls Try.prog 15 #[.slice a L.length c, .int .i64 (P : Int), .int .i64 (I : Int), .int .i64 (J : Int)] w fun e w' => GivesRows2 w (Mv.cut L (P : Int) (I : Int) (J : Int)) (decide (Mv.CutOk L (P : Int) (I : Int) (J : Int))) e w' := by
  have hG := spec_IsGluing a c L w ha.grid hl
  rw [decide_eq_true hH.1] at hG
  have hP : P < L.length := by have := hH.lt; omega
  have hPi : (P : Int) < (L.length : Int) := by omega
  have hln : L.length ≤ 4 := hH.1.2.1
  have hget : L[P]? = some (Mv.row L (P : Int)) := by have := hH.get; simpa using this
  have hrow : (Mv.row L (P : Int)).length ≤ 20 := hH.tot
  obtain ⟨b, o, ai, ci, rfl, hci, hcell0, hrw⟩ := ha.cell hget
  have Ha := Lib.hid ha.grid
  have hcutn : Mv.CutIn L (P : Int) (I : Int) (J : Int) := ⟨hH, by omega, by omega, by omega⟩
  have hval : Mv.cut L (P : Int) (I : Int) (J : Int) = if Glue.IsG (Mv.cutAt L (P : Int) (I : Int) (J : Int)) then Mv.cutAt L (P : Int) (I : Int) (J : Int) else [] := by
    unfold Mv.cut
    by_cases h : Glue.IsG (Mv.cutAt L (P : Int) (I : Int) (J : Int))
    · rw [if_pos h, if_pos ⟨hcutn, h⟩]
    · rw [if_neg h, if_neg (fun hc => h hc.2)]
  have hdec : decide (Mv.CutOk L (P : Int) (I : Int) (J : Int)) = decide (Glue.IsG (Mv.cutAt L (P : Int) (I : Int) (J : Int))) :=
    decide_eq_decide.2 ⟨fun h => h.2, fun h => ⟨hcutn, h⟩⟩
  rw [hval, hdec]
  have hXp := fun W => spec_l1In (P : Int) 0 ((L.length : Int) - 1) W
  rw [decide_eq_true (show (0 : Int) ≤ (P : Int) ∧ (P : Int) ≤ (L.length : Int) - 1 by omega)] at hXp
  have hXj := fun W => spec_l1In (J : Int) 0 (((Mv.row L (P : Int)).length : Int) - 1) W
  rw [decide_eq_true (show (0 : Int) ≤ (J : Int) ∧ (J : Int) ≤ ((Mv.row L (P : Int)).length : Int) - 1 by omega)] at hXj
  have hXi := fun W => spec_l1In (I : Int) 0 ((J : Int) - 1) W
  rw [decide_eq_true (show (0 : Int) ≤ (I : Int) ∧ (I : Int) ≤ (J : Int) - 1 by omega)] at hXi
  obtain ⟨hx0, hx1⟩ := Mv.newL_pos L
  have hN := fun W (hb : Below w.heap.size w W) => spec_l5Unused (some ⟨b, o, none⟩) c L W (Ha.out.below hb) hH.1
  have hC := fun W (hb : Below w.heap.size w W) => spec_l5Copy (some ⟨b, o, none⟩) c L W (Ha.out.below hb) hl
  have hcut : Mv.cutAt L (P : Int) (I : Int) (J : Int) = L.set P (((Mv.row L (P : Int)).drop I).take (J - I) ++ [(Mv.newL L : Int)]) ++ [[-(Mv.newL L : Int)] ++ (Mv.row L (P : Int)).drop J ++ (Mv.row L (P : Int)).take I] := by
    unfold Mv.cutAt; simp only [Int.toNat_natCast]
  have hnine := Mv.cut_nine (L := L) (p := (P : Int)) (i := (I : Int)) (j := (J : Int))
  generalize Mv.row L (P : Int) = r at *
  generalize Mv.newL L = x at *
  have hrw0 := hrw w (Below.refl _ _)
  obtain ⟨rb, ro, rfl⟩ := row_some hrw0 (by omega)
  have HG := Lib.hid hG; have HXp := Lib.hid hXp; have HXj := Lib.hid hXj; have HXi := Lib.hid hXi; have Hcell0 := Lib.hid hcell0
  have e1 : ¬ J = 0 := by omega
  have h0L : 0 < L.length := by omega
  by_cases h9 : x = 9
  · have hng := hnine h9
    rw [if_neg hng, decide_eq_false hng]
    rw [if_pos h9] at hN
    have HN := Lib.hid hN
    clear hN hC hcut hnine hng hval hdec hcutn ha hget hrw hrw0 hH hG hXp hXj hXi hcell0 h9
    go_enter Try.func15, Try.ntmps15
    go_wp2_with fail
    refine HG.out.mono ?_
    rintro e w1 ⟨rfl, hb1⟩
    have hcell := Hcell0.out w1 hb1
    have Hb1 := Lib.hid hb1; clear hb1
    go_wp2_with fail
    refine (HXp.out _).mono ?_
    rintro e w9 ⟨rfl, hw9⟩
    rw [hw9]; clear hw9 w9
    go_wp2_with fail
    refine (HXj.out _).mono ?_
    rintro e w9 ⟨rfl, hw9⟩
    rw [hw9]; clear hw9 w9
    go_wp2_with fail
    refine (HXi.out _).mono ?_
    rintro e w9 ⟨rfl, hw9⟩
    rw [hw9]; clear hw9 w9
    go_wp2_with fail
    refine (HN.out w1 Hb1.out).mono ?_
    rintro e w2 ⟨rfl, hb2⟩
    have Hb2 := Lib.hid (Hb1.out.trans (hb2.mono Hb1.out.size))
    clear hb2 hcell
    go_wp2
    go_ret2
    exact GivesRows2.none (Hb2.out.alloc Hb2.out.size _) (Nat.zero_le _)
  · have hR := fun v W lo (h : Held W lo v (Mv.cutAt L (P : Int) (I : Int) (J : Int))) h2 h3 => spec_l5Right v (Mv.cutAt L (P : Int) (I : Int) (J : Int)) lo W h h2 h3
    have htot : tot (Mv.cutAt L (P : Int) (I : Int) (J : Int)) ≤ 1048576 := by
      rw [hcut]
      have h1 := Mv.sum_set (r := (r.drop I).take (J - I) ++ [(x : Int)]) hget
      have h2 := tot_of_append (L.set P ((r.drop I).take (J - I) ++ [(x : Int)])) ([-(x : Int)] ++ r.drop J ++ r.take I)
      have h3 := hH.1.2.2.2.1
      have e1 : ((r.drop I).take (J - I) ++ [(x : Int)]).length ≤ 21 := by simp; omega
      have e2 : ([-(x : Int)] ++ r.drop J ++ r.take I).length ≤ 41 := by simp; omega
      rw [List.length_set] at h2
      omega
    have hR := fun v W lo (h : Held W lo v (Mv.cutAt L (P : Int) (I : Int) (J : Int))) h3 => hR v W lo h htot h3
    rw [if_neg h9] at hN
    rw [hcut] at hR ⊢
    clear hcut hval hdec hcutn htot hnine
    have hR1l : ((r.drop I).take (J - I) ++ [(x : Int)]).length = J - I + 1 := by simp; omega
    have hR2l : ([-(x : Int)] ++ r.drop J ++ r.take I).length = 1 + (r.length - J) + I := by simp; omega
    have hl1 : (intCells ((r.drop I).take (J - I))).length = J - I := by rw [intCells_len]; simp; omega
    have hl2 : (intCells (r.drop J)).length = r.length - J := by rw [intCells_len]; simp
    have hl3 : (intCells (r.take I)).length = I := by rw [intCells_len]; simp; omega
    have happ1 : intCells [] ++ intCells ((r.drop I).take (J - I)) ++ [.int .i64 (x : Int)] = intCells ((r.drop I).take (J - I) ++ [(x : Int)]) := by simp [intCells]
    have happ2 : intCells [-(x : Int)] ++ intCells (r.drop J) ++ intCells (r.take I) = intCells ([-(x : Int)] ++ r.drop J ++ r.take I) := by simp [intCells]
    obtain ⟨R1, hR1⟩ : ∃ R1, (r.drop I).take (J - I) ++ [(x : Int)] = R1 := ⟨_, rfl⟩
    obtain ⟨R2, hR2⟩ : ∃ R2, [-(x : Int)] ++ r.drop J ++ r.take I = R2 := ⟨_, rfl⟩
    rw [hR1] at hR1l happ1
    rw [hR2] at hR2l happ2
    rw [hR1, hR2] at hR ⊢
    generalize decide (Glue.IsG (L.set P R1 ++ [R2])) = dG at *
    generalize (if Glue.IsG (L.set P R1 ++ [R2]) then L.set P R1 ++ [R2] else []) = V at *
    have Hdrop := Lib.hid (fun W (hb : Below w.heap.size w W) => row_drop (m := J) (hrw W hb))
    have Htake := Lib.hid (fun W (hb : Below w.heap.size w W) => row_take (m := I) (hrw W hb))
    have Hmid := Lib.hid (fun W (hb : Below w.heap.size w W) => row_take (m := J - I) (row_drop (m := I) (hrw W hb)))
    have Hl1 := Lib.hid hl1; have Hl2 := Lib.hid hl2; have Hl3 := Lib.hid hl3; have HR1l := Lib.hid hR1l; have HR2l := Lib.hid hR2l; have Happ1 := Lib.hid happ1; have Happ2 := Lib.hid happ2
    obtain ⟨i0, hi0, hz0, hz1, hz2⟩ := info_ints_parts
    have Hi0 := Lib.hid hi0; have Hz0 := Lib.hid hz0; have Hz1 := Lib.hid hz1; have Hz2 := Lib.hid hz2
    obtain ⟨j0, hj0, hy0, hy1, hy2⟩ := info_int_parts
    have Hj0 := Lib.hid hj0; have Hy0 := Lib.hid hy0; have Hy1 := Lib.hid hy1; have Hy2 := Lib.hid hy2
    have HN := Lib.hid hN; have HR := Lib.hid hR; have HC := Lib.hid hC
    have bx : ((x : Int) == 0) = false := beq_eq_false_iff_ne.2 (by omega)
    have k1 : I ≤ J := by omega
    have k2 : (I : Int) ≤ (J : Int) := by omega
    have k3 : J ≤ r.length := by omega
    have k4 : (J : Int) ≤ (r.length : Int) := by omega
    have k5 : J ≤ ci := by omega
    have k6 : (J : Int) ≤ (ci : Int) := by omega
    have k7 : ¬ ci = I := by omega
    have k8 : ¬ ci = J := by omega
    have k9 : I ≤ r.length := by omega
    have k10 : (0 : Int) ≤ (I : Int) := by omega
    have k11 : (0 : Int) ≤ (J : Int) := by omega
    have k12 : I ≤ ci := by omega
    have k13 : (I : Int) ≤ (ci : Int) := by omega
    have k14 : (I : Int) ≤ (r.length : Int) := by omega
    have mneg : IntKind.i64.wrap (-(x : Int)) = -(x : Int) := wrap_small (by omega) (by omega)
    have hc1 : 0 + (J - I) ≤ maxLen := by unfold maxLen; omega
    have hc2 : (0 + (J - I)) * 8 ≤ 140737488355328 := by omega
    have hc3 : J - I + 1 ≤ maxLen := by unfold maxLen; omega
    have hc4 : (J - I + 1) * 8 ≤ 140737488355328 := by omega
    have hd1 : 1 + (r.length - J) ≤ maxLen := by unfold maxLen; omega
    have hd2 : (1 + (r.length - J)) * 8 ≤ 140737488355328 := by omega
    have hd3 : 1 + (r.length - J) + I ≤ maxLen := by unfold maxLen; omega
    have hd4 : (1 + (r.length - J) + I) * 8 ≤ 140737488355328 := by omega
    have ha1 : L.length + 1 ≤ maxLen := by unfold maxLen; omega
    have ha2 : (L.length + 1) * 24 ≤ 140737488355328 := by omega
    clear hN hC hR hR1 hR2 hR1l hR2l hl1 hl2 hl3 happ1 happ2 ha hrw hrw0 hH hG hXp hXj hXi hcell0 h9 hi0 hz0 hz1 hz2 hj0 hy0 hy1 hy2
    have Hget := Lib.hid hget
    clear hget
    go_enter Try.func15, Try.ntmps15
    go_wp2_with fail
    refine HG.out.mono ?_
    rintro e w1 ⟨rfl, hb1⟩
    have hcell := Hcell0.out w1 hb1
    have Hb1 := Lib.hid hb1; clear hb1
    go_wp2_with fail
    refine (HXp.out _).mono ?_
    rintro e w9 ⟨rfl, hw9⟩
    rw [hw9]; clear hw9 w9
    go_wp2_with fail
    refine (HXj.out _).mono ?_
    rintro e w9 ⟨rfl, hw9⟩
    rw [hw9]; clear hw9 w9
    go_wp2_with fail
    refine (HXi.out _).mono ?_
    rintro e w9 ⟨rfl, hw9⟩
    rw [hw9]; clear hw9 w9
    go_wp2_with fail
    refine (HN.out w1 Hb1.out).mono ?_
    rintro e w2 ⟨rfl, hb2⟩
    have Hb2 := Lib.hid (Hb1.out.trans (hb2.mono Hb1.out.size))
    clear hb2 hcell
    go_wp2_with fail
    refine (HC.out w2 Hb2.out).mono ?_
    rintro e w3 ⟨v, rfl, hh, hb3⟩
    have Hb3 := Lib.hid (Hb2.out.trans (hb3.mono Hb2.out.size))
    obtain ⟨g, cap, rfl, hg1, hg2, _, _⟩ := hh.form h0L
    have Hh := Lib.hid (hh.mono Hb2.out.size)
    have hcellA := Hcell0.out _ (Hb3.out.alloc Hb3.out.size (.cells #[] 3))
    have HmidA := Lib.hid (Hmid.out _ (Hb3.out.alloc Hb3.out.size (.cells #[] 3)))
    have Hmk := Lib.hid (own_made (w := w3) rfl)
    have hgw : w.heap.size ≤ g := Nat.le_trans Hb2.out.size hg1
    clear hh hb3 hg1
    go_wp2_with (at_builtin; first
      | (refine append_row rfl (.tmp 54) (.tmp 61) 42 rfl w3.heap.size 3 j0 _ 8 Try.underlying42 Hj0.out Hy0.out Hy1.out Hy2.out (by rfl) _ 0 (intCells []) rfl Hmk.out _ (J - I) _ (intCells ((r.drop I).take (J - I))) rfl HmidA.out Hl1.out (intCells_one _) hc1 hc2 (by simp) ?_; intro v4 w4 hown4 hg4; (try rw [Nat.zero_add] at hown4); have hb4 := Below.grown ((Below.refl w3.heap.size w3).alloc (Nat.le_refl _) _) hg4 (by simp) (fun k hk => by injection hk with hk; exact Nat.le_of_eq hk); have Hb4 := Lib.hid hb4; have Hown4 := Lib.hid hown4; obtain ⟨av4, cv4, rfl⟩ := own_len hown4; have hs4 := hb4.size; clear hown4 hg4 hb4)
      | (refine append_one rfl (.tmp 62) (.tmp 64) 42 rfl w3.heap.size 3 j0 _ 8 Try.underlying42 Hj0.out Hy0.out Hy1.out Hy2.out (by rfl) _ _ _ rfl Hown4.out (by rfl) _ rfl hc3 hc4 hs4 ?_; intro v5 w5 hown5 hg5 _; have hb5 := Below.grown (Hb4.out.alloc hs4 _) hg5 (by simp; omega) (fun k hk => (Hown4.out.lt k hk).1); rw [Happ1.out] at hown5; have hfr5 := own_fresh hown5 (by rw [intCells_len]; exact HR1l.out); obtain ⟨ua, uc, rfl, huc, hf5⟩ := hfr5; have Hb5 := Lib.hid hb5; have hfz5 := (Hh.out.below hb5).frozen P; have hcl5 := (Hh.out.below hb5).cell Hget.out; obtain ⟨oa, oc, hcl5, _, _⟩ := hcl5; have Hput := Lib.hid (Hh.out.put_new hb5 hP (RowIn.of_fresh hf5) (by rw [HR1l.out]; exact huc)); rw [HR1l.out] at Hput; clear hown5 hg5 hf5 hb5))
    have HB6 := Lib.hid (show Below w.heap.size w (w5.setCell ⟨g, P, none⟩ (.slice ua (J - I + 1) uc)) from (Hb3.out.trans (Hb5.out.mono Hb3.out.size)).setCell hgw _)
    clear hcl5 hfz5 hcellA
    generalize w5.setCell ⟨g, P, none⟩ (.slice ua (J - I + 1) uc) = w6 at *
    obtain ⟨hs, hm, hown, hin, hap⟩ := Hput.out
    rw [List.length_set] at hown
    have Hm := Lib.hid hm; have Hin := Lib.hid hin; have Hap := Lib.hid hap; have Hown := Lib.hid hown
    have hN6 := HB6.out.size
    have hcell6 := Hcell0.out w6 HB6.out
    have hbl : Below w.heap.size w ((w6.drewN 1).alloc (.cells #[.int .i64 (-(x : Int))] 3)) := (below_drewN HB6.out 1).alloc hN6 _
    have hcell6A := Hcell0.out (w6.alloc (.cells #[.int .i64 (-(x : Int))] 3)) (HB6.out.alloc hN6 _)
    have HdropA := Lib.hid (Hdrop.out _ hbl)
    have Hlit := Lib.hid (show ((w6.drewN 1).alloc (.cells #[.int .i64 (-(x : Int))] 3)).ownsRow w6.heap.size 3 1 (.slice (some ⟨w6.heap.size, 0, none⟩) 1 1) 1 (intCells [-(x : Int)]) from World.ownsRow_lit (base := w6.heap.size) (e := 3) (size := 1) (w6.drewN 1) #[.int .i64 (-(x : Int))] 1 (Nat.le_refl _) (by unfold maxLen; omega) rfl)
    have hbl6 : Below w6.heap.size w6 ((w6.drewN 1).alloc (.cells #[.int .i64 (-(x : Int))] 3)) := (below_drewN (Below.refl _ w6) 1).alloc (Nat.le_refl _) _
    have Hbl6 := Lib.hid hbl6
    clear hm hin hap hown hbl hbl6 hs4
    go_region_law (first
      | (refine step_append_row rfl (.tmp 69) (.tmp 75) 42 rfl w6.heap.size 3 j0 _ 8 Try.underlying42 Hj0.out Hy0.out Hy1.out Hy2.out (by rfl) _ 1 (intCells [-(x : Int)]) (by rfl) Hlit.out _ (r.length - J) _ (intCells (r.drop J)) (by rfl) HdropA.out Hl2.out (intCells_one _) hd1 hd2 (by simp) ?_; intro v7 w7 hown7 hg7; have hb7 := Below.grown Hbl6.out hg7 (by simp) (fun k hk => by injection hk with hk; exact Nat.le_of_eq hk); have hcell7 := Hcell0.out _ (HB6.out.trans (hb7.mono hN6)); have HtakeA := Lib.hid (Htake.out _ (HB6.out.trans (hb7.mono hN6))); obtain ⟨av7, cv7, rfl⟩ := own_len hown7)
      | (refine step_append_row rfl (.tmp 76) (.tmp 82) 42 rfl w6.heap.size 3 j0 _ 8 Try.underlying42 Hj0.out Hy0.out Hy1.out Hy2.out (by rfl) _ _ _ (by rfl) hown7 _ I _ (intCells (r.take I)) (by rfl) HtakeA.out Hl3.out (intCells_one _) hd3 hd4 hb7.size ?_; intro v8 w8 hown8 hg8; have hb8 := Below.grown hb7 hg8 hb7.size (fun k hk => (hown7.lt k hk).1); rw [Happ2.out] at hown8; have hfr8 := own_fresh hown8 (by rw [intCells_len]; exact HR2l.out); obtain ⟨ta, tc, rfl, htc, hf8⟩ := hfr8; have Hb8 := Lib.hid hb8; have Hf8 := Lib.hid hf8; have Htc := Lib.hid htc; have Hown8 := Lib.hid (own_keep Hown.out hb8 (fun k hk => (Hown.out.lt k hk).2)); have hbase8 := Nat.le_trans hN6 hb8.size; clear hown7 hown8 hg7 hg8 hf8 htc hb8 hb7))
    all_goals
      go_wp2_with (at_builtin; refine append_one rfl (.tmp 84) (.tmp 86) 24 rfl w.heap.size 42 i0 _ 24 Try.underlying24 Hi0.out Hz0.out Hz1.out Hz2.out (by rfl) _ _ _ rfl Hown8.out (by rfl) _ rfl ha1 ha2 hbase8 ?_; intro v9 w9 hown9 hg9 _; have hst := grid_step (c := tc) Hin.out Hap.out Hown8.out hN6 Hf8.out Hb8.out hg9 (by rw [HR2l.out]; exact Htc.out); have Hheld := Lib.hid (show Held w9 w.heap.size v9 (L.set P R1 ++ [R2]) from ⟨hs ++ [⟨ta, tc, R2⟩], by rw [List.map_append, Hm.out]; rfl, by rw [List.length_append, List.length_set, ← hdCells_snoc]; rw [← HR2l.out] at hown9; exact hown9, hst.1, hst.2⟩); have Hb9 := Lib.hid (show Below w.heap.size w w9 from Below.grown ((HB6.out.trans (Hb8.out.mono hN6)).alloc hbase8 _) hg9 (by simp; omega) (fun k hk => (Hown8.out.lt k hk).1)); clear hst hown9 hg9)
      go_wp2_with fail
      refine (HR.out v9 w9 w.heap.size Hheld.out Hb9.out.size).mono ?_
      rintro e w10 ⟨v10, rfl, hh10, hb10⟩
      have Hh10 := Lib.hid hh10; have Hb10 := Lib.hid (Hb9.out.trans (hb10.mono Hb9.out.size))
      clear hh10 hb10
      go_wp2
      go_ret2
      exact Hh10.out.gives Hb10.out
end Go.Proofs.Ytbajfmehncgbeaa
