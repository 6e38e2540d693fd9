/-
  The walks of the model's step of Dehn and of the model's DehnStep.
-/
import Derived.Test.YtfaagbmaekoogaaBase
import Derived.Test.YtfaagbmaekoogaaSlice
import Derived.Test.YtfaagbmaekoogaaInts
import Derived.Test.YtfaagbmaekoogaaOwn
import Derived.Test.YtfaagbmaekoogaaAppend
import Derived.Test.YtfaagbmaekoogaaStepRow
import Derived.Test.YtfaagbmaekoogaaWord
import Derived.Test.YtfaagbmaekoogaaIsWord
import Derived.Test.YtfaagbmaekoogaaReduce
import Derived.Test.YtfaagbmaekoogaaReduceSpec
import Derived.Test.YtfaagbmaekoogaaTurn
import Derived.Test.YtfaagbmaekoogaaInvert
import Derived.Test.YtfaagbmaekoogaaAm
import Derived.Test.YtfaagbmaekoogaaGrpA
import Derived.Test.YtfaagbmaekoogaaGrpB
import Derived.Test.YtfaagbmaekoogaaGrpC
import Derived.Deep.QuietTactic
import Derived.BigQuiet
import Derived.Deep.RegionLaw
namespace Go.Proofs.Ytfaagbmaekoogaa
open Go.RowKit

set_option maxRecDepth 100000 in
set_option maxHeartbeats 8000000 in
theorem spec_l8Step (g : Int) (a : Option Addr) (c : Nat) (l : List Int) (w : World) (ha : RowAt w a (intCells l)) (hl : l.length ≤ 1000) (hc : l.length ≤ c) (hG : Dn.Gr g) (hL : ∀ x ∈ l, Dn.Let g x) :
    Calls Try.prog 123 #[.int .i64 g, .slice a l.length c] w fun e w' => Gives2 w ((Dn.step g l).getD []) (Dn.step g l).isSome e w' := by
  have Ha := Lib.hid ha; have Hg := Lib.hid hG; have HL := Lib.hid hL
  obtain ⟨hg0, hg1⟩ := hG
  clear ha hL
  obtain ⟨i0, hi0, hz0, hz1, hz2⟩ := info_int_parts
  have Hi0 := Lib.hid hi0; have Hz0 := Lib.hid hz0; have Hz1 := Lib.hid hz1; have Hz2 := Lib.hid hz2
  clear hi0 hz0 hz1 hz2
  go_enter Try.func123, Try.ntmps123
  go_wp2
  go_loopw [6, 7, 8, 9, 10, 11, 12] (fun iv _ _ _ _ _ _ wr => ∃ i : Nat, i ≤ l.length ∧ iv = .int .i64 i ∧ Hid (Below w.heap.size w wr ∧ ∀ j, j < i → Dn.stepAt g l j = none)) (fun iv _ _ _ _ _ _ _ => l.length - (intOf iv).toNat)
  case atStart => exact ⟨0, by omega, rfl, Lib.hid ⟨Below.refl _ _, fun j hj => absurd hj (by omega)⟩⟩
  case round =>
    obtain ⟨i, hi, rfl, hh⟩ := hrel
    obtain ⟨wo, rfl⟩ : ∃ wo : World, wo = wr := ⟨_, rfl⟩
    by_cases hlt : i < l.length
    · have hb0 := Lib.hid hh.out.1
      obtain ⟨b, o, rfl⟩ := row_some Ha.out (by omega)
      have dlt : decide (i < l.length) = true := decide_eq_true hlt
      have j1 : i ≤ l.length := by omega
      have j2 : (i : Int) ≤ (l.length : Int) := by omega
      have j3 : (0 : Int) ≤ (i : Int) := by omega
      have j4 : i ≤ c := by omega
      have j5 : (i : Int) ≤ (c : Int) := by omega
      have j6 : ¬ c = i := by omega
      go_wp2
      go_loopw [7, 8, 9, 10, 11] (fun bv ov tv _ _ wr => ∃ (t : Nat) (oa : Option Addr) (oc : Nat), (t : Int) ≤ 8 * g ∧ tv = .int .i64 t ∧ bv = .int .i64 (Dn.bestTo g (l.drop i) t).1 ∧ ov = .slice oa (Word.inv ((Dn.bestTo g (l.drop i) t).2.drop (Dn.bestTo g (l.drop i) t).1)).length oc ∧ Hid (RowAt wr oa (intCells (Word.inv ((Dn.bestTo g (l.drop i) t).2.drop (Dn.bestTo g (l.drop i) t).1))) ∧ Below wo.heap.size wo wr ∧ (Word.inv ((Dn.bestTo g (l.drop i) t).2.drop (Dn.bestTo g (l.drop i) t).1)).length ≤ oc ∧ oc ≤ maxLen)) (fun _ _ tv _ _ _ => (8 * g).toNat - (intOf tv).toNat)
      case atStart => exact ⟨0, _, 0, by omega, rfl, rfl, rfl, Lib.hid ⟨Or.inl rfl, (Below.refl _ _).alloc (Nat.le_refl _) _, Nat.le_refl _, Nat.zero_le _⟩⟩
      case round =>
        obtain ⟨t, oa, oc, ht, rfl, rfl, rfl, hoo⟩ := hrel
        have hp := Dn.bestTo_le g (l.drop i) t
        generalize hpp : Dn.bestTo g (l.drop i) t = p at *
        have Hpp := Lib.hid hpp; clear hpp
        obtain ⟨p1, p2⟩ := p
        simp only at hoo hp
        obtain ⟨hp1, hp2⟩ := hp
        rw [List.length_drop] at hp1
        have Hb0r := Lib.hid hoo.out.2.1
        have t0 : (0 : Int) ≤ (t : Int) := by omega
        by_cases hlt2 : (t : Int) < 8 * g
        · have dlt2 : decide ((t : Int) < 8 * g) = true := decide_eq_true hlt2
          go_wp2_with fail
          refine (spec_Relator g wr).mono ?_
          rintro e w2 ⟨ra, rc, rfl, hrc, hrcm, hfr, hb2⟩
          have Hfr := Lib.hid hfr; have Hb2 := Lib.hid hb2
          clear hfr hb2
          by_cases h4 : 4 * g ≤ (t : Int)
          · have d4 : decide (4 * g ≤ (t : Int)) = true := decide_eq_true h4
            go_wp2_with fail
            refine (spec_l2Inverse ra rc (Dn.rel g) w2 Hfr.out.row (by have := Dn.rel_len8 g; omega) (Dn.rel_w g).1).mono ?_
            rintro e w3 ⟨qa, qc, rfl, hqc, hqcm, hfq, hb3⟩
            have Hfq := Lib.hid hfq; have Hb3 := Lib.hid (Hb2.out.trans (hb3.mono Hb2.out.size))
            clear hfq hb3
            go_wp2_with fail
            refine (spec_l2Turn qa qc (Word.inv (Dn.rel g)) (t : Int) w3 Hfq.out.row (by rw [Word.inv_len]; have := Dn.rel_len8 g; omega) hqc (by omega) (by omega)).mono ?_
            rw [show Word.turn (Word.inv (Dn.rel g)) (t : Int) = Dn.cand g t from by unfold Dn.cand; rw [if_pos h4]]
            rintro e w4 ⟨ta, tc, rfl, htc, htcm, hft, hb4⟩
            have Hft := Lib.hid hft; have Hb4 := Lib.hid (Hb3.out.trans (hb4.mono Hb3.out.size))
            clear hft hb4
            have hcl := Dn.cand_len g t
            have hcll := Dn.cand_letters Hg.out t
            have hrl := Dn.rel_len Hg.out
            have hsucc := Dn.bestTo_succ g (l.drop i) t
            have hlcp := Dn.lcp_le_right (l.drop i) (Dn.cand g t)
            generalize Dn.cand g t = T at *
            have hT8 : (T.length : Int) = 4 * g := by rw [hcl]; exact hrl
            have hcM := spec_l8Match (some ⟨b, o + i, none⟩) ta (c - i) tc (l.drop i) T (4 * g) hT8.symm w4 ((row_drop (Ha.out.below hb0.out)).below (Hb0r.out.trans (Hb4.out.mono Hb0r.out.size))) Hft.out.row (by rw [List.length_drop]; omega) (by omega)
            rw [List.length_drop] at hcM
            have hTl : T.length ≤ 8 := by omega
            have HcM := Lib.hid hcM; have Hsucc := Lib.hid hsucc; have Hcll := Lib.hid hcll; have HT8 := Lib.hid hT8
            clear hcM hsucc hcll hT8 hcl hrl
            go_wp2_with fail
            refine HcM.out.mono ?_
            rintro e w5 ⟨rfl, hb5⟩
            have Hb45 := Lib.hid hb5
            have Hb5 := Lib.hid (Hb4.out.trans (hb5.mono Hb4.out.size)); clear hb5
            by_cases hbest : p1 < Dn.lcp (l.drop i) T
            · have Hnew := Lib.hid (show Dn.bestTo g (l.drop i) (t + 1) = (Dn.lcp (l.drop i) T, T) by rw [Hsucc.out, Hpp.out]; unfold Dn.pick; rw [if_pos hbest])
              have dbest : decide (p1 < Dn.lcp (l.drop i) T) = true := decide_eq_true hbest
              generalize Dn.lcp (l.drop i) T = m at *
              obtain ⟨tb, to, rfl⟩ := row_some Hft.out.row (by omega)
              obtain ⟨A1, hA1⟩ : ∃ A1, (if tc = m then some (⟨tb, to, none⟩ : Addr) else some ⟨tb, to + m, none⟩) = A1 := ⟨_, rfl⟩
              have hrA1 := cut_row (m := m) (Hft.out.row.below Hb45.out) hlcp htc
              rw [hA1] at hrA1
              have hcI := spec_l2Inverse A1 (tc - m) (T.drop m) w5 hrA1 (by rw [List.length_drop]; omega) (fun y hy => (Hcll.out y (List.mem_of_mem_drop hy)).1)
              rw [List.length_drop] at hcI
              have HcI := Lib.hid hcI
              clear hcI hrA1
              have k1 : m ≤ T.length := hlcp
              have k2 : (m : Int) ≤ (T.length : Int) := by omega
              have k3 : m ≤ tc := by omega
              have k4 : (m : Int) ≤ (tc : Int) := by omega
              have k5 : (0 : Int) ≤ (m : Int) := by omega
              go_wp2_with fail
              refine HcI.out.mono ?_
              rintro e w6 ⟨ia, ic, rfl, hic, hicm, hfi, hb6⟩
              have Hfi := Lib.hid hfi; have Hb6 := Lib.hid (Hb5.out.trans (hb6.mono Hb5.out.size))
              clear hfi hb6 hA1
              go_wp2
              go_roundw
              case rel => exact ⟨t + 1, ia, ic, by omega, by go_num, by rw [Hnew.out], by rw [Hnew.out], Lib.hid ⟨by rw [Hnew.out]; exact Hfi.out.row, Hb0r.out.trans (Hb6.out.mono Hb0r.out.size), by rw [Hnew.out]; exact hic, hicm⟩⟩
              case measure => simp [intOf]; omega
            · have Hnew := Lib.hid (show Dn.bestTo g (l.drop i) (t + 1) = (p1, p2) by rw [Hsucc.out, Hpp.out]; unfold Dn.pick; rw [if_neg hbest])
              have dbest : decide (p1 < Dn.lcp (l.drop i) T) = false := decide_eq_false hbest
              generalize Dn.lcp (l.drop i) T = m at *
              go_wp2
              go_roundw
              case rel => exact ⟨t + 1, oa, oc, by omega, by go_num, by rw [Hnew.out], by rw [Hnew.out], Lib.hid ⟨by rw [Hnew.out]; exact hoo.out.1.below Hb5.out, Hb0r.out.trans (Hb5.out.mono Hb0r.out.size), by rw [Hnew.out]; exact hoo.out.2.2.1, hoo.out.2.2.2⟩⟩
              case measure => simp [intOf]; omega
          · have d4 : decide (4 * g ≤ (t : Int)) = false := decide_eq_false h4
            go_wp2_with fail
            refine (spec_l2Turn ra rc (Dn.rel g) (t : Int) w2 Hfr.out.row (by have := Dn.rel_len8 g; omega) hrc (by omega) (by omega)).mono ?_
            rw [show Word.turn (Dn.rel g) (t : Int) = Dn.cand g t from by unfold Dn.cand; rw [if_neg (by omega)]]
            rintro e w4 ⟨ta, tc, rfl, htc, htcm, hft, hb4⟩
            have Hft := Lib.hid hft; have Hb4 := Lib.hid (Hb2.out.trans (hb4.mono Hb2.out.size))
            clear hft hb4
            have hcl := Dn.cand_len g t
            have hcll := Dn.cand_letters Hg.out t
            have hrl := Dn.rel_len Hg.out
            have hsucc := Dn.bestTo_succ g (l.drop i) t
            have hlcp := Dn.lcp_le_right (l.drop i) (Dn.cand g t)
            generalize Dn.cand g t = T at *
            have hT8 : (T.length : Int) = 4 * g := by rw [hcl]; exact hrl
            have hcM := spec_l8Match (some ⟨b, o + i, none⟩) ta (c - i) tc (l.drop i) T (4 * g) hT8.symm w4 ((row_drop (Ha.out.below hb0.out)).below (Hb0r.out.trans (Hb4.out.mono Hb0r.out.size))) Hft.out.row (by rw [List.length_drop]; omega) (by omega)
            rw [List.length_drop] at hcM
            have hTl : T.length ≤ 8 := by omega
            have HcM := Lib.hid hcM; have Hsucc := Lib.hid hsucc; have Hcll := Lib.hid hcll; have HT8 := Lib.hid hT8
            clear hcM hsucc hcll hT8 hcl hrl
            go_wp2_with fail
            refine HcM.out.mono ?_
            rintro e w5 ⟨rfl, hb5⟩
            have Hb45 := Lib.hid hb5
            have Hb5 := Lib.hid (Hb4.out.trans (hb5.mono Hb4.out.size)); clear hb5
            by_cases hbest : p1 < Dn.lcp (l.drop i) T
            · have Hnew := Lib.hid (show Dn.bestTo g (l.drop i) (t + 1) = (Dn.lcp (l.drop i) T, T) by rw [Hsucc.out, Hpp.out]; unfold Dn.pick; rw [if_pos hbest])
              have dbest : decide (p1 < Dn.lcp (l.drop i) T) = true := decide_eq_true hbest
              generalize Dn.lcp (l.drop i) T = m at *
              obtain ⟨tb, to, rfl⟩ := row_some Hft.out.row (by omega)
              obtain ⟨A1, hA1⟩ : ∃ A1, (if tc = m then some (⟨tb, to, none⟩ : Addr) else some ⟨tb, to + m, none⟩) = A1 := ⟨_, rfl⟩
              have hrA1 := cut_row (m := m) (Hft.out.row.below Hb45.out) hlcp htc
              rw [hA1] at hrA1
              have hcI := spec_l2Inverse A1 (tc - m) (T.drop m) w5 hrA1 (by rw [List.length_drop]; omega) (fun y hy => (Hcll.out y (List.mem_of_mem_drop hy)).1)
              rw [List.length_drop] at hcI
              have HcI := Lib.hid hcI
              clear hcI hrA1
              have k1 : m ≤ T.length := hlcp
              have k2 : (m : Int) ≤ (T.length : Int) := by omega
              have k3 : m ≤ tc := by omega
              have k4 : (m : Int) ≤ (tc : Int) := by omega
              have k5 : (0 : Int) ≤ (m : Int) := by omega
              go_wp2_with fail
              refine HcI.out.mono ?_
              rintro e w6 ⟨ia, ic, rfl, hic, hicm, hfi, hb6⟩
              have Hfi := Lib.hid hfi; have Hb6 := Lib.hid (Hb5.out.trans (hb6.mono Hb5.out.size))
              clear hfi hb6 hA1
              go_wp2
              go_roundw
              case rel => exact ⟨t + 1, ia, ic, by omega, by go_num, by rw [Hnew.out], by rw [Hnew.out], Lib.hid ⟨by rw [Hnew.out]; exact Hfi.out.row, Hb0r.out.trans (Hb6.out.mono Hb0r.out.size), by rw [Hnew.out]; exact hic, hicm⟩⟩
              case measure => simp [intOf]; omega
            · have Hnew := Lib.hid (show Dn.bestTo g (l.drop i) (t + 1) = (p1, p2) by rw [Hsucc.out, Hpp.out]; unfold Dn.pick; rw [if_neg hbest])
              have dbest : decide (p1 < Dn.lcp (l.drop i) T) = false := decide_eq_false hbest
              generalize Dn.lcp (l.drop i) T = m at *
              go_wp2
              go_roundw
              case rel => exact ⟨t + 1, oa, oc, by omega, by go_num, by rw [Hnew.out], by rw [Hnew.out], Lib.hid ⟨by rw [Hnew.out]; exact hoo.out.1.below Hb5.out, Hb0r.out.trans (Hb5.out.mono Hb0r.out.size), by rw [Hnew.out]; exact hoo.out.2.2.1, hoo.out.2.2.2⟩⟩
              case measure => simp [intOf]; omega
        · have Ht := Lib.hid (show t = (8 * g).toNat by omega)
          have dlt2 : decide ((t : Int) < 8 * g) = false := decide_eq_false hlt2
          have hyes := fun h => Dn.stepAt_yes (g := g) (w := l) (i := i) h
          have hno := fun h => Dn.stepAt_no (g := g) (w := l) (i := i) h
          have hraw := fun h => Dn.out_raw Hg.out (w := l) (i := i) (by omega) h
          have hrawl := Dn.out_letters Hg.out HL.out i
          rw [← Ht.out, Hpp.out] at hyes hno hraw hrawl
          simp only at hyes hno hraw hrawl
          have Hyes := Lib.hid hyes; have Hno := Lib.hid hno; have Hraw := Lib.hid hraw; have Hrawl := Lib.hid hrawl
          clear hyes hno hraw hrawl
          by_cases hbig : 2 * g < (p1 : Int)
          · have Hs := Lib.hid (Dn.step_at hlt (Hyes.out hbig) hh.out.2)
            have hrl := Hraw.out hbig
            have dbig : decide (2 * g < (p1 : Int)) = true := decide_eq_true hbig
            have hrow := Ha.out.below hb0.out
            have hrow2 := hrow.below Hb0r.out
            obtain ⟨A2, hA2⟩ : ∃ A2, (if c = i + p1 then some (⟨b, o, none⟩ : Addr) else some ⟨b, o + (i + p1), none⟩) = A2 := ⟨_, rfl⟩
            have hrA2 := cut_row (m := i + p1) hrow2 (by omega) hc
            rw [hA2] at hrA2
            have Htake := Lib.hid (row_take (m := i) hrow2)
            have HrA2 := Lib.hid hrA2
            have Hinv := Lib.hid hoo.out.1
            have Hs1 : Hid ((intCells (l.take i)).length = i) := Lib.hid (by rw [intCells_len, List.length_take]; omega)
            have Hs3 : Hid ((intCells (l.drop (i + p1))).length = l.length - (i + p1)) := Lib.hid (by rw [intCells_len, List.length_drop])
            have HbW := Lib.hid (hb0.out.trans (Hb0r.out.mono hb0.out.size))
            unfold Dn.out at Hs
            simp only [List.length_append, List.length_take, List.length_drop] at Hs hrl
            obtain ⟨V, hV⟩ : ∃ V, Word.inv (p2.drop p1) = V := ⟨_, rfl⟩
            rw [hV] at Hs hrl Hinv Hrawl ⊢
            have HV := Lib.hid hV
            have Hs2 : Hid ((intCells V).length = V.length) := Lib.hid (intCells_len _)
            clear hrow hrow2 hrA2 hV
            have c1 : 0 + i ≤ maxLen := by unfold maxLen; omega
            have c2 : (0 + i) * 8 ≤ 140737488355328 := by omega
            have c3 : i + V.length ≤ maxLen := by unfold maxLen; omega
            have c4 : (i + V.length) * 8 ≤ 140737488355328 := by omega
            have c5 : i + V.length + (l.length - (i + p1)) ≤ maxLen := by unfold maxLen; omega
            have c6 : (i + V.length + (l.length - (i + p1))) * 8 ≤ 140737488355328 := by omega
            have k6 : i + p1 ≤ l.length := by omega
            have k7 : (i : Int) + (p1 : Int) ≤ (l.length : Int) := by omega
            have k8 : (0 : Int) ≤ (i : Int) + (p1 : Int) := by omega
            have k9 : IntKind.i64.wrap ((i : Int) + (p1 : Int)) = (i : Int) + (p1 : Int) := wrap_small (by omega) (by omega)
            have k10 : ((i : Int) + (p1 : Int)).toNat = i + p1 := by omega
            have k11 : i + p1 ≤ c := by omega
            have k12 : (i : Int) + (p1 : Int) ≤ (c : Int) := by omega
            go_wp2
            go_region_law (first
              | (refine step_append_row rfl (.tmp 56) (.tmp 59) 42 rfl wr.heap.size 3 i0 _ 8 Try.underlying42 Hi0.out Hz0.out Hz1.out Hz2.out (by rfl) _ 0 (intCells []) (by rfl) (own_made1 wr) _ i _ (intCells (l.take i)) (by rfl) (Htake.out.below (below_made1 wr)) Hs1.out (intCells_one _) c1 c2 (by simp) ?_; intro v1 w1 hown1 hg1; rw [Nat.zero_add] at hown1; have hb1 := Below.grown (below_made1 wr) hg1 (by simp) (fun k hk => by injection hk with hk; exact Nat.le_of_eq hk); obtain ⟨av1, cv1, rfl⟩ := own_len hown1)
              | (refine step_append_row rfl (.tmp 60) (.tmp 61) 42 rfl wr.heap.size 3 i0 _ 8 Try.underlying42 Hi0.out Hz0.out Hz1.out Hz2.out (by rfl) _ _ _ (by rfl) hown1 _ V.length _ (intCells V) (by rfl) (Hinv.out.below hb1) Hs2.out (intCells_one _) c3 c4 hb1.size ?_; intro v2 w2 hown2 hg2; have hb2 := Below.grown hb1 hg2 hb1.size (fun k hk => (hown1.lt k hk).1); obtain ⟨av2, cv2, rfl⟩ := own_len hown2)
              | (refine step_append_row rfl (.tmp 62) (.tmp 67) 42 rfl wr.heap.size 3 i0 _ 8 Try.underlying42 Hi0.out Hz0.out Hz1.out Hz2.out (by rfl) _ _ _ (by rfl) hown2 _ (l.length - (i + p1)) _ (intCells (l.drop (i + p1))) (by rfl) (HrA2.out.below hb2) Hs3.out (intCells_one _) c5 c6 hb2.size ?_; intro v3 w3 hown3 hg3; have hb3 := Below.grown hb2 hg3 hb2.size (fun k hk => (hown2.lt k hk).1); obtain ⟨av3, cv3, rfl⟩ := own_len hown3))
            all_goals
              rw [show intCells [] ++ intCells (l.take i) ++ intCells V ++ intCells (l.drop (i + p1)) = intCells (l.take i ++ (V ++ l.drop (i + p1))) from by simp [intCells]] at hown3
              have hl3 : (l.take i ++ (V ++ l.drop (i + p1))).length = i + V.length + (l.length - (i + p1)) := by simp; omega
              have hg3 := own_gives hown3 hl3 hb3
              have Hg3 := Lib.hid hg3
              clear hown3 hb3 hg3 hown2 hown1 hg2 hg1 hb2 hb1
              obtain ⟨va, vc, he, hvc, hvcm, hfv, hbv⟩ := Hg3.out
              injection he with he
              injection he with he1 he2 he3
              rw [he1, he3]
              have Hfv := Lib.hid hfv; have Hbv := Lib.hid (HbW.out.trans (hbv.mono HbW.out.size)); have Hl3 := Lib.hid hl3
              clear hfv hbv he1 he2 he3
              rw [← hl3]
              clear hl3
              have hcR := spec_l2Reduce va vc (l.take i ++ (V ++ l.drop (i + p1))) w3 Hfv.out.row (by rw [Hl3.out]; omega) (fun y hy => (Hrawl.out y hy).1)
              generalize l.take i ++ (V ++ l.drop (i + p1)) = X at *
              have HcR := Lib.hid hcR; clear hcR
              go_wp2_with fail
              refine HcR.out.mono ?_
              rintro e w6 hg6
              have Hg6 := Lib.hid (hg6.later Hbv.out)
              obtain ⟨ya, yc, rfl, _, _, _, _⟩ := hg6
              go_wp2
              go_ret2
              rw [Hs.out]
              exact Hg6.out.with2
          · have Hn := Lib.hid (Hno.out (by omega))
            have dbig : decide (2 * g < (p1 : Int)) = false := decide_eq_false hbig
            have HbW := Lib.hid (hb0.out.trans (Hb0r.out.mono hb0.out.size))
            go_wp2
            go_roundw
            case rel => exact ⟨i + 1, by omega, by go_num, Lib.hid ⟨HbW.out, fun j hj => by
              rcases Nat.lt_or_ge j i with h | h
              · exact hh.out.2 j h
              · obtain rfl : j = i := by omega
                exact Hn.out⟩⟩
            case measure => simp [intOf]; omega
    · obtain rfl : i = l.length := by omega
      have Hs := Lib.hid (Dn.step_no hh.out.2)
      have dlt : decide (l.length < l.length) = false := decide_eq_false (by omega)
      go_wp2
      go_ret2
      rw [Hs.out]
      exact Gives.with2 (own_gives (by exact own_mono (own_made (w := wo) rfl) hh.out.1.size) rfl (hh.out.1.alloc hh.out.1.size _))
end Go.Proofs.Ytfaagbmaekoogaa
