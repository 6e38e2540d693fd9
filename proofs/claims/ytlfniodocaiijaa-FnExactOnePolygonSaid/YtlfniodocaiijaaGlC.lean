/-
  The walk of the program's GluePolygons.
-/
import Derived.Test.YtlfniodocaiijaaBase
import Derived.Test.YtlfniodocaiijaaSlice
import Derived.Test.YtlfniodocaiijaaIntRow
import Derived.Test.YtlfniodocaiijaaInts
import Derived.Test.YtlfniodocaiijaaOwn
import Derived.Test.YtlfniodocaiijaaGrid
import Derived.Test.YtlfniodocaiijaaGridWalk
import Derived.Test.YtlfniodocaiijaaGridRows
import Derived.Test.YtlfniodocaiijaaWord
import Derived.Test.YtlfniodocaiijaaGlue
import Derived.Test.YtlfniodocaiijaaIsWord
import Derived.Test.YtlfniodocaiijaaUses
import Derived.Test.YtlfniodocaiijaaIsGluing
import Derived.Test.YtlfniodocaiijaaAppend
import Derived.Test.YtlfniodocaiijaaConcat
import Derived.Test.YtlfniodocaiijaaTurn
import Derived.Test.YtlfniodocaiijaaIter
import Derived.Test.YtlfniodocaiijaaInvert
import Derived.Test.YtlfniodocaiijaaClass
import Derived.Test.YtlfniodocaiijaaLab
import Derived.Test.YtlfniodocaiijaaEnds
import Derived.Test.YtlfniodocaiijaaLetters
import Derived.Test.YtlfniodocaiijaaMove
import Derived.Test.YtlfniodocaiijaaMoveA
import Derived.Test.YtlfniodocaiijaaMoveB
import Derived.Test.YtlfniodocaiijaaMoveC
import Derived.Test.YtlfniodocaiijaaCut
import Derived.Test.YtlfniodocaiijaaGlA
import Derived.Test.YtlfniodocaiijaaGlB
import Derived.Deep.QuietTactic
import Derived.BigQuiet
import Derived.StillTailTactics
namespace Go.Proofs.Ytlfniodocaiijaa
open Go.RowKit

namespace Mv
open Glue
theorem found_mem {L : List (List Int)} {x : Int} {k : Nat} (h : k ∈ found L x) : ∃ r, L[k]? = some r ∧ In r x := by
  unfold found foundTo at h
  obtain ⟨h1, h2⟩ := List.mem_filter.1 h
  have hk := List.mem_range.1 h1
  refine ⟨L[k], List.getElem?_eq_getElem hk, ?_⟩
  rw [List.getD_eq_getElem?_getD, List.getElem?_eq_getElem hk] at h2
  simpa using h2
theorem found_two {L : List (List Int)} {x : Int} {p q : Nat} (h : found L x = [p, q]) : p < q ∧ q < L.length ∧ ∃ rp rq, L[p]? = some rp ∧ L[q]? = some rq ∧ In rp x ∧ In rq x := by
  have hs : (found L x).Pairwise (· < ·) := by
    unfold found foundTo; exact List.Pairwise.filter _ List.pairwise_lt_range
  rw [h] at hs
  obtain ⟨rp, h1, h2⟩ := found_mem (L := L) (x := x) (k := p) (by rw [h]; simp)
  obtain ⟨rq, h3, h4⟩ := found_mem (L := L) (x := x) (k := q) (by rw [h]; simp)
  exact ⟨by simpa using hs, found_lt (x := x) (by rw [h]; simp), rp, rq, h1, h3, h2, h4⟩
theorem glueOf_two {L : List (List Int)} {x : Int} {p q : Nat} (h : found L x = [p, q]) : glueOf L x = gluedAt L x p q := by unfold glueOf; rw [h]
theorem glueOf_not {L : List (List Int)} {x : Int} (h : (found L x).length ≠ 2) : glueOf L x = [] := by
  unfold glueOf; split
  · rename_i p q e; rw [e] at h; exact absurd rfl h
  · rfl
theorem glue_val {L : List (List Int)} {x : Int} {p q : Nat} (hG : IsG L) (h : found L x = [p, q]) : glue L x = (if IsG (gluedAt L x p q) then gluedAt L x p q else []) ∧ decide (GlueOk L x) = decide (IsG (gluedAt L x p q)) := by
  have e := glueOf_two h
  constructor
  · unfold glue
    by_cases h2 : IsG (gluedAt L x p q)
    · rw [if_pos h2, if_pos (show GlueOk L x from ⟨hG, by rw [e]; exact h2⟩), e]
    · rw [if_neg h2, if_neg (fun h3 : GlueOk L x => h2 (by have := h3.2; rwa [e] at this))]
  · exact decide_eq_decide.2 ⟨fun h3 => by have := h3.2; rwa [e] at this, fun h3 => ⟨hG, by rw [e]; exact h3⟩⟩
theorem glue_no {L : List (List Int)} {x : Int} (h : IsG L → (found L x).length ≠ 2) : ¬ GlueOk L x ∧ glue L x = [] := by
  have hn : ¬ GlueOk L x := fun hg => by
    have := hg.2; rw [glueOf_not (h hg.1)] at this; exact not_nil this
  exact ⟨hn, if_neg hn⟩
theorem joined_len (a b : List Int) (x : Int) : (joined a b x).length ≤ a.length + b.length := by
  unfold joined
  split <;> simp [Word.inv_len] <;> omega
theorem sum_sub {a b : List Nat} (h : a.Sublist b) : a.sum ≤ b.sum := by
  induction h with
  | slnil => exact Nat.le_refl _
  | cons x _ ih => simp; omega
  | cons_cons x _ ih => simp; omega
theorem glued_tot {L : List (List Int)} {x : Int} {p q : Nat} {rp rq : List Int} (hG : IsG L) (h1 : L[p]? = some rp) (h2 : L[q]? = some rq) : tot ((L.set p (joined rp rq x)).eraseIdx q) ≤ 1048576 := by
  have e1 := sum_set (r := joined rp rq x) h1
  have e2 := joined_len rp rq x
  have e3 := (hG.w rp (get_mem h1)).2
  have e4 := (hG.w rq (get_mem h2)).2
  have e5 := hG.2.2.2.1
  have e6 := hG.2.1
  have hs : sumLen ((L.set p (joined rp rq x)).eraseIdx q) ≤ sumLen (L.set p (joined rp rq x)) := by
    unfold sumLen
    exact sum_sub (((L.set p (joined rp rq x)).eraseIdx_sublist q).map List.length)
  have hl : ((L.set p (joined rp rq x)).eraseIdx q).length ≤ L.length := by
    have := ((L.set p (joined rp rq x)).eraseIdx_sublist q).length_le
    rwa [List.length_set] at this
  unfold Go.Proofs.Ytlfniodocaiijaa.tot
  omega
theorem gluedAt_eq {L : List (List Int)} {x : Int} {p q : Nat} {rp rq : List Int} (h1 : L[p]? = some rp) (h2 : L[q]? = some rq) : gluedAt L x p q = (L.set p (joined rp rq x)).eraseIdx q := by
  unfold gluedAt
  rw [List.getD_eq_getElem?_getD, List.getD_eq_getElem?_getD, h1, h2]; rfl
end Mv

set_option maxRecDepth 10000 in
set_option maxHeartbeats 4000000 in
theorem impl_GluePolygons_in (a : Option Addr) (c : Nat) (L : List (List Int)) (x : Int) (w : World) (ha : GridC w a L) (hl : tot L ≤ 1048576) (hG : Glue.IsG L) (p q : Nat) (hf : Mv.found L x = [p, q]) :
    Calls Try.prog 10 #[.slice a L.length c, .int .i64 x] w fun e w' => GivesRows2 w (Mv.glue L x) (decide (Mv.GlueOk L x)) e w' := by
  have hGc := impl_IsGluing a c L w ha.grid hl
  rw [decide_eq_true hG] at hGc
  obtain ⟨hv1, hv2⟩ := Mv.glue_val hG hf
  rw [hv1, hv2]
  obtain ⟨hpq, hql, rp, rq, hgp, hgq, hIp, hIq⟩ := Mv.found_two hf
  have hln : L.length ≤ 4 := hG.2.1
  rw [Mv.gluedAt_eq hgp hgq]
  have htot := Mv.glued_tot (x := x) hG hgp hgq
  have hwp := hG.w rp (get_mem hgp)
  have hwq := hG.w rq (get_mem hgq)
  have hPW := fun W (hW : Below w.heap.size w W) => impl_polygonsWith a c L x W (ha.grid.below hW) (by omega) hG.w
  rw [hf] at hPW
  have HPW : Hid (∀ W, Below w.heap.size w W → Calls Try.prog 60 #[.slice a L.length c, .int .i64 x] W fun e w' => ∃ fa fc, e = .returned (.slice fa 2 fc) ∧ 2 ≤ fc ∧ RowAt w' fa (intCells [(p : Int), (q : Int)]) ∧ Below W.heap.size W w') := Lib.hid (fun W hW => (hPW W hW).mono (fun e w' ⟨fa, fc, he, h1, _, h3, h4⟩ => ⟨fa, fc, he, h1, h3.row, h4⟩))
  obtain ⟨b, o, pa, pc, rfl, hpc, hcp, hrp⟩ := ha.cell hgp
  obtain ⟨_, _, qa, qc, e1, hqc, hcq, hrq⟩ := ha.cell hgq
  cases e1
  have hJ := fun W (hW : Below w.heap.size w W) => impl_joinAlong pa qa pc qc rp rq x W (hrp W hW) (hrq W hW) hwp hwq hpc hqc hIp hIq
  have Ha := Lib.hid ha.grid
  have hWi := fun ra rc r W (hb : Below w.heap.size w W) => impl_withPolygon (some ⟨b, o, none⟩) ra c rc w.heap.size p L r W (Ha.out.below hb) hl (by omega)
  have hR := fun v W (h : Held W w.heap.size v ((L.set p (Mv.joined rp rq x)).eraseIdx q)) => impl_gluingOrNone v _ w.heap.size W h htot
  have hD := fun g cap W (h : Held W w.heap.size (.slice (some ⟨g, 0, none⟩) (L.set p (Mv.joined rp rq x)).length cap) (L.set p (Mv.joined rp rq x))) => lib_Delete g cap q w.heap.size (L.set p (Mv.joined rp rq x)) W h (by rw [List.length_set]; exact hql) (by rw [List.length_set]; omega)
  generalize Mv.joined rp rq x = R at *
  generalize decide (Glue.IsG ((L.set p R).eraseIdx q)) = dG at *
  generalize (if Glue.IsG ((L.set p R).eraseIdx q) then (L.set p R).eraseIdx q else []) = V at *
  have HD : Hid (∀ g cap W, Held W w.heap.size (.slice (some ⟨g, 0, none⟩) L.length cap) (L.set p R) → Calls Try.prog 62 #[.slice (some ⟨g, 0, none⟩) L.length cap, .int .i64 (q : Int), .int .i64 ((q : Int) + 1)] W fun e w' => e = .returned (.slice (some ⟨g, 0, none⟩) (L.length - 1) cap) ∧ Held w' w.heap.size (.slice (some ⟨g, 0, none⟩) (L.length - 1) cap) ((L.set p R).eraseIdx q) ∧ Below w.heap.size W w') := Lib.hid (fun g cap W h => by have := hD g cap W (by rw [List.length_set]; exact h); rwa [List.length_set] at this)
  have HGc := Lib.hid hGc; have HJ := Lib.hid hJ; have HWi := Lib.hid hWi; have HR := Lib.hid hR; have Hcp := Lib.hid hcp; have Hcq := Lib.hid hcq
  have p0 : (0 : Int) ≤ (p : Int) := by omega
  have p1 : (p : Int) < (L.length : Int) := by omega
  have q0 : (0 : Int) ≤ (q : Int) := by omega
  have q1 : (q : Int) < (L.length : Int) := by omega
  have q2 : IntKind.i64.wrap ((q : Int) + 1) = (q : Int) + 1 := wrap_small (by omega) (by omega)
  have h0L : 0 < L.length := by omega
  clear hGc hPW hJ hWi hR hD hcp hcq hrp hrq ha hv1 hv2 hG hf htot hwp hwq hgp hgq hIp hIq
  go_enter Try.func10, Try.ntmps10
  go_wp2_with fail
  refine HGc.out.mono ?_
  rintro e w1 ⟨rfl, hb1⟩
  have Hb1 := Lib.hid hb1; clear hb1
  go_wp2_with fail
  refine (HPW.out w1 Hb1.out).mono ?_
  rintro e w2 ⟨fa, fc, rfl, hfc, hfr, hb2⟩
  have Hb2 := Lib.hid (Hb1.out.trans (hb2.mono Hb1.out.size))
  obtain ⟨fb, fo, rfl, _, hc0⟩ := intCells_get? hfr (i := 0) (x := (p : Int)) rfl
  obtain ⟨_, _, e1, _, hc1⟩ := intCells_get? hfr (i := 1) (x := (q : Int)) rfl
  cases e1
  rw [Nat.add_zero] at hc0
  clear hfr hb2
  go_wp2
  go_quiet (fail)
  have Hb3 := Lib.hid (below_drewN Hb2.out nq)
  have hcp3 := Hcp.out _ Hb3.out
  have hcq3 := Hcq.out _ Hb3.out
  generalize w2.drewN nq = w3 at *
  go_wp2
  go_region_with (first
    | (go_at_call 61; refine (HJ.out w3.drew Hb3.out.drew).mono ?_; rintro e w4 ⟨ra, rc, rfl, hrc, _, hf4, hb4⟩; have Hb4 := Lib.hid (Hb3.out.drew.trans (hb4.mono Hb3.out.size)); have Hf4 := Lib.hid ((RowIn.of_fresh hf4).mono Hb3.out.size (Nat.le_refl _)); have Hrc := Lib.hid hrc; clear hf4 hb4 hrc)
    | (go_at_call 51; refine (HWi.out ra rc R w4 Hb4.out Hf4.out Hb4.out.size Hrc.out).mono ?_; rintro e w5 ⟨v, rfl, hh, hb5⟩; have Hb5 := Lib.hid (Hb4.out.trans (hb5.mono Hb4.out.size)); have hh2 := hh.form (by rw [List.length_set]; exact h0L); obtain ⟨g, cap, rfl, _, _, _, _⟩ := hh2; rw [List.length_set] at hh; have Hh := Lib.hid hh; clear hh hb5))
  all_goals
    go_wp2_with fail
    refine (HD.out g cap w5 Hh.out).mono ?_
    rintro e w6 ⟨rfl, hh6, hb6⟩
    have Hh6 := Lib.hid hh6; have Hb6 := Lib.hid (Hb5.out.trans hb6)
    clear hh6 hb6
    go_wp2_with fail
    refine (HR.out _ w6 Hh6.out).mono ?_
    rintro e w7 ⟨v7, rfl, hh7, hb7⟩
    have Hh7 := Lib.hid hh7; have Hb7 := Lib.hid (Hb6.out.trans (hb7.mono Hb6.out.size))
    clear hh7 hb7
    go_wp2
    go_ret2
    exact Hh7.out.gives Hb7.out
set_option maxRecDepth 10000 in
set_option maxHeartbeats 1000000 in
theorem impl_GluePolygons (a : Option Addr) (c : Nat) (L : List (List Int)) (x : Int) (w : World) (ha : GridC w a L) (hl : tot L ≤ 1048576) (_hx0 : -9223372036854775808 ≤ x) (_hx1 : x ≤ 9223372036854775807) :
    Calls Try.prog 10 #[.slice a L.length c, .int .i64 x] w fun e w' => GivesRows2 w (Mv.glue L x) (decide (Mv.GlueOk L x)) e w' := by
  by_cases hG : Glue.IsG L
  · by_cases h2 : (Mv.found L x).length = 2
    · obtain ⟨p, q, hf⟩ : ∃ p q, Mv.found L x = [p, q] := by
        match hf : Mv.found L x, h2 with
        | [p, q], _ => exact ⟨p, q, rfl⟩
      exact impl_GluePolygons_in a c L x w ha hl hG p q hf
    · obtain ⟨hn1, hn2⟩ := Mv.glue_no (L := L) (x := x) (fun _ => h2)
      rw [hn2, decide_eq_false hn1]
      have hGc := impl_IsGluing a c L w ha.grid hl
      rw [decide_eq_true hG] at hGc
      have hPW := fun W (hW : Below w.heap.size w W) => impl_polygonsWith a c L x W (ha.grid.below hW) (by have := hG.2.1; omega) hG.w
      have hle := Mv.foundTo_len L x L.length
      have hle4 := hG.2.1
      have hle : (Mv.found L x).length ≤ 4 := Nat.le_trans hle hle4
      generalize Mv.found L x = F at *
      have HGc := Lib.hid hGc
      have HPW : Hid (∀ W, Below w.heap.size w W → Calls Try.prog 60 #[.slice a L.length c, .int .i64 x] W fun e w' => ∃ fa fc, e = .returned (.slice fa F.length fc) ∧ Below W.heap.size W w') := Lib.hid (fun W hW => (hPW W hW).mono (fun e w' ⟨fa, fc, he, h1, _, h3, h4⟩ => ⟨fa, fc, by rw [he, intsOf_len], h4⟩))
      have b2 : ((F.length : Int) != 2) = true := by simp; omega
      have b3 : ((F.length : Int) == 2) = false := beq_eq_false_iff_ne.2 (by omega)
      clear hGc hPW hn1 hn2 hG ha
      go_enter Try.func10, Try.ntmps10
      go_wp2_with fail
      refine HGc.out.mono ?_
      rintro e w1 ⟨rfl, hb1⟩
      have Hb1 := Lib.hid hb1; clear hb1
      go_wp2_with fail
      refine (HPW.out w1 Hb1.out).mono ?_
      rintro e w2 ⟨fa, fc, rfl, hb2⟩
      have Hb2 := Lib.hid (Hb1.out.trans (hb2.mono Hb1.out.size)); clear hb2
      go_wp2
      go_ret2
      exact GivesRows2.none Hb2.out (Nat.zero_le _)
  · obtain ⟨hn1, hn2⟩ := Mv.glue_no (L := L) (x := x) (fun h => absurd h hG)
    rw [hn2, decide_eq_false hn1]
    have hGc := impl_IsGluing a c L w ha.grid hl
    rw [decide_eq_false hG] at hGc
    have HGc := Lib.hid hGc
    clear hGc hn1 hn2 hG
    go_enter Try.func10, Try.ntmps10
    go_wp2_with fail
    refine HGc.out.mono ?_
    rintro e w1 ⟨rfl, hb1⟩
    go_wp2
    go_ret2
    exact GivesRows2.none hb1 (Nat.zero_le _)
end Go.Proofs.Ytlfniodocaiijaa
