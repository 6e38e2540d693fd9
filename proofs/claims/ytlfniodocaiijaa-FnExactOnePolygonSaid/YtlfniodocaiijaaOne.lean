/-
  The walks of OnePolygon, of the program and of the model.
-/
import Derived.Test.YtlfniodocaiijaaBase
import Derived.Test.YtlfniodocaiijaaSlice
import Derived.Test.YtlfniodocaiijaaIntRow
import Derived.Test.YtlfniodocaiijaaInts
import Derived.Test.YtlfniodocaiijaaOwn
import Derived.Test.YtlfniodocaiijaaGrid
import Derived.Test.YtlfniodocaiijaaGridWalk
import Derived.Test.YtlfniodocaiijaaGridRows
import Derived.Test.YtlfniodocaiijaaWord
import Derived.Test.YtlfniodocaiijaaGlue
import Derived.Test.YtlfniodocaiijaaIsWord
import Derived.Test.YtlfniodocaiijaaUses
import Derived.Test.YtlfniodocaiijaaIsGluing
import Derived.Test.YtlfniodocaiijaaAppend
import Derived.Test.YtlfniodocaiijaaConcat
import Derived.Test.YtlfniodocaiijaaTurn
import Derived.Test.YtlfniodocaiijaaIter
import Derived.Test.YtlfniodocaiijaaInvert
import Derived.Test.YtlfniodocaiijaaClass
import Derived.Test.YtlfniodocaiijaaLab
import Derived.Test.YtlfniodocaiijaaEnds
import Derived.Test.YtlfniodocaiijaaLetters
import Derived.Test.YtlfniodocaiijaaMove
import Derived.Test.YtlfniodocaiijaaMoveA
import Derived.Test.YtlfniodocaiijaaMoveB
import Derived.Test.YtlfniodocaiijaaMoveC
import Derived.Test.YtlfniodocaiijaaCut
import Derived.Test.YtlfniodocaiijaaGlA
import Derived.Test.YtlfniodocaiijaaGlB
import Derived.Test.YtlfniodocaiijaaGlC
import Derived.Test.YtlfniodocaiijaaGlD
import Derived.Test.YtlfniodocaiijaaGlE
import Derived.Test.YtlfniodocaiijaaGlF
namespace Go.Proofs.Ytlfniodocaiijaa
open Go.RowKit

namespace Mv
open Glue
theorem least_some {L : List (List Int)} {i : Nat} (h1 : 1 ≤ i) (h8 : i ≤ 8) (hb : ∀ k : Nat, 1 ≤ k → k < i → ¬ GlueOk L (k : Int)) (hi : GlueOk L (i : Int)) : least L = some (i : Int) := by
  unfold least
  rw [List.find?_map]
  have h : (List.range 8).find? ((fun x => decide (GlueOk L x)) ∘ fun k => ((k + 1 : Nat) : Int)) = some (i - 1) := by
    rw [List.find?_range_eq_some]
    refine ⟨?_, List.mem_range.2 (by omega), fun j hj => ?_⟩
    · show decide (GlueOk L (((i - 1) + 1 : Nat) : Int)) = true
      rw [show i - 1 + 1 = i by omega]; exact decide_eq_true hi
    · show (!decide (GlueOk L ((j + 1 : Nat) : Int))) = true
      rw [decide_eq_false (hb (j + 1) (by omega) (by omega))]; rfl
  rw [h]
  show some (((i - 1) + 1 : Nat) : Int) = some (i : Int)
  rw [show i - 1 + 1 = i by omega]
theorem least_none {L : List (List Int)} (hb : ∀ k : Nat, 1 ≤ k → k < 9 → ¬ GlueOk L (k : Int)) : least L = none := by
  unfold least
  rw [List.find?_eq_none]
  intro x hx
  obtain ⟨k, hk, rfl⟩ := List.mem_map.1 hx
  have := List.mem_range.1 hk
  simpa using hb (k + 1) (by omega) (by omega)
def nextL (L : List (List Int)) : List (List Int) := match least L with
  | none => []
  | some x => glueOf L x
theorem nextL_some {L : List (List Int)} {x : Int} (h : least L = some x) : nextL L = glueOf L x := by unfold nextL; rw [h]
theorem nextL_none {L : List (List Int)} (h : least L = none) : nextL L = [] := by unfold nextL; rw [h]
theorem glue_ok {L : List (List Int)} {x : Int} (h : GlueOk L x) : glue L x = glueOf L x := if_pos h
theorem one_none {L : List (List Int)} (h : least L = none) : one L = L := by
  unfold one
  cases L.length with
  | zero => rfl
  | succ n => unfold ones; rw [h]
theorem one_some {L : List (List Int)} {x : Int} (h : least L = some x) : one L = one (glueOf L x) := by
  have hl := glueOf_len (least_ok h).2
  unfold one
  rw [← hl]
  conv => lhs; unfold ones
  rw [h]
end Mv
def lenOf : Value → Nat
  | .slice _ n _ => n
  | _ => 0

set_option maxRecDepth 10000 in
set_option maxHeartbeats 1000000 in
theorem impl_glueLeast (a : Option Addr) (c : Nat) (L : List (List Int)) (w : World) (ha : GridC w a L) (hl : tot L ≤ 1048576) :
    Calls Try.prog 78 #[.slice a L.length c] w fun e w' => GivesRows2 w (Mv.nextL L) (Mv.least L).isSome e w' := by
  have Ha := Lib.hid ha
  have HG := Lib.hid (fun W (hW : Below w.heap.size w W) (i : Nat) (hi : i ≤ 9) => impl_GluePolygons a c L (i : Int) W (Ha.out.below hW) hl (by omega) (by omega))
  clear ha
  go_enter Try.func78, Try.ntmps78
  go_wp2
  go_loopw [4, 5, 6] (fun xv _ _ wr => ∃ i : Nat, 1 ≤ i ∧ i ≤ 9 ∧ xv = .int .i64 i ∧ Hid (Below w.heap.size w wr) ∧ Hid (∀ k : Nat, 1 ≤ k → k < i → ¬ Mv.GlueOk L (k : Int))) (fun xv _ _ _ => 9 - (intOf xv).toNat)
  case atStart => exact ⟨1, by omega, by omega, rfl, Lib.hid (Below.refl _ _), Lib.hid (fun k h1 h2 => by omega)⟩
  case round =>
    obtain ⟨i, hi1, hi9, rfl, hb, hno⟩ := hrel
    have hNw := hb.out.size
    by_cases h9 : i ≤ 8
    · have dle : decide ((i : Int) ≤ 8) = true := decide_eq_true (by omega)
      have hg := HG.out wr hb.out i (by omega)
      by_cases hok : Mv.GlueOk L (i : Int)
      · have hls := Mv.least_some hi1 h9 hno.out hok
        rw [decide_eq_true hok, Mv.glue_ok hok] at hg
        have Hls := Lib.hid hls; have Hg := Lib.hid hg
        clear hls hg hok
        go_wp2_with fail
        refine Hg.out.mono ?_
        rintro e w3 ⟨ra, rc, rfl, h1, h2, h3, hb3⟩
        have H3 := Lib.hid h3; have Hb3 := Lib.hid (hb.out.trans (hb3.mono hNw))
        clear h3 hb3
        go_wp2
        go_ret2
        rw [Hls.out, Mv.nextL_some Hls.out]
        exact ⟨ra, rc, rfl, h1, h2, H3.out.mono hNw (Nat.le_refl _), Hb3.out⟩
      · have Hno := Lib.hid (show ∀ k : Nat, 1 ≤ k → k < i + 1 → ¬ Mv.GlueOk L (k : Int) from fun k h1 h2 => by
          rcases Nat.lt_or_ge k i with h3 | h3
          · exact hno.out k h1 h3
          · obtain rfl : k = i := by omega
            exact hok)
        rw [decide_eq_false hok] at hg
        have Hg := Lib.hid hg
        clear hg hok
        go_wp2_with fail
        refine Hg.out.mono ?_
        rintro e w3 ⟨ra, rc, rfl, h1, h2, h3, hb3⟩
        have Hb3 := Lib.hid (hb.out.trans (hb3.mono hNw))
        clear h3 hb3
        generalize (Mv.glue L (i : Int)).length = gl at *
        go_wp2
        go_roundw
        case rel => exact ⟨i + 1, by omega, by omega, by go_num, Hb3, Hno⟩
        case measure => simp [intOf] <;> omega
    · obtain rfl : i = 9 := by omega
      have Hls := Lib.hid (Mv.least_none hno.out)
      go_wp2
      go_ret2
      rw [Hls.out, Mv.nextL_none Hls.out]
      exact GivesRows2.none hb.out (Nat.zero_le _)
theorem one_ok {L : List (List Int)} (hG : Glue.IsG L) : (Mv.one L).length = 1 → Mv.OneOk L ∧ Mv.oneOf L = Mv.one L := fun h => ⟨⟨hG, h⟩, if_pos ⟨hG, h⟩⟩
theorem one_not {L : List (List Int)} (h : Glue.IsG L → (Mv.one L).length ≠ 1) : ¬ Mv.OneOk L ∧ Mv.oneOf L = [] := by
  have hn : ¬ Mv.OneOk L := fun h2 => h h2.1 h2.2
  exact ⟨hn, if_neg hn⟩
set_option maxRecDepth 10000 in
set_option maxHeartbeats 2000000 in
theorem impl_OnePolygon (a : Option Addr) (c : Nat) (L : List (List Int)) (w : World) (ha : GridC w a L) (hl : tot L ≤ 1048576) :
    Calls Try.prog 28 #[.slice a L.length c] w fun e w' => GivesRows2 w (Mv.oneOf L) (decide (Mv.OneOk L)) e w' := by
  have hGc := impl_IsGluing a c L w ha.grid hl
  by_cases hG : Glue.IsG L
  · rw [decide_eq_true hG] at hGc
    have hC := fun W (hW : Below w.heap.size w W) => impl_copyPolygons a c L W (ha.grid.below hW) hl
    have HGc := Lib.hid hGc; have HC := Lib.hid hC; have HG := Lib.hid hG
    have HLe := Lib.hid (fun a c M W (h : GridC W a M) (hM : Glue.IsG M) => impl_glueLeast a c M W h (Nat.le_trans (Mv.tot_of hM) (by decide)))
    clear hGc hC hG ha
    go_enter Try.func28, Try.ntmps28
    go_wp2_with fail
    refine HGc.out.mono ?_
    rintro e w1 ⟨rfl, hb1⟩
    have Hb1 := Lib.hid hb1; clear hb1
    go_wp2_with fail
    refine (HC.out w1 Hb1.out).mono ?_
    rintro e w2 ⟨rfl, hh, hb2⟩
    obtain ⟨oa, oc, he, ho1, ho2, hog⟩ := hh.done
    have Hb2 := Lib.hid (Hb1.out.trans (hb2.mono Hb1.out.size))
    have Hog := Lib.hid (hog.mono Hb1.out.size (Nat.le_refl _))
    rw [he]
    clear hh hb2 hog he
    go_wp2_with fail
    refine (HLe.out oa oc L w2 Hog.out.gridc HG.out).mono ?_
    rintro e w3 ⟨na, nc, rfl, hn1, hn2, hng, hb3⟩
    have Hb3 := Lib.hid (Hb2.out.trans (hb3.mono Hb2.out.size))
    have Hng := Lib.hid (hng.mono Hb2.out.size (Nat.le_refl _))
    have Hog3 := Lib.hid ((Hog.out.below hb3).mono (Nat.le_refl _) hb3.size)
    clear hng hb3
    go_wp2
    go_loopw [4, 5, 6] (fun ov nv kv wr => ∃ M : List (List Int), ∃ oa oc na nc, ov = .slice oa M.length oc ∧ nv = .slice na (Mv.nextL M).length nc ∧ kv = .bool (Mv.least M).isSome ∧ Hid (Glue.IsG M ∧ Mv.one L = Mv.one M) ∧ Hid (M.length ≤ oc ∧ oc ≤ maxLen ∧ GridIn wr w.heap.size wr.heap.size oa M) ∧ Hid ((Mv.nextL M).length ≤ nc ∧ nc ≤ maxLen ∧ GridIn wr w.heap.size wr.heap.size na (Mv.nextL M)) ∧ Hid (Below w.heap.size w wr)) (fun ov _ _ _ => lenOf ov)
    case atStart => exact ⟨L, oa, oc, na, nc, rfl, rfl, rfl, Lib.hid ⟨HG.out, rfl⟩, Lib.hid ⟨ho1, ho2, Hog3.out⟩, Lib.hid ⟨hn1, hn2, Hng.out⟩, Hb3⟩
    case round =>
      obtain ⟨M, oa, oc, na, nc, rfl, rfl, rfl, hM, hO, hN, hb⟩ := hrel
      cases hls : Mv.least M with
      | none =>
        have hone : Mv.one L = M := by rw [hM.out.2, Mv.one_none hls]
        have hge := hM.out.1.1
        have Hls := Lib.hid hls
        rw [show (none : Option Int).isSome = false from rfl]
        by_cases h1 : M.length = 1
        · obtain ⟨e1, e2⟩ := one_ok HG.out (by rw [hone]; exact h1)
          have He1 := Lib.hid e1; have He2 := Lib.hid (e2.trans hone)
          have dgt : decide ((1 : Int) < (M.length : Int)) = false := decide_eq_false (by omega)
          have dgn : decide (1 < M.length) = false := decide_eq_false (by omega)
          have Hh1 := Lib.hid h1
          clear e1 e2 hone hls h1
          go_wp2
          go_ret2
          rw [decide_eq_true He1.out, He2.out]
          exact ⟨oa, oc, rfl, hO.out.1, hO.out.2.1, hO.out.2.2, hb.out⟩
        · obtain ⟨e1, e2⟩ := one_not (L := L) (fun _ => by rw [hone]; exact h1)
          have He1 := Lib.hid e1; have He2 := Lib.hid e2
          have dgt : decide ((1 : Int) < (M.length : Int)) = true := decide_eq_true (by omega)
          have dgn : decide (1 < M.length) = true := decide_eq_true (by omega)
          have Hh1 := Lib.hid h1
          clear e1 e2 hone hls h1
          go_wp2
          go_ret2
          rw [decide_eq_false He1.out, He2.out]
          exact GivesRows2.none hb.out (Nat.zero_le _)
      | some x =>
        have hnx := Mv.nextL_some hls
        have hok := (Mv.least_ok hls).2
        have hlen := Mv.glueOf_len hok
        have hone := Mv.one_some hls
        rw [hnx] at hN ⊢
        rw [show (some x : Option Int).isSome = true from rfl]
        generalize Mv.glueOf M x = M2 at *
        have Hok := Lib.hid (And.intro hok (hM.out.2.trans hone))
        have Hlen := Lib.hid hlen
        clear hls hnx hok hlen hone
        go_wp2_with fail
        refine (HLe.out na nc M2 wr hN.out.2.2.gridc Hok.out.1).mono ?_
        rintro e w4 ⟨na2, nc2, rfl, g1, g2, g3, hb4⟩
        have Hb4 := Lib.hid (hb.out.trans (hb4.mono hb.out.size))
        have Hn2 := Lib.hid (And.intro g1 (And.intro g2 (g3.mono hb.out.size (Nat.le_refl _))))
        have Ho2 := Lib.hid (And.intro hN.out.1 (And.intro hN.out.2.1 ((hN.out.2.2.below hb4).mono (Nat.le_refl _) hb4.size)))
        clear g3 hb4
        generalize hLS : (Mv.least M2).isSome = ls
        have HLS := Lib.hid hLS
        clear hLS
        go_wp2
        go_roundw
        case rel => exact ⟨M2, na, nc, na2, nc2, rfl, rfl, by rw [HLS.out], Hok, Ho2, Hn2, Hb4⟩
        case measure => have := Hlen.out; simp [lenOf]; omega
  · rw [decide_eq_false hG] at hGc
    obtain ⟨e1, e2⟩ := one_not (L := L) (fun h => absurd h hG)
    rw [e2, decide_eq_false e1]
    have HGc := Lib.hid hGc
    clear hGc e1 e2 hG ha
    go_enter Try.func28, Try.ntmps28
    go_wp2_with fail
    refine HGc.out.mono ?_
    rintro e w1 ⟨rfl, hb1⟩
    go_wp2
    go_ret2
    exact GivesRows2.none hb1 (Nat.zero_le _)
set_option maxRecDepth 10000 in
set_option maxHeartbeats 2000000 in
theorem spec_OnePolygon (a : Option Addr) (c : Nat) (L : List (List Int)) (w : World) (ha : GridC w a L) (hl : tot L ≤ 1048576) :
    Calls Try.prog 29 #[.slice a L.length c] w fun e w' => GivesRows2 w (Mv.oneOf L) (decide (Mv.OneOk L)) e w' := by
  have hGc := spec_IsGluing a c L w ha.grid hl
  by_cases hG : Glue.IsG L
  · rw [decide_eq_true hG] at hGc
    have hC := fun W (hW : Below w.heap.size w W) => spec_l5Copy a c L W (ha.grid.below hW) hl
    have HGc := Lib.hid hGc; have HC := Lib.hid hC; have HG := Lib.hid hG
    have HLe := Lib.hid (fun a c M W (i : Nat) (h : GridC W a M) (hM : Glue.IsG M) (hi : i ≤ 9) => spec_GluePolygons a c M (i : Int) W h (Nat.le_trans (Mv.tot_of hM) (by decide)) (by omega) (by omega))
    clear hGc hC hG ha
    go_enter Try.func29, Try.ntmps29
    go_wp2_with fail
    refine HGc.out.mono ?_
    rintro e w1 ⟨rfl, hb1⟩
    have Hb1 := Lib.hid hb1; clear hb1
    go_wp2_with fail
    refine (HC.out w1 Hb1.out).mono ?_
    rintro e w2 ⟨v, rfl, hh, hb2⟩
    obtain ⟨oa, oc, rfl, ho1, ho2, hog⟩ := hh.done
    have Hb2 := Lib.hid (Hb1.out.trans (hb2.mono Hb1.out.size))
    have Hog := Lib.hid (hog.mono Hb1.out.size (Nat.le_refl _))
    clear hh hb2 hog
    go_wp2
    go_loopw [4, 5, 6, 7] (fun ov xv _ _ wr => ∃ M : List (List Int), ∃ oa oc, ∃ i : Nat, 1 ≤ i ∧ i ≤ 9 ∧ ov = .slice oa M.length oc ∧ xv = .int .i64 i ∧ Hid (Glue.IsG M ∧ Mv.one L = Mv.one M) ∧ Hid (M.length ≤ oc ∧ oc ≤ maxLen ∧ GridIn wr w.heap.size wr.heap.size oa M) ∧ Hid (Below w.heap.size w wr) ∧ Hid (∀ k : Nat, 1 ≤ k → k < i → ¬ Mv.GlueOk M (k : Int))) (fun ov xv _ _ _ => lenOf ov * 10 + (9 - (intOf xv).toNat))
    case atStart => exact ⟨L, oa, oc, 1, by omega, by omega, rfl, rfl, Lib.hid ⟨HG.out, rfl⟩, Lib.hid ⟨ho1, ho2, Hog.out⟩, Hb2, Lib.hid (fun k h1 h2 => by omega)⟩
    case round =>
      obtain ⟨M, oa, oc, i, hi1, hi9, rfl, rfl, hM, hO, hb, hno⟩ := hrel
      by_cases h9 : i ≤ 8
      · have dle : decide ((i : Int) ≤ 8) = true := decide_eq_true (by omega)
        have hg := HLe.out oa oc M wr i hO.out.2.2.gridc hM.out.1 (by omega)
        by_cases hok : Mv.GlueOk M (i : Int)
        · have hls := Mv.least_some hi1 h9 hno.out hok
          rw [decide_eq_true hok, Mv.glue_ok hok] at hg
          have hlen := Mv.glueOf_len hok.2
          have hone := Mv.one_some hls
          have hok2 := hok.2
          generalize Mv.glueOf M (i : Int) = M2 at *
          have Hok := Lib.hid (And.intro hok2 (hM.out.2.trans hone))
          have Hlen := Lib.hid hlen; have Hg := Lib.hid hg
          clear hls hg hok hone hok2 hlen
          go_wp2_with fail
          refine Hg.out.mono ?_
          rintro e w4 ⟨na2, nc2, rfl, g1, g2, g3, hb4⟩
          have Hb4 := Lib.hid (hb.out.trans (hb4.mono hb.out.size))
          have Hn2 := Lib.hid (And.intro g1 (And.intro g2 (g3.mono hb.out.size (Nat.le_refl _))))
          clear g3 hb4
          go_wp2
          go_roundw
          case rel => exact ⟨M2, na2, nc2, 1, by omega, by omega, rfl, by first | rfl | go_num, Hok, Hn2, Hb4, Lib.hid (fun k h1 h2 => by omega)⟩
          case measure => have := Hlen.out; simp [lenOf, intOf]; omega
        · have Hno := Lib.hid (show ∀ k : Nat, 1 ≤ k → k < i + 1 → ¬ Mv.GlueOk M (k : Int) from fun k h1 h2 => by
            rcases Nat.lt_or_ge k i with h3 | h3
            · exact hno.out k h1 h3
            · obtain rfl : k = i := by omega
              exact hok)
          rw [decide_eq_false hok] at hg
          have Hg := Lib.hid hg
          clear hg hok
          go_wp2_with fail
          refine Hg.out.mono ?_
          rintro e w4 ⟨na2, nc2, rfl, g1, g2, g3, hb4⟩
          have Hb4 := Lib.hid (hb.out.trans (hb4.mono hb.out.size))
          have Ho2 := Lib.hid (And.intro hO.out.1 (And.intro hO.out.2.1 ((hO.out.2.2.below hb4).mono (Nat.le_refl _) hb4.size)))
          clear g3 hb4
          generalize (Mv.glue M (i : Int)).length = gl at *
          go_wp2
          go_roundw
          case rel => exact ⟨M, oa, oc, i + 1, by omega, by omega, rfl, by go_num, hM, Ho2, Hb4, Hno⟩
          case measure => simp [lenOf, intOf] <;> omega
      · obtain rfl : i = 9 := by omega
        have hls := Mv.least_none hno.out
        have hone : Mv.one L = M := by rw [hM.out.2, Mv.one_none hls]
        by_cases h1 : M.length = 1
        · obtain ⟨e1, e2⟩ := one_ok HG.out (by rw [hone]; exact h1)
          have He1 := Lib.hid e1; have He2 := Lib.hid (e2.trans hone)
          have b1 : ((M.length : Int) != 1) = false := by simp; omega
          have b2 : ((M.length : Int) == 1) = true := beq_iff_eq.2 (by omega)
          have Hh1 := Lib.hid h1
          clear e1 e2 hone hls h1
          go_wp2
          go_ret2
          rw [decide_eq_true He1.out, He2.out]
          exact ⟨oa, oc, rfl, hO.out.1, hO.out.2.1, hO.out.2.2, hb.out⟩
        · obtain ⟨e1, e2⟩ := one_not (L := L) (fun _ => by rw [hone]; exact h1)
          have He1 := Lib.hid e1; have He2 := Lib.hid e2
          have b1 : ((M.length : Int) != 1) = true := by simp; omega
          have b2 : ((M.length : Int) == 1) = false := beq_eq_false_iff_ne.2 (by omega)
          have Hh1 := Lib.hid h1
          clear e1 e2 hone hls h1
          go_wp2
          go_ret2
          rw [decide_eq_false He1.out, He2.out]
          exact GivesRows2.none (hb.out.alloc hb.out.size _) (Nat.zero_le _)
  · rw [decide_eq_false hG] at hGc
    obtain ⟨e1, e2⟩ := one_not (L := L) (fun h => absurd h hG)
    rw [e2, decide_eq_false e1]
    have HGc := Lib.hid hGc
    clear hGc e1 e2 hG ha
    go_enter Try.func29, Try.ntmps29
    go_wp2_with fail
    refine HGc.out.mono ?_
    rintro e w1 ⟨rfl, hb1⟩
    go_wp2
    go_ret2
    exact GivesRows2.none (hb1.alloc hb1.size _) (Nat.zero_le _)
end Go.Proofs.Ytlfniodocaiijaa
