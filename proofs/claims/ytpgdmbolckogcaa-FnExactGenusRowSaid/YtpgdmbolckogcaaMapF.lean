/-
  The walks of the genus of a map, the program's and the model's.
-/
import Derived.Test.YtpgdmbolckogcaaBase
import Derived.Test.YtpgdmbolckogcaaSlice
import Derived.Test.YtpgdmbolckogcaaInts
import Derived.Test.YtpgdmbolckogcaaGrid
import Derived.Test.YtpgdmbolckogcaaGridRows
import Derived.Test.YtpgdmbolckogcaaOwn
import Derived.Test.YtpgdmbolckogcaaClass
import Derived.Test.YtpgdmbolckogcaaLab
import Derived.Test.YtpgdmbolckogcaaMap
import Derived.Test.YtpgdmbolckogcaaMapA
import Derived.Test.YtpgdmbolckogcaaMapB
import Derived.Test.YtpgdmbolckogcaaMapC
import Derived.Test.YtpgdmbolckogcaaMapD
import Derived.Test.YtpgdmbolckogcaaMapE
import Derived.Deep.QuietTactic
import Derived.BigQuiet
namespace Go.Proofs.Ytpgdmbolckogcaa
open Go.RowKit

namespace Mp
theorem cyc_congr {f g : Nat → Nat} {n : Nat} (h : ∀ d, d < n → g d = f d) (hf : ∀ d, d < n → f d < n) : ∀ k s d, d < n → cyc g k s d = cyc f k s d
  | 0, _, _, _ => rfl
  | k + 1, s, d, hd => by
    unfold cyc
    rw [h d hd, cyc_congr h hf k _ _ (hf d hd)]
theorem cycTo_congr {f g : Nat → Nat} {n : Nat} (h : ∀ d, d < n → g d = f d) (hf : ∀ d, d < n → f d < n) : ∀ i, i ≤ n → cycTo g n i = cycTo f n i
  | 0, _ => rfl
  | i + 1, hi => by
    rw [cycTo_succ, cycTo_succ, cycTo_congr h hf i (by omega)]
    unfold cycStep
    rw [cyc_congr h hf _ _ _ (by omega)]
theorem cycs_dual {l : List Int} (h : IsM l) : cycs (dual l) = (cycTo (fun d => at_ l (mate d)) l.length l.length).2 := by
  unfold cycs
  rw [dual_len, cycTo_congr (f := fun d => at_ l (mate d)) (g := at_ (dual l)) (fun d hd => at_of_row hd) (fun d hd => at_lt h.2.2.2 (mate_lt h.2.2.1 hd)) _ (Nat.le_refl _)]
theorem cycs_le {l : List Int} : (cycs l).length ≤ l.length := cycTo_len _ _ _
theorem parts_le {l : List Int} : parts l ≤ l.length := by
  unfold parts
  have := Cls.tally_le (ring l) (List.range l.length)
  rwa [List.length_range] at this
theorem tdiv2 (x : Int) : -(x.natAbs : Int) ≤ x.tdiv 2 ∧ x.tdiv 2 ≤ (x.natAbs : Int) := by
  cases x with
  | ofNat m =>
    have : (Int.ofNat m).tdiv 2 = ((m / 2 : Nat) : Int) := rfl
    rw [this, show (Int.ofNat m).natAbs = m from rfl]; omega
  | negSucc m =>
    have : (Int.negSucc m).tdiv 2 = -(((m + 1) / 2 : Nat) : Int) := rfl
    rw [this, show (Int.negSucc m).natAbs = m + 1 from rfl]; omega
end Mp

set_option maxRecDepth 10000 in
set_option maxHeartbeats 2000000 in
theorem spec_l6Genus (a : Option Addr) (c : Nat) (l : List Int) (w : World) (ha : RowAt w a (intCells l)) (hM : Mp.IsM l) :
    Calls Try.prog 57 #[.slice a l.length c] w fun e w' => e = .returned (.int .i64 (Mp.genus l)) ∧ Below w.heap.size w w' := by
  have hn := hM.2.1
  have hp := fun W (h : RowAt W a (intCells l)) => spec_l6Parts a c l W h hM
  have hc1 := fun W (h : RowAt W a (intCells l)) => spec_l6Cycles a c l W h hM
  have hx := fun W (h : RowAt W a (intCells l)) => spec_l6Dual a c l W h hM
  have hc2 := fun a' c' W (h : RowAt W a' (intCells (Mp.dual l))) => spec_l6Cycles a' c' (Mp.dual l) W h (Mp.dual_isM hM)
  have hl1 : (Mp.cycles l).length = (Mp.cycs l).length := Mp.natRows_len _
  have hl2 : (Mp.cycles (Mp.dual l)).length = (Mp.cycs (Mp.dual l)).length := Mp.natRows_len _
  have b1 : (Mp.cycs l).length ≤ 24 := Nat.le_trans Mp.cycs_le hn
  have b2 : (Mp.cycs (Mp.dual l)).length ≤ 24 := Nat.le_trans Mp.cycs_le (by rw [Mp.dual_len]; exact hn)
  have b3 : Mp.parts l ≤ 24 := Nat.le_trans Mp.parts_le hn
  have hv : Mp.genus l = (Mp.parts l : Int) - (((Mp.cycs l).length : Int) - ((l.length / 2 : Nat) : Int) + ((Mp.cycs (Mp.dual l)).length : Int)).tdiv 2 := rfl
  rw [← hl1] at hv b1
  rw [← hl2] at hv b2
  generalize Mp.genus l = V at *
  have ht : Int.tdiv (l.length : Int) 2 = ((l.length / 2 : Nat) : Int) := rfl
  have hw : IntKind.i64.wrap ((l.length / 2 : Nat) : Int) = ((l.length / 2 : Nat) : Int) := wrap_small (by omega) (by omega)
  have hh : l.length / 2 ≤ 12 := by omega
  generalize hm : l.length / 2 = m at *
  generalize Mp.cycles l = C1 at *
  generalize Mp.cycles (Mp.dual l) = C2 at *
  generalize Mp.dual l = D at *
  generalize Mp.parts l = P at *
  have w1 : IntKind.i64.wrap ((C1.length : Int) - (m : Int)) = (C1.length : Int) - (m : Int) := wrap_small (by omega) (by omega)
  have w2 : IntKind.i64.wrap ((C1.length : Int) - (m : Int) + (C2.length : Int)) = (C1.length : Int) - (m : Int) + (C2.length : Int) := wrap_small (by omega) (by omega)
  have hb := Mp.tdiv2 ((C1.length : Int) - (m : Int) + (C2.length : Int))
  have w3 : IntKind.i64.wrap (((C1.length : Int) - (m : Int) + (C2.length : Int)).tdiv 2) = ((C1.length : Int) - (m : Int) + (C2.length : Int)).tdiv 2 := wrap_small (by omega) (by omega)
  have w4 : IntKind.i64.wrap ((P : Int) - ((C1.length : Int) - (m : Int) + (C2.length : Int)).tdiv 2) = V := by rw [hv]; exact wrap_small (by omega) (by omega)
  have Hp := Lib.hid hp; have Hc1 := Lib.hid hc1; have Hx := Lib.hid hx; have Hc2 := Lib.hid hc2; have Ha := Lib.hid ha
  clear hp hc1 hx hc2 ha hM hv hb hl1 hl2 hm
  go_enter Try.func57, Try.ntmps57
  go_wp2_with fail
  refine (Hp.out _ Ha.out).mono ?_
  rintro e u1 ⟨rfl, hb1⟩
  have Hb1 := Lib.hid hb1; clear hb1
  go_wp2_with fail
  refine (Hc1.out _ (Ha.out.below Hb1.out)).mono ?_
  rintro e u2 ⟨r1, k1, rfl, _, _, _, hb2⟩
  have Hb2 := Lib.hid (Hb1.out.trans (hb2.mono Hb1.out.size)); clear hb2
  go_wp2_with fail
  refine (Hx.out _ (Ha.out.below Hb2.out)).mono ?_
  rintro e u3 ⟨r2, k2, rfl, _, _, hfx, hb3⟩
  have Hb3 := Lib.hid (Hb2.out.trans (hb3.mono Hb2.out.size)); have Hfx := Lib.hid hfx.row; clear hb3 hfx
  go_wp2_with fail
  refine (Hc2.out _ _ _ Hfx.out).mono ?_
  rintro e u4 ⟨r3, k3, rfl, _, _, _, hb4⟩
  have Hb4 := Lib.hid (Hb3.out.trans (hb4.mono Hb3.out.size)); clear hb4
  go_wp2
  go_ret
  exact ⟨by first | rfl | simp [*], Hb4.out⟩


set_option maxRecDepth 10000 in
set_option maxHeartbeats 2000000 in
theorem impl_GenusOf (a : Option Addr) (c : Nat) (l : List Int) (w : World) (ha : RowAt w a (intCells l)) (hl : l.length ≤ 1048576) :
    Calls Try.prog 51 #[.slice a l.length c] w fun e w' => e = .returned (.int .i64 (Mp.genusOf l)) ∧ Below w.heap.size w w' := by
  by_cases hM : Mp.IsM l
  · have hmap := impl_mapOf_yes a c l w ha hM
    have hn := hM.2.1
    have hp := fun p lo W (h : MapAt W lo p (Mp.at_ l) l.length) => impl_countParts p lo l W h hM
    have hc1 := fun p lo W (h : MapAt W lo p (Mp.at_ l) l.length) => impl_cycles p lo l.length (Mp.at_ l) W h (fun d hd => Mp.at_lt hM.2.2.2 hd) hn
    have he := fun p lo W (h : MapAt W lo p (Mp.at_ l) l.length) => impl_countEdges p lo l.length (Mp.at_ l) W h (by omega)
    have hx := fun p lo W (h : MapAt W lo p (Mp.at_ l) l.length) => impl_dual p lo l.length _ W h hn hM.2.2.1
    have hc2 := fun p lo W (h : MapAt W lo p (fun d => Mp.at_ l (Mp.mate d)) l.length) => impl_cycles p lo l.length (fun d => Mp.at_ l (Mp.mate d)) W h (fun d hd => Mp.at_lt hM.2.2.2 (Mp.mate_lt hM.2.2.1 hd)) hn
    have hl1 : (Mp.natRows (Mp.cycTo (Mp.at_ l) l.length l.length).2).length = (Mp.cycs l).length := Mp.natRows_len _
    have hl2 : (Mp.natRows (Mp.cycTo (fun d => Mp.at_ l (Mp.mate d)) l.length l.length).2).length = (Mp.cycs (Mp.dual l)).length := by rw [Mp.natRows_len, Mp.cycs_dual hM]
    have b1 : (Mp.cycs l).length ≤ 24 := Nat.le_trans Mp.cycs_le hn
    have b2 : (Mp.cycs (Mp.dual l)).length ≤ 24 := Nat.le_trans Mp.cycs_le (by rw [Mp.dual_len]; exact hn)
    have b3 : Mp.parts l ≤ 24 := Nat.le_trans Mp.parts_le hn
    have hv : Mp.genusOf l = (Mp.parts l : Int) - (((Mp.cycs l).length : Int) - ((l.length / 2 : Nat) : Int) + ((Mp.cycs (Mp.dual l)).length : Int)).tdiv 2 := if_pos hM
    rw [← hl1] at hv b1
    rw [← hl2] at hv b2
    generalize Mp.genusOf l = V at *
    have hh : l.length / 2 ≤ 12 := by omega
    generalize hm : l.length / 2 = m at *
    generalize Mp.natRows (Mp.cycTo (Mp.at_ l) l.length l.length).2 = C1 at *
    generalize Mp.natRows (Mp.cycTo (fun d => Mp.at_ l (Mp.mate d)) l.length l.length).2 = C2 at *
    generalize Mp.parts l = P at *
    have w1 : IntKind.i64.wrap ((C1.length : Int) - (m : Int)) = (C1.length : Int) - (m : Int) := wrap_small (by omega) (by omega)
    have w2 : IntKind.i64.wrap ((C1.length : Int) - (m : Int) + (C2.length : Int)) = (C1.length : Int) - (m : Int) + (C2.length : Int) := wrap_small (by omega) (by omega)
    have hb := Mp.tdiv2 ((C1.length : Int) - (m : Int) + (C2.length : Int))
    have w3 : IntKind.i64.wrap (((C1.length : Int) - (m : Int) + (C2.length : Int)).tdiv 2) = ((C1.length : Int) - (m : Int) + (C2.length : Int)).tdiv 2 := wrap_small (by omega) (by omega)
    have w4 : IntKind.i64.wrap ((P : Int) - ((C1.length : Int) - (m : Int) + (C2.length : Int)).tdiv 2) = V := by rw [hv]; exact wrap_small (by omega) (by omega)
    have Hp := Lib.hid hp; have Hc1 := Lib.hid hc1; have Hx := Lib.hid hx; have Hc2 := Lib.hid hc2; have He := Lib.hid he; have Hmap := Lib.hid hmap
    clear hp hc1 hx hc2 ha hM hv hb hl1 hl2 hm he hmap
    go_enter Try.func51, Try.ntmps51
    go_wp2_with fail
    refine Hmap.out.mono ?_
    rintro e u0 ⟨⟨p, rfl, hm⟩, hb0⟩
    have Hb0 := Lib.hid hb0; have Hm := Lib.hid hm; clear hb0 hm
    go_wp2_with fail
    refine (Hc1.out _ _ _ Hm.out).mono ?_
    rintro e u1 ⟨r1, k1, rfl, _, _, _, hb1⟩
    have Hb1 := Lib.hid (Hb0.out.trans (hb1.mono Hb0.out.size)); have Hm1 := Lib.hid (Hm.out.below hb1); clear hb1
    go_wp2_with fail
    refine (He.out _ _ _ Hm1.out).mono ?_
    rintro e u2 ⟨rfl, hu2⟩
    rw [hu2]; clear hu2
    go_wp2_with fail
    refine (Hx.out _ _ _ Hm1.out).mono ?_
    rintro e u3 ⟨⟨q, rfl, hq⟩, hb3⟩
    have Hb3 := Lib.hid (Hb1.out.trans (hb3.mono Hb1.out.size)); have Hm3 := Lib.hid (Hm1.out.below hb3); have Hq := Lib.hid hq; clear hb3 hq
    go_wp2_with fail
    refine (Hc2.out _ _ _ Hq.out).mono ?_
    rintro e u4 ⟨r3, k3, rfl, _, _, _, hb4⟩
    have Hb4 := Lib.hid (Hb3.out.trans (hb4.mono Hb3.out.size)); have Hm4 := Lib.hid (Hm3.out.below hb4); clear hb4
    go_wp2_with fail
    refine (Hp.out _ _ _ Hm4.out).mono ?_
    rintro e u5 ⟨rfl, hb5⟩
    have Hb5 := Lib.hid (Hb4.out.trans (hb5.mono Hb4.out.size)); clear hb5
    go_wp2
    go_ret
    exact ⟨by first | rfl | simp [*], Hb5.out⟩
  · have hc := impl_mapOf_no a c l w ha hl hM
    have hf : Mp.genusOf l = -1 := if_neg hM
    rw [hf]
    have Hc := Lib.hid hc
    clear hc hM hf ha
    go_enter Try.func51, Try.ntmps51
    go_wp2_with fail
    refine Hc.out.mono ?_
    rintro e w1 ⟨rfl, hb⟩
    go_wp2
    go_ret
    exact ⟨rfl, hb⟩
end Go.Proofs.Ytpgdmbolckogcaa
