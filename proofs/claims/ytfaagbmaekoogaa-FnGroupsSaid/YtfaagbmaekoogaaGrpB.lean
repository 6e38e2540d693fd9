/-
  The walk of relatorAlong: the relator or its inverse, turned so that it begins with the longest part with which a word begins.
-/
import Derived.Test.YtfaagbmaekoogaaBase
import Derived.Test.YtfaagbmaekoogaaSlice
import Derived.Test.YtfaagbmaekoogaaInts
import Derived.Test.YtfaagbmaekoogaaOwn
import Derived.Test.YtfaagbmaekoogaaWord
import Derived.Test.YtfaagbmaekoogaaIsWord
import Derived.Test.YtfaagbmaekoogaaLab
import Derived.Test.YtfaagbmaekoogaaTurn
import Derived.Test.YtfaagbmaekoogaaInvert
import Derived.Test.YtfaagbmaekoogaaAm
import Derived.Test.YtfaagbmaekoogaaGrpA
import Derived.Deep.QuietTactic
import Derived.BigQuiet
namespace Go.Proofs.Ytfaagbmaekoogaa
open Go.RowKit

namespace Dn
theorem lcp_comm : ∀ (v r : List Int), lcp v r = lcp r v
  | [], [] => rfl
  | [], _ :: _ => rfl
  | _ :: _, [] => rfl
  | x :: v, y :: r => by
    unfold lcp
    by_cases h : x = y
    · rw [if_pos h, if_pos h.symm, lcp_comm v r]
    · rw [if_neg h, if_neg (fun e => h e.symm)]
theorem idxOf_eq {x : Int} : ∀ (l : List Int) (i : Nat), (∀ j, j < i → l[j]? ≠ some x) → l[i]? = some x → l.idxOf x = i
  | [], i, _, h => by simp at h
  | y :: l, 0, _, h => by simp at h; subst h; simp
  | y :: l, i + 1, hn, h => by
    have h0 : y ≠ x := fun e => hn 0 (by omega) (by simp [e])
    have := idxOf_eq l i (fun j hj => by have := hn (j + 1) (by omega); simpa using this) (by simpa using h)
    have hb : (y == x) = false := beq_eq_false_iff_ne.2 h0
    rw [List.idxOf_cons, hb, cond_false, this]
/-- After i of the two ways around. -/
def along (g x : Int) (v : List Int) (i : Nat) : Nat × List Int := ((List.range i).map fun t => around g x (t == 1)).foldl (pick v) (0, [])
theorem along_succ (g x : Int) (v : List Int) (i : Nat) : along g x v (i + 1) = pick v (along g x v i) (around g x (i == 1)) := by
  unfold along; rw [List.range_succ, List.map_append, List.foldl_append]; rfl
theorem along_two {g x : Int} (hg : Gr g) {v : List Int} (hx : v[0]? = some x) (hl : Let g x) : along g x v 2 = bestTo g v (8 * g).toNat := by
  cases v with
  | nil => simp at hx
  | cons y v => simp at hx; subst hx; rw [around_best hg hl]; rfl
theorem along_le (g x : Int) (v : List Int) (i : Nat) : (along g x v i).1 ≤ v.length ∧ (along g x v i).1 ≤ (along g x v i).2.length :=
  fold_le v _ ⟨Nat.zero_le _, Nat.zero_le _⟩
theorem in_rel {g x : Int} (hg : Gr g) (hx : Let g x) : x ∈ rel g ∧ x ∈ Word.inv (rel g) := by
  obtain ⟨⟨h0, _, _⟩, h3⟩ := hx
  rcases gr_cases hg with rfl | rfl
  · have : x = -2 ∨ x = -1 ∨ x = 1 ∨ x = 2 := by omega
    rcases this with rfl | rfl | rfl | rfl <;> decide
  · have : x = -4 ∨ x = -3 ∨ x = -2 ∨ x = -1 ∨ x = 1 ∨ x = 2 ∨ x = 3 ∨ x = 4 := by omega
    rcases this with rfl | rfl | rfl | rfl | rfl | rfl | rfl | rfl <;> decide
end Dn
/-- The call gives these integers, in memory of its own, and a number. -/
def GivesN (w : World) (l : List Int) (n : Nat) (e : Ending) (w' : World) : Prop := ∃ a c, e = .returned (.tuple #[.slice a l.length c, .int .i64 (n : Int)]) ∧ l.length ≤ c ∧ c ≤ maxLen ∧ Fresh w' w.heap.size 3 a (intCells l) ∧ Below w.heap.size w w'

set_option maxRecDepth 10000 in
set_option maxHeartbeats 1000000 in
theorem lib_IndexOf (a : Option Addr) (cap : Nat) (l : List Int) (x : Int) (w : World) (ha : RowAt w a (intCells l)) (hl : l.length ≤ 1000000) (hx : x ∈ l) :
    Calls Try.prog 147 #[.slice a l.length cap, .int .i64 x] w fun e w' => e = .returned (.int .i64 (l.idxOf x : Nat)) ∧ w' = w := by
  have Ha := Lib.hid ha; clear ha
  have HX := Lib.hid hx; clear hx
  go_enter Try.func147, Try.ntmps147
  go_wp2
  go_loopw [5, 8] (fun _ iv wr => ∃ i : Nat, i ≤ l.length ∧ iv = .int .i64 i ∧ Hid (∀ j, j < i → l[j]? ≠ some x) ∧ wr = w) (fun _ iv _ => l.length - (intOf iv).toNat)
  case atStart => exact ⟨0, by omega, rfl, Lib.hid (fun _ h => by omega), rfl⟩
  case round =>
    obtain ⟨i, hi, rfl, hno, rfl⟩ := hrel
    by_cases hlt : i < l.length
    · obtain ⟨y, hy⟩ := get_some hlt
      obtain ⟨b, o, rfl, hbw, hcell⟩ := intCells_get? Ha.out hy
      have Hy := Lib.hid hy; clear hy
      by_cases he : x = y
      · have heq : (x == y) = true := by simp [he]
        have Hd := Lib.hid (Dn.idxOf_eq l i hno.out (by rw [Hy.out, he]))
        clear he
        go_wp2
        go_ret
        exact ⟨by rw [Hd.out]; rfl, rfl⟩
      · have heq : (x == y) = false := by simp [he]
        have Hne := Lib.hid he
        clear he
        go_wp2
        go_roundw
        case rel => exact ⟨i + 1, by omega, by go_num, Lib.hid (fun j hj => by
          rcases Nat.lt_or_ge j i with h | h
          · exact hno.out j h
          · obtain rfl : j = i := by omega
            rw [Hy.out]; intro e; exact Hne.out (Option.some.inj e).symm), trivial⟩
        case measure => simp [intOf]; omega
    · exfalso
      obtain rfl : i = l.length := by omega
      obtain ⟨j, hj, e⟩ := List.mem_iff_getElem.1 HX.out
      exact hno.out j hj (by rw [List.getElem?_eq_getElem hj, e])

theorem impl_InverseRel (a : Option Addr) (c : Nat) (g : Int) (w : World) (ha : RowAt w a (intCells (Dn.rel g))) :
    Calls Try.prog 99 #[.slice a (Dn.rel g).length c] w fun e w' => Gives w (Word.inv (Dn.rel g)) e w' := by
  have h := impl_InverseWord a c (Dn.rel g) w ha (Nat.le_trans (Dn.rel_len8 g) (by decide))
  rwa [inverse_of (Dn.rel_w g)] at h
set_option maxRecDepth 10000 in
set_option maxHeartbeats 2000000 in
theorem impl_relatorAlong (g x : Int) (a : Option Addr) (c : Nat) (v : List Int) (w : World) (hg : Dn.Gr g) (ha : RowAt w a (intCells v)) (hv : v.length ≤ 1000) (hx : v[0]? = some x) (hlx : Dn.Let g x) :
    Calls Try.prog 121 #[.int .i64 g, .slice a v.length c] w fun e w' => GivesN w (Dn.bestTo g v (8 * g).toNat).2 (Dn.bestTo g v (8 * g).toNat).1 e w' := by
  rw [← Dn.along_two hg hx hlx]
  have hlen := (List.getElem?_eq_some_iff.1 hx).1
  obtain ⟨hin1, hin2⟩ := Dn.in_rel hg hlx
  obtain ⟨b0, o0, rfl, hb0, hc0⟩ := intCells_get? ha hx
  rw [Nat.add_zero] at hc0
  have Hg := Lib.hid hg; have Hx := Lib.hid hx; have Hlx := Lib.hid hlx; have Hin1 := Lib.hid hin1; have Hin2 := Lib.hid hin2
  have Ha := Lib.hid ha; have Hc0 := Lib.hid hc0
  clear hg hx hlx hin1 hin2 ha hc0
  go_enter Try.func121, Try.ntmps121
  go_wp2_with fail
  refine (impl_Relator g w).mono ?_
  rintro e w1 ⟨ra, rc, rfl, hrc, hrcm, hfr, hb1⟩
  have Hfr := Lib.hid hfr; have Hb1 := Lib.hid hb1
  clear hfr hb1
  go_wp2_with fail
  refine (impl_InverseRel ra rc g w1 Hfr.out.row).mono ?_
  rintro e w2 ⟨ia, ic, rfl, hic, hicm, hfi, hb2⟩
  have Hfi := Lib.hid hfi; have Hb2 := Lib.hid hb2
  clear hfi hb2
  obtain ⟨w3, hw3⟩ : ∃ w3, w3 = w2.alloc (.cells #[.slice ra (Dn.rel g).length rc, .slice ia (Word.inv (Dn.rel g)).length ic] 42) := ⟨_, rfl⟩
  have hb3 : Below w.heap.size w w3 := by rw [hw3]; exact (Hb1.out.trans (Hb2.out.mono Hb1.out.size)).alloc (Nat.le_trans Hb1.out.size Hb2.out.size) _
  have hblk : Blk w3 w2.heap.size 42 #[.slice ra (Dn.rel g).length rc, .slice ia (Word.inv (Dn.rel g)).length ic] := by rw [hw3]; exact Blk.new w2 _ _
  have hr1 : RowAt w3 ra (intCells (Dn.rel g)) := by
    have := Hfr.out.row.below Hb2.out
    rw [hw3]; exact this.below ((Below.refl _ _).alloc (Nat.le_refl _) _)
  have hr2 : RowAt w3 ia (intCells (Word.inv (Dn.rel g))) := by rw [hw3]; exact Hfi.out.row.below ((Below.refl _ _).alloc (Nat.le_refl _) _)
  have Hb3 := Lib.hid hb3; have Hblk := Lib.hid hblk; have Hr1 := Lib.hid hr1; have Hr2 := Lib.hid hr2; have Hw3 := Lib.hid hw3
  clear hb3 hblk hr1 hr2 hw3
  go_wp2
  rw [← Hw3.out]
  generalize hH : w2.heap.size = H at *
  have HH := Lib.hid hH; clear hH
  go_loopw [6, 7, 10, 11, 12, 20] (fun sv lv _ _ _ iv wr => ∃ i : Nat, ∃ sa sc, i ≤ 2 ∧ iv = .int .i64 i ∧ lv = .int .i64 (Dn.along g x v i).1 ∧ sv = .slice sa (Dn.along g x v i).2.length sc ∧ Hid ((Dn.along g x v i).2.length ≤ sc ∧ sc ≤ maxLen ∧ Fresh wr w.heap.size 3 sa (intCells (Dn.along g x v i).2) ∧ Below w3.heap.size w3 wr)) (fun _ _ _ _ _ iv _ => 2 - (intOf iv).toNat)
  case atStart => exact ⟨0, none, 0, by omega, rfl, rfl, rfl, Lib.hid ⟨Nat.le_refl _, Nat.zero_le _, Or.inl rfl, Below.refl _ _⟩⟩
  case round =>
    obtain ⟨i, sa, sc, hi, rfl, rfl, rfl, hh⟩ := hrel
    by_cases hlt : i < 2
    · have hb := hh.out.2.2.2
      have hbw := Hb3.out.trans (hb.mono Hb3.out.size)
      have hpart : ∃ pa pc lst, wr.cell? ⟨H, i, none⟩ = some (.slice pa (lst : List Int).length pc) ∧ RowAt wr pa (intCells lst) ∧ lst.length ≤ pc ∧ Word.IsW lst ∧ lst.length ≤ 8 ∧ x ∈ lst ∧ Word.turn lst (lst.idxOf x : Nat) = Dn.around g x (i == 1) := by
        have hblk' := Hblk.out.below hb Hblk.out.lt
        rcases (show i = 0 ∨ i = 1 by omega) with rfl | rfl
        · exact ⟨ra, rc, Dn.rel g, by rw [hblk'.cell 0]; rfl, Hr1.out.below hb, hrc, Dn.rel_w g, Dn.rel_len8 g, Hin1.out, rfl⟩
        · refine ⟨ia, ic, Word.inv (Dn.rel g), by rw [hblk'.cell 1]; rfl, Hr2.out.below hb, hic, ?_, by rw [Word.inv_len]; exact Dn.rel_len8 g, Hin2.out, rfl⟩
          exact ⟨Dn.inv_letters (p := Word.Letter) (fun y hy => ⟨by have := hy.1; omega, by have := hy.2.2; omega, by have := hy.2.1; omega⟩) (Dn.rel_w g).1, by rw [Word.inv_len]; exact (Dn.rel_w g).2⟩
      obtain ⟨pa, pc, lst, hcell, hrow, hlc, hW, hl8, hmem, hturn⟩ := hpart
      have hc0 : wr.cell? ⟨b0, o0, none⟩ = some (.int .i64 x) := by rw [hbw.cell (p := ⟨b0, o0, none⟩) hb0]; exact Hc0.out
      have Hrow := Lib.hid hrow; have HW := Lib.hid hW; have Hmem := Lib.hid hmem; have Hturn := Lib.hid hturn; have Hlc := Lib.hid hlc; have Hl8 := Lib.hid hl8; have Hbw := Lib.hid hbw
      clear hrow hW hmem hturn hlc hl8 hbw hb
      have dlt : decide ((i : Int) < 2) = true := decide_eq_true (by omega)
      have hidx := List.idxOf_lt_length_of_mem Hmem.out
      have Hidx := Lib.hid hidx; clear hidx
      go_wp2_with fail
      refine (lib_IndexOf pa pc lst x wr Hrow.out (Nat.le_trans Hl8.out (by decide)) Hmem.out).mono ?_
      rintro e w4 ⟨rfl, hw4⟩
      rw [hw4]; clear hw4 w4
      go_wp2_with fail
      refine (impl_TurnWord pa pc lst (lst.idxOf x : Nat) wr Hrow.out (Nat.le_trans Hl8.out (by decide)) Hlc.out (by omega) (by have := Hidx.out; have := Hl8.out; omega)).mono ?_
      rw [turned_of HW.out, Hturn.out]
      rintro e w4 ⟨ta, tc, rfl, htc, htcm, hft, hb4⟩
      have hal := Dn.along_succ g x v i
      have hale := Dn.along_le g x v i
      have hlen8 : (Dn.around g x (i == 1)).length ≤ 8 := by rw [← Hturn.out, Word.turn_len]; exact Hl8.out
      have hlcp := Dn.lcp_comm (Dn.around g x (i == 1)) v
      have hlcpl := Dn.lcp_le_left v (Dn.around g x (i == 1))
      generalize Dn.around g x (i == 1) = T at *
      generalize Dn.along g x v i = p at *
      obtain ⟨p1, p2⟩ := p
      simp only at hh hale
      have Hft := Lib.hid hft; have Hb4 := Lib.hid hb4; have Hal := Lib.hid hal; have Hlcp := Lib.hid hlcp
      clear hft hb4 hal hlcp
      go_wp2_with fail
      refine (impl_commonBeginning ta (some ⟨b0, o0, none⟩) tc c T v w4 Hft.out.row ((Ha.out.below Hbw.out).below Hb4.out) (by omega) hv).mono ?_
      rw [Hlcp.out]
      rintro e w5 ⟨rfl, hb5⟩
      have Hb5 := Lib.hid hb5; clear hb5
      obtain ⟨h1, h2, h3, h4⟩ := hh.out
      have hbe : Hid (Below w3.heap.size w3 w5) := Lib.hid ((h4.trans (Hb4.out.mono h4.size)).trans (Hb5.out.mono (Nat.le_trans h4.size Hb4.out.size)))
      have hf1 : Hid (Fresh w5 w.heap.size 3 sa (intCells p2)) := Lib.hid ((h3.below Hb4.out).below Hb5.out)
      have hf2 : Hid (Fresh w5 w.heap.size 3 ta (intCells T)) := Lib.hid ((Hft.out.below Hb5.out).mono Hbw.out.size)
      clear h1 h2 h3 h4
      by_cases hbest : p1 < Dn.lcp v T
      · have Hnew := Lib.hid (show Dn.along g x v (i + 1) = (Dn.lcp v T, T) by rw [Hal.out]; unfold Dn.pick; rw [if_pos hbest])
        have dbest : decide (p1 < Dn.lcp v T) = true := decide_eq_true hbest
        generalize Dn.lcp v T = m at *
        go_wp2
        go_roundw
        case rel => exact ⟨i + 1, ta, tc, by omega, by go_num, by rw [Hnew.out], by rw [Hnew.out], Lib.hid (by rw [Hnew.out]; exact ⟨htc, htcm, hf2.out, hbe.out⟩)⟩
        case measure => simp [intOf]; omega
      · have Hnew := Lib.hid (show Dn.along g x v (i + 1) = (p1, p2) by rw [Hal.out]; unfold Dn.pick; rw [if_neg hbest])
        have dbest : decide (p1 < Dn.lcp v T) = false := decide_eq_false hbest
        generalize Dn.lcp v T = m at *
        go_wp2
        go_roundw
        case rel => exact ⟨i + 1, sa, sc, by omega, by go_num, by rw [Hnew.out], by rw [Hnew.out], Lib.hid (by rw [Hnew.out]; exact ⟨hh.out.1, hh.out.2.1, hf1.out, hbe.out⟩)⟩
        case measure => simp [intOf]; omega
    · have Hi := Lib.hid (show i = 2 by omega)
      have dlt : decide ((i : Int) < 2) = false := decide_eq_false (by omega)
      go_wp2
      go_ret2
      rw [← Hi.out]
      exact ⟨_, _, rfl, hh.out.1, hh.out.2.1, hh.out.2.2.1, Hb3.out.trans (hh.out.2.2.2.mono Hb3.out.size)⟩
end Go.Proofs.Ytfaagbmaekoogaa
