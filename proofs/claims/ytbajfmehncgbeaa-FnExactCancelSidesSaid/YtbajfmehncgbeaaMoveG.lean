/-
  The walks of CancelSides: the program's at every argument, and the model's.
-/
import Derived.Test.YtbajfmehncgbeaaBase
import Derived.Test.YtbajfmehncgbeaaSlice
import Derived.Test.YtbajfmehncgbeaaIntRow
import Derived.Test.YtbajfmehncgbeaaInts
import Derived.Test.YtbajfmehncgbeaaOwn
import Derived.Test.YtbajfmehncgbeaaGrid
import Derived.Test.YtbajfmehncgbeaaGridWalk
import Derived.Test.YtbajfmehncgbeaaGridRows
import Derived.Test.YtbajfmehncgbeaaWord
import Derived.Test.YtbajfmehncgbeaaGlue
import Derived.Test.YtbajfmehncgbeaaIsWord
import Derived.Test.YtbajfmehncgbeaaIsGluing
import Derived.Test.YtbajfmehncgbeaaAppend
import Derived.Test.YtbajfmehncgbeaaTurn
import Derived.Test.YtbajfmehncgbeaaMove
import Derived.Test.YtbajfmehncgbeaaMoveA
import Derived.Test.YtbajfmehncgbeaaMoveB
import Derived.Test.YtbajfmehncgbeaaMoveC
import Derived.Test.YtbajfmehncgbeaaMoveF
import Derived.Deep.QuietTactic
import Derived.BigQuiet
import Derived.Deep.RegionLaw
namespace Go.Proofs.Ytbajfmehncgbeaa
open Go.RowKit

namespace Mv
theorem cancel_no {L : List (List Int)} {p i : Int} (h : ¬ CancelOk L p i) : cancel L p i = [] := if_neg h
theorem turn_zero {l : List Int} {i : Nat} {x : Int} (h : l[i]? = some x) : (Word.turn l (i : Int))[0]? = some x := by
  obtain ⟨hi, _⟩ := List.getElem?_eq_some_iff.1 h
  have hm : (i : Int) % (l.length : Int) = ((i : Nat) : Int) := Int.emod_eq_of_lt (by omega) (by omega)
  rw [turn_at hm, List.getElem?_append_left (by simp; omega), List.getElem?_drop]; simpa using h
theorem turn_one {l : List Int} {i : Nat} {y : Int} (hi : i < l.length) (h2 : 2 ≤ l.length) (h : l[next l.length i]? = some y) : (Word.turn l (i : Int))[1]? = some y := by
  have hm : (i : Int) % (l.length : Int) = ((i : Nat) : Int) := Int.emod_eq_of_lt (by omega) (by omega)
  rw [turn_at hm]
  rcases Nat.lt_or_ge (i + 1) l.length with h1 | h1
  · rw [next_in h1] at h
    rw [List.getElem?_append_left (by simp; omega), List.getElem?_drop]; exact h
  · have h' : i + 1 = l.length := by omega
    rw [next_end h'] at h
    rw [List.getElem?_append_right (by simp; omega), List.length_drop, show 1 - (l.length - i) = 0 by omega, List.getElem?_take]
    simp; exact ⟨by omega, h⟩
theorem turn_two {l : List Int} {i : Nat} (h : i + 1 = l.length) (h3 : 3 ≤ l.length) : (Word.turn l (i : Int)).drop 2 = rest l i := by
  have hm : (i : Int) % (l.length : Int) = ((i : Nat) : Int) := Int.emod_eq_of_lt (by omega) (by omega)
  rw [turn_at hm]
  unfold rest; rw [if_neg (by omega), List.drop_append]
  rw [List.drop_eq_nil_of_le (by simp; omega), List.nil_append, List.length_drop, show 2 - (l.length - i) = 1 by omega]
  rw [List.drop_take]; congr 1; omega
theorem rest_in {l : List Int} {i : Nat} (h : i + 1 < l.length) : rest l i = l.take i ++ l.drop (i + 2) := if_pos h
end Mv
set_option maxRecDepth 10000 in
set_option maxHeartbeats 1000000 in
theorem impl_CancelSides (a : Option Addr) (c : Nat) (L : List (List Int)) (p i : Int) (w : World) (ha : GridC w a L) (hl : tot L ≤ 1048576) (_hp0 : -9223372036854775808 ≤ p) (_hp1 : p ≤ 9223372036854775807) (_hi0 : -9223372036854775808 ≤ i) (_hi1 : i ≤ 9223372036854775807) :
    Calls Try.prog 32 #[.slice a L.length c, .int .i64 p, .int .i64 i] w fun e w' => GivesRows2 w (Mv.cancel L p i) (decide (Mv.CancelOk L p i)) e w' := by
  by_cases hH : Mv.Has L p
  · obtain ⟨P, rfl⟩ : ∃ P : Nat, p = (P : Int) := ⟨p.toNat, by have := hH.2.1; omega⟩
    by_cases hin : 3 ≤ (Mv.row L (P : Int)).length ∧ 0 ≤ i ∧ i < ((Mv.row L (P : Int)).length : Int)
    · obtain ⟨I, rfl⟩ : ∃ I : Nat, i = (I : Int) := ⟨i.toNat, by omega⟩
      exact impl_CancelSides_in a c L P I w ha hl hH hin.1 (by omega)
    · have hn : ¬ Mv.CancelOk L (P : Int) i := fun h => hin ⟨h.2.1, h.2.2.1, h.2.2.2.1⟩
      rw [Mv.cancel_no hn, decide_eq_false hn]
      have hHc := impl_hasPolygon a c L (P : Int) w ha.grid hl
      rw [decide_eq_true hH] at hHc
      have hP : P < L.length := by have := hH.lt; omega
      have hPi : (P : Int) < (L.length : Int) := by omega
      have hget : L[P]? = some (Mv.row L (P : Int)) := by have := hH.get; simpa using this
      have hrow : (Mv.row L (P : Int)).length ≤ 20 := hH.tot
      obtain ⟨b, o, ai, ci, rfl, hci, hcell0, hrw⟩ := ha.cell hget
      generalize Mv.row L (P : Int) = r at *
      have Hcell0 := Lib.hid hcell0
      clear hget ha hcell0 hrw hn hH
      by_cases h3 : (r.length : Int) < 3
      · have d3 : decide ((r.length : Int) < 3) = true := decide_eq_true h3
        have HHc := Lib.hid hHc; clear hHc
        go_enter Try.func32, Try.ntmps32
        go_wp2_with fail
        refine HHc.out.mono ?_
        rintro e w1 ⟨rfl, hb1⟩
        have hcell := Hcell0.out w1 hb1
        go_wp2
        go_ret2
        exact GivesRows2.none hb1 (Nat.zero_le _)
      · have d3 : decide ((r.length : Int) < 3) = false := decide_eq_false h3
        by_cases h4 : i < 0
        · have d4 : decide (i < 0) = true := decide_eq_true h4
          have HHc := Lib.hid hHc; clear hHc
          go_enter Try.func32, Try.ntmps32
          go_wp2_with fail
          refine HHc.out.mono ?_
          rintro e w1 ⟨rfl, hb1⟩
          have hcell := Hcell0.out w1 hb1
          go_wp2
          go_ret2
          exact GivesRows2.none hb1 (Nat.zero_le _)
        · have d4 : decide (i < 0) = false := decide_eq_false h4
          have d5 : decide ((r.length : Int) ≤ i) = true := decide_eq_true (by omega)
          have HHc := Lib.hid hHc; clear hHc
          go_enter Try.func32, Try.ntmps32
          go_wp2_with fail
          refine HHc.out.mono ?_
          rintro e w1 ⟨rfl, hb1⟩
          have hcell := Hcell0.out w1 hb1
          go_wp2
          go_ret2
          exact GivesRows2.none hb1 (Nat.zero_le _)
  · have hn : ¬ Mv.CancelOk L p i := fun h => hH h.1
    rw [Mv.cancel_no hn, decide_eq_false hn]
    have hHc := impl_hasPolygon a c L p w ha.grid hl
    rw [decide_eq_false hH] at hHc
    have HHc := Lib.hid hHc; clear hHc
    go_enter Try.func32, Try.ntmps32
    go_wp2_with fail
    refine HHc.out.mono ?_
    rintro e w1 ⟨rfl, hb1⟩
    go_wp2
    go_ret2
    exact GivesRows2.none hb1 (Nat.zero_le _)
set_option maxRecDepth 10000 in
set_option maxHeartbeats 4000000 in
theorem spec_CancelSides_in (a : Option Addr) (c : Nat) (L : List (List Int)) (P I : Nat) (w : World) (ha : GridC w a L) (hl : tot L ≤ 1048576) (hH : Mv.Has L (P : Int)) (h3 : 3 ≤ (Mv.row L (P : Int)).length) (hI : I < (Mv.row L (P : Int)).length) :
    Calls Try.prog 33 #[.slice a L.length c, .int .i64 (P : Int), .int .i64 (I : Int)] w fun e w' => GivesRows2 w (Mv.cancel L (P : Int) (I : Int)) (decide (Mv.CancelOk L (P : Int) (I : Int))) e w' := by
  have hG := spec_IsGluing a c L w ha.grid hl
  rw [decide_eq_true hH.1] at hG
  have hP : P < L.length := by have := hH.lt; omega
  have hln : L.length ≤ 4 := hH.1.2.1
  have hPi : (P : Int) < (L.length : Int) := by omega
  have hXp := fun W => spec_l1In (P : Int) 0 ((L.length : Int) - 1) W
  rw [decide_eq_true (show (0 : Int) ≤ (P : Int) ∧ (P : Int) ≤ (L.length : Int) - 1 by omega)] at hXp
  have hXi := fun W => spec_l1In (I : Int) 0 (((Mv.row L (P : Int)).length : Int) - 1) W
  rw [decide_eq_true (show (0 : Int) ≤ (I : Int) ∧ (I : Int) ≤ ((Mv.row L (P : Int)).length : Int) - 1 by omega)] at hXi
  have hget : L[P]? = some (Mv.row L (P : Int)) := by have := hH.get; simpa using this
  have hrow : (Mv.row L (P : Int)).length ≤ 20 := hH.tot
  obtain ⟨b, o, ai, ci, rfl, hci, hcell0, hrw⟩ := ha.cell hget
  have Ha := Lib.hid ha.grid
  have hok : Mv.CancelOk L (P : Int) (I : Int) ↔ (Mv.row L (P : Int)).getD I 0 = -(Mv.row L (P : Int)).getD (Mv.next (Mv.row L (P : Int)).length I) 0 := by
    unfold Mv.CancelOk
    simp only [Int.toNat_natCast]
    exact ⟨fun h => h.2.2.2.2, fun h => ⟨hH, h3, by omega, by omega, h⟩⟩
  have hval : Mv.cancel L (P : Int) (I : Int) = if Mv.CancelOk L (P : Int) (I : Int) then L.set P (Mv.rest (Mv.row L (P : Int)) I) else [] := by
    unfold Mv.cancel; simp only [Int.toNat_natCast]
  rw [hval]
  have hisg : Mv.CancelOk L (P : Int) (I : Int) → Glue.IsG (L.set P (Mv.rest (Mv.row L (P : Int)) I)) := fun h => by have := Mv.cancel_isG h; simpa using this
  have hTu := fun W h1 => spec_l2Turn ai ci (Mv.row L (P : Int)) (I : Int) W h1 (by omega) hci (by omega) (by omega)
  have hWi := fun ra rc W (hb : Below w.heap.size w W) h2 => spec_l5With (some ⟨b, o, none⟩) ra c rc w.heap.size P L (Mv.rest (Mv.row L (P : Int)) I) W (Ha.out.below hb) hl hP h2
  have hlet := hH.ok.2.1
  generalize Mv.row L (P : Int) = r at *
  obtain ⟨x, hx⟩ := get_some hI
  obtain ⟨y, hy⟩ := get_some (show Mv.next r.length I < r.length from Mv.next_lt (by omega))
  have hgx : r.getD I 0 = x := by rw [List.getD_eq_getElem?_getD, hx]; rfl
  have hgy : r.getD (Mv.next r.length I) 0 = y := by rw [List.getD_eq_getElem?_getD, hy]; rfl
  rw [hgx, hgy] at hok
  have HT0 := Lib.hid (Mv.turn_zero hx); have HT1 := Lib.hid (Mv.turn_one hI (by omega) hy)
  have HT2 : Hid (I + 1 = r.length → (Word.turn r (I : Int)).drop 2 = Mv.rest r I) := Lib.hid (fun h => Mv.turn_two h h3)
  have HTl := Lib.hid (Word.turn_len r (I : Int))
  obtain ⟨hx0, hx1, hx2⟩ := hlet x (get_mem hx)
  obtain ⟨hy0, hy1, hy2⟩ := hlet y (get_mem hy)
  have hrw0 := hrw w (Below.refl _ _)
  obtain ⟨rb, ro, rfl, hrb, _⟩ := intCells_get? hrw0 hx
  have d3 : decide ((r.length : Int) < 3) = false := decide_eq_false (by omega)
  have hI0 : (0 : Int) ≤ (I : Int) := by omega
  have hI1 : (I : Int) < (r.length : Int) := by omega
  generalize Word.turn r (I : Int) = T at *
  have htl : T.length = r.length := HTl.out
  have HG := Lib.hid hG; have HXp := Lib.hid hXp; have HXi := Lib.hid hXi; have Hrw := Lib.hid hrw; have Hcell0 := Lib.hid hcell0
  have HTu : Hid (∀ W, RowAt W (some ⟨rb, ro, none⟩) (intCells r) → Calls Try.prog 76 #[.slice (some ⟨rb, ro, none⟩) r.length ci, .int .i64 (I : Int)] W fun e w' => ∃ a c, e = .returned (.slice a r.length c) ∧ r.length ≤ c ∧ Fresh w' W.heap.size 3 a (intCells T) ∧ Below W.heap.size W w') := Lib.hid (fun W h => (hTu W h).mono (fun e w' ⟨a, c, he, h1, _, h3, h4⟩ => ⟨a, c, by rw [he, htl], by rw [← htl]; exact h1, h3, h4⟩))
  have HRl : Hid ((intCells (Mv.rest r I)).length = r.length - 2) := Lib.hid (by rw [intCells_len, Mv.rest_len h3 hI])
  obtain ⟨i0, hi0, hz0, hz1, hz2⟩ := info_int_parts
  have Hi0 := Lib.hid hi0; have Hz0 := Lib.hid hz0; have Hz1 := Lib.hid hz1; have Hz2 := Lib.hid hz2
  have hc1 : 0 + (r.length - 2) ≤ maxLen := by unfold maxLen; omega
  have hc2 : (0 + (r.length - 2)) * 8 ≤ 140737488355328 := by omega
  clear hi0 hz0 hz1 hz2 hG hXp hXi hTu hrw hrw0 hcell0 ha hget hval hlet hH hx hy hgx hgy
  by_cases hxy : x = -y
  · have hk := hok.2 hxy
    have bxy : (x == -y) = true := beq_iff_eq.2 hxy
    have bxn : (x != -y) = false := by simp [hxy]
    have htt : tot (L.set P (Mv.rest r I)) ≤ 1048576 := Nat.le_trans (Mv.tot_of (hisg hk)) (by decide)
    have hwi := fun ra rc W hb => hWi ra rc W hb htt
    rw [decide_eq_true (hisg hk), if_pos (hisg hk)] at hwi
    rw [decide_eq_true hk, if_pos hk]
    have HWi := Lib.hid hwi
    clear hwi hWi hk hxy hok hisg
    by_cases hend : I + 1 = r.length
    · have dlt : decide ((I : Int) + 1 < (r.length : Int)) = false := decide_eq_false (by omega)
      have dln : decide (I + 1 < r.length) = false := decide_eq_false (by omega)
      have dlp : ¬ I + 1 < r.length := by omega
      have Hrest := Lib.hid (HT2.out hend)
      go_enter Try.func33, Try.ntmps33
      go_wp2_with fail
      refine HG.out.mono ?_
      rintro e w1 ⟨rfl, hb1⟩
      have hcell := Hcell0.out w1 hb1
      have Hb1 := Lib.hid hb1; clear hb1
      go_wp2_with fail
      refine (HXp.out _).mono ?_
      rintro e w8 ⟨rfl, hw9⟩
      rw [hw9]; clear hw9 w8
      go_wp2_with fail
      refine (HXi.out _).mono ?_
      rintro e w9 ⟨rfl, hw9⟩
      rw [hw9]; clear hw9 w9
      go_wp2_with fail
      refine (HTu.out w1 (Hrw.out w1 Hb1.out)).mono ?_
      rintro e w2 ⟨ta, tc, rfl, htc, hf, hb2⟩
      have Hb2 := Lib.hid (Hb1.out.trans (hb2.mono Hb1.out.size))
      have Htrow := Lib.hid hf.row
      obtain ⟨tb, to, rfl, htb, hcx⟩ := intCells_get? hf.row HT0.out
      obtain ⟨_, _, e1, _, hcy⟩ := intCells_get? hf.row HT1.out
      cases e1
      rw [Nat.add_zero] at hcx
      have hcell2 := Hcell0.out w2 Hb2.out
      have k0 : 0 < r.length := by omega
      have k1 : 1 < r.length := by omega
      have k2 : 2 ≤ r.length := by omega
      have k3 : (0 : Int) < (r.length : Int) := by omega
      have k4 : (1 : Int) < (r.length : Int) := by omega
      have k5 : (2 : Int) ≤ (r.length : Int) := by omega
      have k6 : ¬ tc = 2 := by omega
      have k7 : 2 ≤ tc := by omega
      clear hf hb2 hcell
      go_wp2
      go_quiet (fail)
      have Hb4 := Lib.hid (below_drewN Hb2.out nq)
      have HR4 : Hid (RowAt ((w2.drewN nq).alloc (.cells #[] 3)) (some ⟨tb, to + 2, none⟩) (intCells (Mv.rest r I))) := Lib.hid (by rw [← Hrest.out]; exact (row_drop Htrow.out).below ((below_drewN (Below.refl _ w2) nq).alloc (Nat.le_refl _) _))
      have hcell4 := Hcell0.out _ Hb4.out
      generalize w2.drewN nq = w4 at *
      go_wp2_with (at_builtin; refine append_row rfl (.tmp 87) (.tmp 88) 42 rfl w4.heap.size 3 i0 _ 8 Try.underlying42 Hi0.out Hz0.out Hz1.out Hz2.out (by rfl) _ 0 (intCells []) rfl (own_made rfl) _ (r.length - 2) _ (intCells (Mv.rest r I)) rfl HR4.out HRl.out (intCells_one _) hc1 hc2 (by simp) ?_; intro v1 w5 hown5 hg5; (try rw [Nat.zero_add] at hown5); have hb5 := Below.grown ((Below.refl w4.heap.size w4).alloc (Nat.le_refl _) _) hg5 (by simp) (fun k hk => by injection hk with hk; exact Nat.le_of_eq hk); have hfr := own_fresh hown5 (by have := HRl.out; simp only [List.length_append, intCells_len, List.length_nil, Nat.zero_add] at this ⊢; exact this); obtain ⟨va, vc, rfl, hvc, hvf⟩ := hfr; have Hb5 := Lib.hid (Hb4.out.trans (hb5.mono Hb4.out.size)); have Hf5 := Lib.hid ((RowIn.of_fresh hvf).mono Hb4.out.size (Nat.le_refl _)); have Hvc := Lib.hid hvc; clear hown5 hg5 hb5 hvf hvc)
      have hrl : Mv.rest r I = Mv.rest r I := rfl
      have Hlen : Hid ((Mv.rest r I).length = r.length - 2) := Lib.hid (by have := HRl.out; rwa [intCells_len] at this)
      have hW := HWi.out va vc w5 Hb5.out Hf5.out Hb5.out.size (by rw [Hlen.out]; exact Hvc.out)
      rw [Hlen.out] at hW
      go_wp2_with fail
      refine hW.mono ?_
      rintro e w6 ⟨v, rfl, hh, hb6⟩
      have Hh := Lib.hid hh; have Hb6 := Lib.hid (Hb5.out.trans (hb6.mono Hb5.out.size))
      clear hh hb6 hW
      go_wp2
      go_ret2
      exact Hh.out.gives Hb6.out
    · have dlt : decide ((I : Int) + 1 < (r.length : Int)) = true := decide_eq_true (by omega)
      have dln : decide (I + 1 < r.length) = true := decide_eq_true (by omega)
      have happ : intCells [] ++ intCells (r.take I) ++ intCells (r.drop (I + 2)) = intCells (Mv.rest r I) := by rw [Mv.rest_in (by omega)]; simp [intCells]
      have hsum : I + (r.length - (I + 2)) = r.length - 2 := by omega
      have hlen2 : (intCells [] ++ intCells (r.take I) ++ intCells (r.drop (I + 2))).length = r.length - 2 := by rw [happ]; exact HRl.out
      have Htake0 := Lib.hid (row_take (m := I) (Hrw.out w (Below.refl _ _)))
      have Hdrop0 := Lib.hid (row_drop (m := I + 2) (Hrw.out w (Below.refl _ _)))
      have Htl : Hid ((intCells (r.take I)).length = I) := Lib.hid (by rw [intCells_len, List.length_take]; omega)
      have Hdl : Hid ((intCells (r.drop (I + 2))).length = r.length - (I + 2)) := Lib.hid (by rw [intCells_len, List.length_drop])
      have ha1 : 0 + I ≤ maxLen := by unfold maxLen; omega
      have ha2 : (0 + I) * 8 ≤ 140737488355328 := by omega
      have ha3 : I + (r.length - (I + 2)) ≤ maxLen := by unfold maxLen; omega
      have ha4 : (I + (r.length - (I + 2))) * 8 ≤ 140737488355328 := by omega
      have m1 : I ≤ r.length := by omega
      have m2 : I + 2 ≤ r.length := by omega
      have m3 : (I : Int) + 2 ≤ (r.length : Int) := by omega
      have m4 : (0 : Int) ≤ (I : Int) + 2 := by omega
      have m5 : I ≤ ci := by omega
      have m7 : IntKind.i64.wrap ((I : Int) + 2) = (I : Int) + 2 := wrap_small (by omega) (by omega)
      have m8 : ((I : Int) + 2).toNat = I + 2 := by omega
      have m6 : I + 2 ≤ ci := by omega
      by_cases hce : ci = I + 2
      · have Hce := Lib.hid hce
        have Hnil : Hid (intCells (r.drop (I + 2)) = []) := Lib.hid (by rw [List.drop_eq_nil_of_le (by omega)]; rfl)
        clear hce
        go_enter Try.func33, Try.ntmps33
        go_wp2_with fail
        refine HG.out.mono ?_
        rintro e w1 ⟨rfl, hb1⟩
        have hcell := Hcell0.out w1 hb1
        have Hb1 := Lib.hid hb1; clear hb1
        go_wp2_with fail
        refine (HXp.out _).mono ?_
        rintro e w8 ⟨rfl, hw9⟩
        rw [hw9]; clear hw9 w8
        go_wp2_with fail
        refine (HXi.out _).mono ?_
        rintro e w9 ⟨rfl, hw9⟩
        rw [hw9]; clear hw9 w9
        go_wp2_with fail
        refine (HTu.out w1 (Hrw.out w1 Hb1.out)).mono ?_
        rintro e w2 ⟨ta, tc, rfl, htc, hf, hb2⟩
        have Hb2 := Lib.hid (Hb1.out.trans (hb2.mono Hb1.out.size))
        have Htrow := Lib.hid hf.row
        obtain ⟨tb, to, rfl, htb, hcx⟩ := intCells_get? hf.row HT0.out
        obtain ⟨_, _, e1, _, hcy⟩ := intCells_get? hf.row HT1.out
        cases e1
        rw [Nat.add_zero] at hcx
        have hcell2 := Hcell0.out w2 Hb2.out
        have k0 : 0 < r.length := by omega
        have k1 : 1 < r.length := by omega
        have k2 : 2 ≤ r.length := by omega
        have k3 : (0 : Int) < (r.length : Int) := by omega
        have k4 : (1 : Int) < (r.length : Int) := by omega
        have k5 : (2 : Int) ≤ (r.length : Int) := by omega
        have k6 : ¬ tc = 2 := by omega
        have k7 : 2 ≤ tc := by omega
        clear hf hb2 hcell
        go_wp2
        go_quiet (fail)
        have Hb3 := Lib.hid (below_drewN Hb2.out nq)
        have Htake := Lib.hid (Htake0.out.below Hb3.out)
        have hcell3 := Hcell0.out _ Hb3.out
        have hcellA := Hcell0.out _ (Hb3.out.alloc Hb3.out.size (.cells #[] 3))
        generalize w2.drewN nq = w3 at *
        go_wp2
        have hce := Hce.out
        have m9 : (I : Int) ≤ (I : Int) + 2 := by omega
        go_region_law (first
          | (refine step_append_row rfl (.tmp 68) (.tmp 74) 42 rfl w3.heap.size 3 i0 _ 8 Try.underlying42 Hi0.out Hz0.out Hz1.out Hz2.out (by rfl) _ 0 (intCells []) (by rfl) (own_made1 w3) _ I _ (intCells (r.take I)) (by rfl) (Htake.out.below (below_made1 w3)) Htl.out (intCells_one _) ha1 ha2 (by simp) ?_; intro v1 w5 hown1 hg1; rw [Nat.zero_add] at hown1; have hb5 := Below.grown (below_made1 w3) hg1 (by simp) (fun k hk => by injection hk with hk; exact Nat.le_of_eq hk); have hcell5 := Hcell0.out _ (Hb3.out.trans (hb5.mono Hb3.out.size)); obtain ⟨av1, cv1, rfl⟩ := own_len hown1)
          | (refine step_append_row rfl (.tmp 75) (.tmp 82) 42 rfl w3.heap.size 3 i0 _ 8 Try.underlying42 Hi0.out Hz0.out Hz1.out Hz2.out (by rfl) _ _ _ (by rfl) hown1 _ (r.length - (I + 2)) _ (intCells (r.drop (I + 2))) (by rfl) (Or.inl Hnil.out) Hdl.out (intCells_one _) ha3 ha4 hb5.size ?_; intro v2 w4 hown2 hg2; rw [hsum] at hown2; have hb4 := Below.grown hb5 hg2 hb5.size (fun k hk => (hown1.lt k hk).1); have hfr2 := own_fresh hown2 hlen2; obtain ⟨av2, cv2, rfl, _, hf2⟩ := hfr2; have HR4 := Lib.hid (hf2.row.below ((Below.refl w4.heap.size w4).alloc (Nat.le_refl _) (.cells #[] 3))); rw [happ] at HR4; have Hb4 := Lib.hid (Hb3.out.trans (hb4.mono Hb3.out.size)); clear hown1 hown2 hg1 hg2 hf2 hb4 hb5))
        all_goals
          go_wp2_with (at_builtin; refine append_row rfl (.tmp 87) (.tmp 88) 42 rfl w4.heap.size 3 i0 _ 8 Try.underlying42 Hi0.out Hz0.out Hz1.out Hz2.out (by rfl) _ 0 (intCells []) rfl (own_made rfl) _ (r.length - 2) _ (intCells (Mv.rest r I)) rfl HR4.out HRl.out (intCells_one _) hc1 hc2 (by simp) ?_; intro v1 w5 hown5 hg5; (try rw [Nat.zero_add] at hown5); have hb5 := Below.grown ((Below.refl w4.heap.size w4).alloc (Nat.le_refl _) _) hg5 (by simp) (fun k hk => by injection hk with hk; exact Nat.le_of_eq hk); have hfr := own_fresh hown5 (by have := HRl.out; simp only [List.length_append, intCells_len, List.length_nil, Nat.zero_add] at this ⊢; exact this); obtain ⟨va, vc, rfl, hvc, hvf⟩ := hfr; have Hb5 := Lib.hid (Hb4.out.trans (hb5.mono Hb4.out.size)); have Hf5 := Lib.hid ((RowIn.of_fresh hvf).mono Hb4.out.size (Nat.le_refl _)); have Hvc := Lib.hid hvc; clear hown5 hg5 hb5 hvf hvc)
          have hrl : Mv.rest r I = Mv.rest r I := rfl
          have Hlen : Hid ((Mv.rest r I).length = r.length - 2) := Lib.hid (by have := HRl.out; rwa [intCells_len] at this)
          have hW := HWi.out va vc w5 Hb5.out Hf5.out Hb5.out.size (by rw [Hlen.out]; exact Hvc.out)
          rw [Hlen.out] at hW
          go_wp2_with fail
          refine hW.mono ?_
          rintro e w6 ⟨v, rfl, hh, hb6⟩
          have Hh := Lib.hid hh; have Hb6 := Lib.hid (Hb5.out.trans (hb6.mono Hb5.out.size))
          clear hh hb6 hW
          go_wp2
          go_ret2
          exact Hh.out.gives Hb6.out
      · skip
        go_enter Try.func33, Try.ntmps33
        go_wp2_with fail
        refine HG.out.mono ?_
        rintro e w1 ⟨rfl, hb1⟩
        have hcell := Hcell0.out w1 hb1
        have Hb1 := Lib.hid hb1; clear hb1
        go_wp2_with fail
        refine (HXp.out _).mono ?_
        rintro e w8 ⟨rfl, hw9⟩
        rw [hw9]; clear hw9 w8
        go_wp2_with fail
        refine (HXi.out _).mono ?_
        rintro e w9 ⟨rfl, hw9⟩
        rw [hw9]; clear hw9 w9
        go_wp2_with fail
        refine (HTu.out w1 (Hrw.out w1 Hb1.out)).mono ?_
        rintro e w2 ⟨ta, tc, rfl, htc, hf, hb2⟩
        have Hb2 := Lib.hid (Hb1.out.trans (hb2.mono Hb1.out.size))
        have Htrow := Lib.hid hf.row
        obtain ⟨tb, to, rfl, htb, hcx⟩ := intCells_get? hf.row HT0.out
        obtain ⟨_, _, e1, _, hcy⟩ := intCells_get? hf.row HT1.out
        cases e1
        rw [Nat.add_zero] at hcx
        have hcell2 := Hcell0.out w2 Hb2.out
        have k0 : 0 < r.length := by omega
        have k1 : 1 < r.length := by omega
        have k2 : 2 ≤ r.length := by omega
        have k3 : (0 : Int) < (r.length : Int) := by omega
        have k4 : (1 : Int) < (r.length : Int) := by omega
        have k5 : (2 : Int) ≤ (r.length : Int) := by omega
        have k6 : ¬ tc = 2 := by omega
        have k7 : 2 ≤ tc := by omega
        clear hf hb2 hcell
        go_wp2
        go_quiet (fail)
        have Hb3 := Lib.hid (below_drewN Hb2.out nq)
        have Htake := Lib.hid (Htake0.out.below Hb3.out)
        have Hdrop := Lib.hid (Hdrop0.out.below Hb3.out)
        have hcell3 := Hcell0.out _ Hb3.out
        have hcellA := Hcell0.out _ (Hb3.out.alloc Hb3.out.size (.cells #[] 3))
        generalize w2.drewN nq = w3 at *
        go_wp2
        go_region_law (first
          | (refine step_append_row rfl (.tmp 68) (.tmp 74) 42 rfl w3.heap.size 3 i0 _ 8 Try.underlying42 Hi0.out Hz0.out Hz1.out Hz2.out (by rfl) _ 0 (intCells []) (by rfl) (own_made1 w3) _ I _ (intCells (r.take I)) (by rfl) (Htake.out.below (below_made1 w3)) Htl.out (intCells_one _) ha1 ha2 (by simp) ?_; intro v1 w5 hown1 hg1; rw [Nat.zero_add] at hown1; have hb5 := Below.grown (below_made1 w3) hg1 (by simp) (fun k hk => by injection hk with hk; exact Nat.le_of_eq hk); have hcell5 := Hcell0.out _ (Hb3.out.trans (hb5.mono Hb3.out.size)); obtain ⟨av1, cv1, rfl⟩ := own_len hown1)
          | (refine step_append_row rfl (.tmp 75) (.tmp 82) 42 rfl w3.heap.size 3 i0 _ 8 Try.underlying42 Hi0.out Hz0.out Hz1.out Hz2.out (by rfl) _ _ _ (by rfl) hown1 _ (r.length - (I + 2)) _ (intCells (r.drop (I + 2))) (by rfl) (Hdrop.out.below hb5) Hdl.out (intCells_one _) ha3 ha4 hb5.size ?_; intro v2 w4 hown2 hg2; rw [hsum] at hown2; have hb4 := Below.grown hb5 hg2 hb5.size (fun k hk => (hown1.lt k hk).1); have hfr2 := own_fresh hown2 hlen2; obtain ⟨av2, cv2, rfl, _, hf2⟩ := hfr2; have HR4 := Lib.hid (hf2.row.below ((Below.refl w4.heap.size w4).alloc (Nat.le_refl _) (.cells #[] 3))); rw [happ] at HR4; have Hb4 := Lib.hid (Hb3.out.trans (hb4.mono Hb3.out.size)); clear hown1 hown2 hg1 hg2 hf2 hb4 hb5))
        all_goals
          go_wp2_with (at_builtin; refine append_row rfl (.tmp 87) (.tmp 88) 42 rfl w4.heap.size 3 i0 _ 8 Try.underlying42 Hi0.out Hz0.out Hz1.out Hz2.out (by rfl) _ 0 (intCells []) rfl (own_made rfl) _ (r.length - 2) _ (intCells (Mv.rest r I)) rfl HR4.out HRl.out (intCells_one _) hc1 hc2 (by simp) ?_; intro v1 w5 hown5 hg5; (try rw [Nat.zero_add] at hown5); have hb5 := Below.grown ((Below.refl w4.heap.size w4).alloc (Nat.le_refl _) _) hg5 (by simp) (fun k hk => by injection hk with hk; exact Nat.le_of_eq hk); have hfr := own_fresh hown5 (by have := HRl.out; simp only [List.length_append, intCells_len, List.length_nil, Nat.zero_add] at this ⊢; exact this); obtain ⟨va, vc, rfl, hvc, hvf⟩ := hfr; have Hb5 := Lib.hid (Hb4.out.trans (hb5.mono Hb4.out.size)); have Hf5 := Lib.hid ((RowIn.of_fresh hvf).mono Hb4.out.size (Nat.le_refl _)); have Hvc := Lib.hid hvc; clear hown5 hg5 hb5 hvf hvc)
          have hrl : Mv.rest r I = Mv.rest r I := rfl
          have Hlen : Hid ((Mv.rest r I).length = r.length - 2) := Lib.hid (by have := HRl.out; rwa [intCells_len] at this)
          have hW := HWi.out va vc w5 Hb5.out Hf5.out Hb5.out.size (by rw [Hlen.out]; exact Hvc.out)
          rw [Hlen.out] at hW
          go_wp2_with fail
          refine hW.mono ?_
          rintro e w6 ⟨v, rfl, hh, hb6⟩
          have Hh := Lib.hid hh; have Hb6 := Lib.hid (Hb5.out.trans (hb6.mono Hb5.out.size))
          clear hh hb6 hW
          go_wp2
          go_ret2
          exact Hh.out.gives Hb6.out
  · have hk : ¬ Mv.CancelOk L (P : Int) (I : Int) := fun h => hxy (hok.1 h)
    have bxy : (x == -y) = false := beq_eq_false_iff_ne.2 hxy
    have bxn : (x != -y) = true := by simp [hxy]
    rw [decide_eq_false hk, if_neg hk]
    clear hWi hk hok hisg
    go_enter Try.func33, Try.ntmps33
    go_wp2_with fail
    refine HG.out.mono ?_
    rintro e w1 ⟨rfl, hb1⟩
    have hcell := Hcell0.out w1 hb1
    have Hb1 := Lib.hid hb1; clear hb1
    go_wp2_with fail
    refine (HXp.out _).mono ?_
    rintro e w8 ⟨rfl, hw9⟩
    rw [hw9]; clear hw9 w8
    go_wp2_with fail
    refine (HXi.out _).mono ?_
    rintro e w9 ⟨rfl, hw9⟩
    rw [hw9]; clear hw9 w9
    go_wp2_with fail
    refine (HTu.out w1 (Hrw.out w1 Hb1.out)).mono ?_
    rintro e w2 ⟨ta, tc, rfl, htc, hf, hb2⟩
    have Hb2 := Lib.hid (Hb1.out.trans (hb2.mono Hb1.out.size))
    have Htrow := Lib.hid hf.row
    obtain ⟨tb, to, rfl, htb, hcx⟩ := intCells_get? hf.row HT0.out
    obtain ⟨_, _, e1, _, hcy⟩ := intCells_get? hf.row HT1.out
    cases e1
    rw [Nat.add_zero] at hcx
    have hcell2 := Hcell0.out w2 Hb2.out
    have k0 : 0 < r.length := by omega
    have k1 : 1 < r.length := by omega
    have k2 : 2 ≤ r.length := by omega
    have k3 : (0 : Int) < (r.length : Int) := by omega
    have k4 : (1 : Int) < (r.length : Int) := by omega
    have k5 : (2 : Int) ≤ (r.length : Int) := by omega
    have k6 : ¬ tc = 2 := by omega
    have k7 : 2 ≤ tc := by omega
    clear hf hb2 hcell
    go_wp2
    go_quiet (fail)
    go_wp2
    go_ret2
    exact GivesRows2.none ((below_drewN Hb2.out nq).alloc (Nat.le_trans Hb2.out.size (Nat.le_refl _)) _) (Nat.zero_le _)
end Go.Proofs.Ytbajfmehncgbeaa
