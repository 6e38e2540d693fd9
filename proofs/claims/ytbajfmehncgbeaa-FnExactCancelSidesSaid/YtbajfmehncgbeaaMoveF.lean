/-
  The walk of the program's CancelSides.
-/
import Derived.Test.YtbajfmehncgbeaaBase
import Derived.Test.YtbajfmehncgbeaaSlice
import Derived.Test.YtbajfmehncgbeaaIntRow
import Derived.Test.YtbajfmehncgbeaaInts
import Derived.Test.YtbajfmehncgbeaaOwn
import Derived.Test.YtbajfmehncgbeaaGrid
import Derived.Test.YtbajfmehncgbeaaGridWalk
import Derived.Test.YtbajfmehncgbeaaGridRows
import Derived.Test.YtbajfmehncgbeaaWord
import Derived.Test.YtbajfmehncgbeaaGlue
import Derived.Test.YtbajfmehncgbeaaIsWord
import Derived.Test.YtbajfmehncgbeaaIsGluing
import Derived.Test.YtbajfmehncgbeaaMove
import Derived.Test.YtbajfmehncgbeaaMoveA
import Derived.Test.YtbajfmehncgbeaaMoveB
import Derived.Deep.QuietTactic
import Derived.BigQuiet
namespace Go.Proofs.Ytbajfmehncgbeaa
open Go.RowKit

namespace Mv
/-- What stands of the first sides without two. -/
def pre (l : List Int) (i k : Nat) : List Int := if i + 1 < l.length then l.take (min k i) ++ (l.drop (i + 2)).take (k - (i + 2)) else (l.drop 1).take (min (k - 1) (l.length - 2))
theorem pre_zero (l : List Int) (i : Nat) : pre l i 0 = [] := by unfold pre; split <;> simp
theorem pre_all {l : List Int} {i : Nat} (hi : i < l.length) : pre l i l.length = rest l i := by
  unfold pre rest; split
  · rw [Nat.min_eq_right (by omega), List.take_of_length_le (l := l.drop (i + 2)) (by simp)]
  · rw [Nat.min_eq_right (by omega)]
theorem next_in {n i : Nat} (h : i + 1 < n) : next n i = i + 1 := Nat.mod_eq_of_lt h
theorem next_end {n i : Nat} (h : i + 1 = n) : next n i = 0 := by unfold next; rw [h, Nat.mod_self]
theorem next_lt {n i : Nat} (h : 0 < n) : next n i < n := Nat.mod_lt _ h
theorem take_snoc {l : List Int} {k : Nat} {x : Int} (h : l[k]? = some x) : l.take (k + 1) = l.take k ++ [x] := by
  obtain ⟨hk, rfl⟩ := List.getElem?_eq_some_iff.1 h
  exact List.take_succ_eq_append_getElem hk
theorem pre_keep {l : List Int} {i k : Nat} {x : Int} (hi : i < l.length) (hk : l[k]? = some x) (h1 : k ≠ i) (h2 : k ≠ next l.length i) : pre l i (k + 1) = pre l i k ++ [x] := by
  have hkl : k < l.length := (List.getElem?_eq_some_iff.1 hk).1
  unfold pre; split
  · rename_i h
    rw [next_in h] at h2
    rcases Nat.lt_or_ge k i with h3 | h3
    · rw [Nat.min_eq_left (by omega), Nat.min_eq_left (by omega), show k + 1 - (i + 2) = 0 by omega, show k - (i + 2) = 0 by omega, take_snoc hk]; simp
    · rw [Nat.min_eq_right (by omega), Nat.min_eq_right (by omega), show k + 1 - (i + 2) = (k - (i + 2)) + 1 by omega, take_snoc (l := l.drop (i + 2)) (k := k - (i + 2)) (x := x) (by rw [List.getElem?_drop, show i + 2 + (k - (i + 2)) = k by omega]; exact hk), List.append_assoc]
  · rename_i h
    have h' : i + 1 = l.length := by omega
    rw [next_end h'] at h2
    rw [Nat.min_eq_left (by omega), Nat.min_eq_left (by omega), show k + 1 - 1 = (k - 1) + 1 by omega, take_snoc (l := l.drop 1) (k := k - 1) (x := x) (by rw [List.getElem?_drop, show 1 + (k - 1) = k by omega]; exact hk)]
theorem pre_skip {l : List Int} {i k : Nat} (hi : i < l.length) (hl : 3 ≤ l.length) (h : k = i ∨ k = next l.length i) : pre l i (k + 1) = pre l i k := by
  unfold pre; split
  · rename_i h1
    rw [next_in h1] at h
    rcases h with rfl | rfl
    · rw [Nat.min_eq_right (by omega), Nat.min_eq_right (by omega), show k + 1 - (k + 2) = 0 by omega, show k - (k + 2) = 0 by omega]
    · rw [Nat.min_eq_right (by omega), Nat.min_eq_right (by omega), show i + 1 + 1 - (i + 2) = 0 by omega, show i + 1 - (i + 2) = 0 by omega]
  · rename_i h1
    have h' : i + 1 = l.length := by omega
    rw [next_end h'] at h
    congr 1
    rcases h with rfl | rfl <;> omega
theorem pre_len (l : List Int) (i k : Nat) : (pre l i k).length ≤ l.length := by
  unfold pre; split
  · simp; omega
  · simp; omega
end Mv

set_option maxRecDepth 10000 in
set_option maxHeartbeats 2000000 in
theorem impl_CancelSides_in (a : Option Addr) (c : Nat) (L : List (List Int)) (P I : Nat) (w : World) (ha : GridC w a L) (hl : tot L ≤ 1048576) (hH : Mv.Has L (P : Int)) (h3 : 3 ≤ (Mv.row L (P : Int)).length) (hI : I < (Mv.row L (P : Int)).length) :
    Calls Try.prog 32 #[.slice a L.length c, .int .i64 (P : Int), .int .i64 (I : Int)] w fun e w' => GivesRows2 w (Mv.cancel L (P : Int) (I : Int)) (decide (Mv.CancelOk L (P : Int) (I : Int))) e w' := by
  have hHc := impl_hasPolygon a c L (P : Int) w ha.grid hl
  rw [decide_eq_true hH] at hHc
  have hP : P < L.length := by have := hH.lt; omega
  have hPi : (P : Int) < (L.length : Int) := by omega
  have hget : L[P]? = some (Mv.row L (P : Int)) := by have := hH.get; simpa using this
  have hrow : (Mv.row L (P : Int)).length ≤ 20 := hH.tot
  obtain ⟨b, o, ai, ci, rfl, hci, hcell0, hrw⟩ := ha.cell hget
  have Ha := Lib.hid ha.grid
  have hWi := fun ra rc r W (hb : Below w.heap.size w W) => impl_withPolygon (some ⟨b, o, none⟩) ra c rc w.heap.size P L r W (Ha.out.below hb) hl hP
  have hok : Mv.CancelOk L (P : Int) (I : Int) ↔ (Mv.row L (P : Int)).getD I 0 = -(Mv.row L (P : Int)).getD (Mv.next (Mv.row L (P : Int)).length I) 0 := by
    unfold Mv.CancelOk
    simp only [Int.toNat_natCast]
    exact ⟨fun h => h.2.2.2.2, fun h => ⟨hH, h3, by omega, by omega, h⟩⟩
  have hval : Mv.cancel L (P : Int) (I : Int) = if Mv.CancelOk L (P : Int) (I : Int) then L.set P (Mv.rest (Mv.row L (P : Int)) I) else [] := by
    unfold Mv.cancel; simp only [Int.toNat_natCast]
  rw [hval]
  have hlet := hH.ok.2.1
  generalize Mv.row L (P : Int) = r at *
  obtain ⟨nx, hnx⟩ : ∃ nx, Mv.next r.length I = nx := ⟨_, rfl⟩
  have hnl : nx < r.length := by rw [← hnx]; exact Mv.next_lt (by omega)
  obtain ⟨x, hx⟩ := get_some hI
  obtain ⟨y, hy⟩ := get_some hnl
  have hgx : r.getD I 0 = x := by rw [List.getD_eq_getElem?_getD, hx]; rfl
  have hgy : r.getD nx 0 = y := by rw [List.getD_eq_getElem?_getD, hy]; rfl
  rw [hnx, hgx, hgy] at hok
  have hmod : ((I : Int) + 1) % (r.length : Int) = (nx : Int) := by
    rw [← hnx]; unfold Mv.next; push_cast; rfl
  obtain ⟨hx0, hx1, hx2⟩ := hlet x (get_mem hx)
  obtain ⟨hy0, hy1, hy2⟩ := hlet y (get_mem hy)
  have hrw0 := hrw w (Below.refl _ _)
  obtain ⟨rb, ro, rfl, hrb, _⟩ := intCells_get? hrw0 hx
  have HHc := Lib.hid hHc; have Hrw := Lib.hid hrw; have Hcell0 := Lib.hid hcell0; have HWi := Lib.hid hWi; have Hnx := Lib.hid hnx; have Hx := Lib.hid hx; have Hy := Lib.hid hy; have Hci := Lib.hid hci; have Hlet := Lib.hid hlet
  have d3 : decide ((r.length : Int) < 3) = false := decide_eq_false (by omega)
  have dI : decide ((I : Int) < 0) = false := decide_eq_false (by omega)
  have dIl : decide ((r.length : Int) ≤ (I : Int)) = false := decide_eq_false (by omega)
  have dIn : decide (r.length ≤ I) = false := decide_eq_false (by omega)
  have hI0 : (0 : Int) ≤ (I : Int) := by omega
  have hI1 : (I : Int) < (r.length : Int) := by omega
  have hn0 : (0 : Int) ≤ (nx : Int) := by omega
  have hn1 : (nx : Int) < (r.length : Int) := by omega
  clear hHc hrw hrw0 hcell0 hWi ha hget hval hlet hH hnx hx hy hgx hgy hci
  by_cases hxy : x = -y
  · have hk := hok.2 hxy
    have bxy : (x == -y) = true := beq_iff_eq.2 hxy
    have bxn : (x != -y) = false := by simp [hxy]
    rw [decide_eq_true hk, if_pos hk]
    have Hxy := Lib.hid hxy
    obtain ⟨i0, hi0, hz0, hz1, hz2⟩ := info_int_parts
    have Hi0 := Lib.hid hi0; have Hz0 := Lib.hid hz0; have Hz1 := Lib.hid hz1; have Hz2 := Lib.hid hz2
    clear hi0 hz0 hz1 hz2 hk hxy hok
    go_enter Try.func32, Try.ntmps32
    go_wp2_with fail
    refine HHc.out.mono ?_
    rintro e w1 ⟨rfl, hb1⟩
    have hcell := Hcell0.out w1 hb1
    obtain ⟨_, _, e1, _, hcx⟩ := intCells_get? (Hrw.out w1 hb1) Hx.out
    cases e1
    obtain ⟨_, _, e1, _, hcy⟩ := intCells_get? (Hrw.out w1 hb1) Hy.out
    cases e1
    have Hb1 := Lib.hid hb1; clear hb1
    go_wp2
    go_quiet (fail)
    have Hmod := Lib.hid hmod; clear hmod
    go_wp2
    clear hcx hcy hcell
    generalize ((I : Int) + 1) % (r.length : Int) = z0 at *
    go_loopw [10, 11, 12, 59] (fun ov _ _ kv wr => ∃ k : Nat, k ≤ r.length ∧ kv = .int .i64 k ∧ Hid (Below w.heap.size w wr) ∧ wr.ownsRow w.heap.size 3 1 ov (Mv.pre r I k).length (intCells (Mv.pre r I k))) (fun _ _ _ kv _ => r.length - (intOf kv).toNat)
    case atStart => exact ⟨0, by omega, rfl, Lib.hid (below_drewN Hb1.out _), by rw [Mv.pre_zero]; exact World.ownsRow_nil _ _ _ _⟩
    case round =>
      obtain ⟨k, hk, rfl, hb, hown⟩ := hrel
      by_cases hlt : k < r.length
      · obtain ⟨z, hz⟩ := get_some hlt
        obtain ⟨_, _, e1, _, hcz⟩ := intCells_get? (Hrw.out wr hb.out) hz
        cases e1
        have hpl := Mv.pre_len r I k
        by_cases h1 : k = I
        · subst h1
          have Hst := Lib.hid (Mv.pre_skip hI h3 (Or.inl rfl))
          have Hown := Lib.hid hown
          obtain ⟨av, cv, rfl⟩ := own_len hown
          clear hz hown
          go_wp2
          go_roundw
          case rel => exact ⟨k + 1, by omega, by go_num, hb, by rw [Hst.out]; exact Hown.out⟩
          case measure => simp [intOf]; omega
        · have b1 : ((k : Int) != (I : Int)) = true := by simp; omega
          by_cases h2 : k = nx
          · have h0 : z0 = (k : Int) := by rw [Hmod.out, h2]
            subst h0
            subst h2
            have Hst := Lib.hid (Mv.pre_skip hI h3 (Or.inr Hnx.out.symm))
            have Hown := Lib.hid hown
            obtain ⟨av, cv, rfl⟩ := own_len hown
            clear hz hown
            go_wp2
            go_roundw
            case rel => exact ⟨k + 1, by omega, by go_num, hb, by rw [Hst.out]; exact Hown.out⟩
            case measure => simp [intOf]; omega
          · have b2 : ¬ (k : Int) = z0 := by rw [Hmod.out]; omega
            have b3 : ((k : Int) != z0) = true := by simpa using b2
            have Hst := Lib.hid (Mv.pre_keep hI hz h1 (fun e => h2 (e.trans Hnx.out)))
            have hNle : w.heap.size ≤ wr.heap.size := hb.out.size
            generalize hl' : Mv.pre r I k = R at *
            have Hl' := Lib.hid hl'
            have hc1 : R.length + 1 ≤ maxLen := by unfold maxLen; omega
            have hc2 : (R.length + 1) * 8 ≤ 140737488355328 := by omega
            obtain ⟨av, cv, rfl⟩ := own_len hown
            clear hz hl'
            go_wp2_with (at_builtin; refine append_one rfl (.tmp 72) (.tmp 74) 42 rfl w.heap.size 3 i0 _ 8 Try.underlying42 Hi0.out Hz0.out Hz1.out Hz2.out (by rfl) _ _ _ rfl hown (by rfl) _ rfl hc1 hc2 hNle ?_; intro v1 w3 hown1 hg1 _)
            go_roundw
            case rel =>
              refine ⟨k + 1, by omega, by go_num, Lib.hid (Below.grown (hb.out.alloc hNle _) hg1 (by simp; omega) (fun k hk => (hown.lt k hk).1)), by rw [Hst.out, List.length_append, ← intCells_snoc]; exact hown1⟩
            case measure => simp [intOf]; omega
      · obtain rfl : k = r.length := by omega
        rw [Mv.pre_all hI] at hown
        obtain ⟨va, vc, rfl, hvc, hvf⟩ := own_fresh hown (by rw [intCells_len])
        have Hf := Lib.hid (RowIn.of_fresh hvf); have Hvc := Lib.hid hvc
        clear hown hvf hvc
        go_wp2_with fail
        refine (HWi.out va vc (Mv.rest r I) wr hb.out Hf.out hb.out.size Hvc.out).mono ?_
        rintro e w3 ⟨v, rfl, hh, hb3⟩
        have Hh := Lib.hid hh; have Hb3 := Lib.hid (hb.out.trans (hb3.mono hb.out.size))
        clear hh hb3
        go_wp2
        go_ret2
        exact Hh.out.gives Hb3.out
  · have hk : ¬ Mv.CancelOk L (P : Int) (I : Int) := fun h => hxy (hok.1 h)
    have bxy : (x == -y) = false := beq_eq_false_iff_ne.2 hxy
    have bxn : (x != -y) = true := by simp [hxy]
    rw [decide_eq_false hk, if_neg hk]
    have Hxy := Lib.hid hxy
    clear hk hxy hok
    go_enter Try.func32, Try.ntmps32
    go_wp2_with fail
    refine HHc.out.mono ?_
    rintro e w1 ⟨rfl, hb1⟩
    have hcell := Hcell0.out w1 hb1
    obtain ⟨_, _, e1, _, hcx⟩ := intCells_get? (Hrw.out w1 hb1) Hx.out
    cases e1
    obtain ⟨_, _, e1, _, hcy⟩ := intCells_get? (Hrw.out w1 hb1) Hy.out
    cases e1
    have Hb1 := Lib.hid hb1; clear hb1
    go_wp2
    go_quiet (fail)
    go_wp2
    go_ret2
    exact GivesRows2.none (below_drewN Hb1.out _) (Nat.zero_le _)
end Go.Proofs.Ytbajfmehncgbeaa
