/-
  The walks of IsAction, the program's and the model's.
-/
import Derived.Test.YtpebgompfgkljaaBase
import Derived.Test.YtpebgompfgkljaaSlice
import Derived.Test.YtpebgompfgkljaaInts
import Derived.Test.YtpebgompfgkljaaOwn
import Derived.Test.YtpebgompfgkljaaWord
import Derived.Test.YtpebgompfgkljaaIsWord
import Derived.Test.YtpebgompfgkljaaReduce
import Derived.Test.YtpebgompfgkljaaGrid
import Derived.Test.YtpebgompfgkljaaClass
import Derived.Test.YtpebgompfgkljaaLab
import Derived.Test.YtpebgompfgkljaaMap
import Derived.Test.YtpebgompfgkljaaMapA
import Derived.Test.YtpebgompfgkljaaUses
import Derived.Test.YtpebgompfgkljaaSurf
import Derived.Test.YtpebgompfgkljaaCov
import Derived.Test.YtpebgompfgkljaaCovA
import Derived.Test.YtpebgompfgkljaaCovB
import Derived.Test.YtpebgompfgkljaaAm
import Derived.Test.YtpebgompfgkljaaGrpA
import Derived.Deep.QuietTactic
import Derived.Deep.RegionHeld3
import Derived.BigQuiet
import Derived.StillTailTactics
namespace Go.Proofs.Ytpebgompfgkljaa
open Go.RowKit

namespace Cv
/-- The word around the polygon of the surface below. -/
def rimW (g : Int) : List Int := Dn.rel (max 1 g)
theorem rimW_fits {g : Int} (hg : 0 ≤ g ∧ g ≤ 2) {L : List (List Int)} (hl : (L.length : Int) = 2 * max 1 g) : Upto L.length (rimW g) := by
  rcases (show g = 0 ∨ g = 1 ∨ g = 2 by omega) with rfl | rfl | rfl
  · have : L.length = 2 := by omega
    rw [this]; decide
  · have : L.length = 2 := by omega
    rw [this]; decide
  · have : L.length = 4 := by omega
    rw [this]; decide
theorem rim_same {L : List (List Int)} {w : List Int} {n : Nat} : row L w n = Cls.row id n ↔ ∀ s, s < n → act L w s = s := by
  constructor
  · intro h s hs
    have h1 : (row L w n)[s]? = some ((act L w s : Nat) : Int) := by simp [row, hs]
    rw [h, Cls.row_get hs] at h1
    have := Option.some.inj h1
    simp at this; omega
  · intro h
    unfold row Cls.row
    exact List.map_congr_left fun s hs => by rw [h s (List.mem_range.1 hs)]; rfl
theorem act_iff {g : Int} {L : List (List Int)} (hg : 0 ≤ g ∧ g ≤ 2) (hP : Perms L) (hl : (L.length : Int) = 2 * max 1 g) : Act g L ↔ (g = 0 ∨ row L (rimW g) (deg L) = Cls.row id (deg L)) := by
  unfold Act
  rw [rim_same]
  unfold rimW
  constructor
  · rintro ⟨_, _, _, h | h⟩
    · exact Or.inl h
    · rcases (show g = 0 ∨ 1 ≤ g by omega) with h0 | h0
      · exact Or.inl h0
      · right; rw [show max 1 g = g by omega]; exact h
  · intro h
    refine ⟨hg, hP, hl, ?_⟩
    rcases h with h | h
    · exact Or.inl h
    · rcases (show g = 0 ∨ 1 ≤ g by omega) with h0 | h0
      · exact Or.inl h0
      · right; rw [show max 1 g = g by omega] at h; exact h
end Cv

theorem fld0 (x y z : Int) (w : World) : (Instr.field 50 (.agg #[.int .i64 x, .int .i64 y, .int .i64 z]) 0).run Try.prog w = .ok (.int .i64 x) w := by kernel_rfl
theorem fld1 (x y z : Int) (w : World) : (Instr.field 50 (.agg #[.int .i64 x, .int .i64 y, .int .i64 z]) 1).run Try.prog w = .ok (.int .i64 y) w := by kernel_rfl
theorem fld2 (x y z : Int) (w : World) : (Instr.field 50 (.agg #[.int .i64 x, .int .i64 y, .int .i64 z]) 2).run Try.prog w = .ok (.int .i64 z) w := by kernel_rfl
theorem Cv.actW_len (L : List (List Int)) (w : List Int) : (Cv.actW L w).length ≤ 5 := by
  unfold Cv.actW
  split
  · rename_i h; rw [Cv.row_len]; exact h.1.2.2.2.2
  · simp




def Cv.Whole (l : List Int) : Prop := 0 < l.length ∧ ∀ k, k < l.length → l.getD k 0 = (k : Int)
instance (l : List Int) : Decidable (Cv.Whole l) := by unfold Cv.Whole; exact inferInstance
theorem Cv.whole_row {L : List (List Int)} {w : List Int} {n : Nat} (hn : 0 < n) : Cv.Whole (Cv.row L w n) ↔ Cv.row L w n = Cls.row id n := by
  rw [Cv.rim_same]
  unfold Cv.Whole
  rw [Cv.row_len]
  have hg : ∀ k, k < n → (Cv.row L w n).getD k 0 = ((Cv.act L w k : Nat) : Int) := fun k hk => by
    rw [List.getD_eq_getElem?_getD]; simp [Cv.row, hk]
  constructor
  · rintro ⟨_, h⟩ s hs
    have := h s hs
    rw [hg s hs] at this; omega
  · intro h
    exact ⟨hn, fun k hk => by rw [hg k hk, h k hk]⟩
set_option maxRecDepth 10000 in
set_option maxHeartbeats 1000000 in
theorem spec_l9Whole (a : Option Addr) (c : Nat) (l : List Int) (w : World) (ha : RowAt w a (intCells l)) (hl : l.length ≤ 1048576) :
    Calls Try.prog 116 #[.slice a l.length c] w fun e w' => e = .returned (.bool (decide (Cv.Whole l))) ∧ w' = w := by
  have Ha := Lib.hid ha
  obtain ⟨V, hV⟩ : ∃ V, decide (Cv.Whole l) = V := ⟨_, rfl⟩
  rw [hV]
  have HV := Lib.hid hV
  clear ha hV
  go_enter Try.func116, Try.ntmps116
  go_wp2
  go_loopw [3] (fun iv wr => ∃ i : Nat, i ≤ l.length ∧ iv = .int .i64 i ∧ Hid (∀ k, k < i → l.getD k 0 = (k : Int)) ∧ wr = w) (fun iv _ => l.length - (intOf iv).toNat)
  case atStart => exact ⟨0, by omega, rfl, Lib.hid (fun k h => absurd h (by omega)), rfl⟩
  case round =>
    obtain ⟨i, hi, rfl, hall, rfl⟩ := hrel
    by_cases hlt : i < l.length
    · obtain ⟨y, hy⟩ := get_some hlt
      obtain ⟨b, o, rfl, hbw, hcell⟩ := intCells_get? Ha.out hy
      have hgd : l.getD i 0 = y := by rw [List.getD_eq_getElem?_getD, hy]; rfl
      have Hgd := Lib.hid hgd
      clear hy hgd
      by_cases he : y = (i : Int)
      · have dne : (y != (i : Int)) = false := by simp [he]
        have Hall := Lib.hid (show ∀ k, k < i + 1 → l.getD k 0 = (k : Int) from fun k hk => by
          rcases Nat.lt_or_ge k i with h | h
          · exact hall.out k h
          · obtain rfl : k = i := by omega
            rw [Hgd.out, he])
        clear he
        go_wp2
        go_roundw
        case rel => exact ⟨i + 1, by omega, by go_num, Hall, trivial⟩
        case measure => simp [intOf]; omega
      · have dne : (y != (i : Int)) = true := by simp [he]
        have Hd := Lib.hid (show V = false by rw [← HV.out]; exact decide_eq_false fun h => he (by rw [← Hgd.out]; exact h.2 i hlt))
        clear he
        go_wp2
        go_ret
        exact ⟨by rw [Hd.out]; rfl, rfl⟩
    · obtain rfl : i = l.length := by omega
      by_cases h0 : 0 < l.length
      · have d0 : (0 : Int) < (l.length : Int) := by omega
        have Hd := Lib.hid (show V = true by rw [← HV.out]; exact decide_eq_true ⟨h0, hall.out⟩)
        go_wp2
        go_ret
        exact ⟨by rw [Hd.out]; rfl, rfl⟩
      · have d0 : ¬ (0 : Int) < (l.length : Int) := by omega
        have Hd := Lib.hid (show V = false by rw [← HV.out]; exact decide_eq_false fun h => h0 h.1)
        go_wp2
        go_ret
        exact ⟨by rw [Hd.out]; rfl, rfl⟩
end Go.Proofs.Ytpebgompfgkljaa
