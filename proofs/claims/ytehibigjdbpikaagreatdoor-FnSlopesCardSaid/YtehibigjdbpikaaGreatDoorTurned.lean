/-
  The walk of the model's text that may be turned, by itself (XDrawWord2 holds it beside the words' draws).
-/
import Derived.Test.YtehibigjdbpikaaGreatDoorBase
import Derived.Test.YtehibigjdbpikaaGreatDoorSlice
import Derived.Test.YtehibigjdbpikaaGreatDoorInts
import Derived.Test.YtehibigjdbpikaaGreatDoorDraw
import Derived.Deep.RegionWith
namespace Go.Proofs.YtehibigjdbpikaaGreatDoor
open Go.RowKit

/-- A text of so many bytes at most; the cursor goes on. -/
def TextGo (w : World) (g n : Nat) (e : Ending) (w' : World) : Prop := ∃ t : ByteArray, e = .returned (.string t) ∧ t.size ≤ n ∧ CurAt w' g ∧ w.grownBy w' (some g)

set_option maxRecDepth 10000 in
set_option maxHeartbeats 1000000 in
theorem l1Turned_text (g gl c : Nat) (s : ByteArray) (l : List ByteArray) (w : World) (hc : CurAt w g) (hk : Blk w gl 9 (textCells l).toArray) (hne : gl ≠ g) (h0 : 0 < l.length) (hn : l.length ≤ 1000) (hs : s.size ≤ 1000) (hl : ∀ x ∈ l, x.size ≤ 100) :
    Calls Tryz.prog 67 #[.pointer (some ⟨g, 0, none⟩), .string s, .slice (some ⟨gl, 0, none⟩) l.length c] w (TextGo w g 3000) := by
  have Hl := Lib.hid hl; clear hl
  go_enter Tryz.func67, Tryz.ntmps67
  go_wp2_with fail
  refine (l1Below g ((s.size : Int) + 1) w hc (by omega) (by omega)).mono ?_
  rintro e w1 ⟨⟨x, rfl, hx0, hx1⟩, hc1, hg1⟩
  have hk1 := hk.grown hg1 (by simpa using hne)
  obtain ⟨i, rfl⟩ := Int.eq_ofNat_of_zero_le hx0
  have hi : i ≤ s.size := by omega
  go_wp2_with fail
  refine (l1Below g 6 w1 hc1 (by omega) (by omega)).mono ?_
  rintro e w2 ⟨⟨y, rfl, hy0, hy1⟩, hc2, hg2⟩
  have hk2 := hk1.grown hg2 (by simpa using hne)
  have hgw := hg1.trans hg2
  have Hgw := Lib.hid hgw
  have Hk2 := Lib.hid hk2
  clear hk hk1 hk2 hgw
  have hsz1 : (s.extract 0 i).size ≤ 1000 := by simp [ByteArray.size_extract]; omega
  have hsz2 : (s.extract i s.size).size ≤ 1000 := by simp [ByteArray.size_extract]; omega
  have hii : (0 : Int) ≤ (i : Int) := by omega
  have his : (i : Int) ≤ (s.size : Int) := by omega
  by_cases hyz : y = 0
  · have hb0 : (y == 0) = true := by rw [beq_iff_eq]; exact hyz
    have Hsz1 := Lib.hid hsz1; have Hsz2 := Lib.hid hsz2
    go_wp2
    go_region_with (go_at_call 114; refine (l1Pick g gl c l _ (hc2.below (below_drewN (Below.refl _ w2) 1)) (Hk2.out.drewN 1) hne h0 hn).mono ?_; rintro e w3 ⟨⟨v, hv, rfl⟩, hc3, hg3⟩; obtain ⟨y2, hy2, rfl⟩ := List.mem_map.1 hv; have hys := Hl.out y2 hy2; have Hy2 := Lib.hid hy2; clear hv hy2)
    all_goals go_wp2
    all_goals
      go_ret
      refine ⟨s.extract 0 i ++ y2 ++ s.extract i s.size, rfl, ?_, hc3, (only_drewN Hgw.out 1).trans hg3⟩
      have h1 := Hsz1.out
      have h2 := Hsz2.out
      rw [ByteArray.size_append, ByteArray.size_append]; omega
  · have hb0 : (y == 0) = false := by rw [beq_eq_false_iff_ne]; exact hyz
    by_cases hyo : y = 1
    · have hb1 : (y == 1) = true := by rw [beq_iff_eq]; exact hyo
      have Hsz1 := Lib.hid hsz1
      clear hsz1 hsz2
      go_wp2
      go_ret
      exact ⟨_, rfl, Nat.le_trans Hsz1.out (by decide), hc2, Hgw.out⟩
    · have hb1 : (y == 1) = false := by rw [beq_eq_false_iff_ne]; exact hyo
      clear hsz1 hsz2
      go_wp2
      go_ret
      exact ⟨_, rfl, by omega, hc2, Hgw.out⟩
end Go.Proofs.YtehibigjdbpikaaGreatDoor
