/-
  The walks of the program's and the model's TurnWord.
-/
import Derived.Test.YtpebgompfgkljaaBase
import Derived.Test.YtpebgompfgkljaaSlice
import Derived.Test.YtpebgompfgkljaaInts
import Derived.Test.YtpebgompfgkljaaWord
import Derived.Test.YtpebgompfgkljaaIsWord
import Derived.Test.YtpebgompfgkljaaReduce
import Derived.Test.YtpebgompfgkljaaAppend
import Derived.Test.YtpebgompfgkljaaStepRow
import Derived.Deep.RegionLaw
import Derived.StillTailTactics
import Derived.BigQuiet
namespace Go.Proofs.Ytpebgompfgkljaa
open Go.RowKit

theorem row_drop {w : World} {b o m : Nat} {l : List Int} (h : RowAt w (some ⟨b, o, none⟩) (intCells l)) : RowAt w (some ⟨b, o + m, none⟩) (intCells (l.drop m)) := by
  rcases h with h | ⟨b', o', e, hlt, hc⟩
  · left
    have : l = [] := by simpa [intCells] using h
    rw [this]; simp [intCells]
  · cases e
    refine Or.inr ⟨b, o + m, rfl, hlt, fun i v hv => ?_⟩
    rw [Nat.add_assoc]
    refine hc (m + i) v ?_
    simpa [intCells, List.getElem?_drop] using hv
theorem row_take {w : World} {a : Option Addr} {m : Nat} {l : List Int} (h : RowAt w a (intCells l)) : RowAt w a (intCells (l.take m)) := by
  rcases h with h | ⟨b', o', e, hlt, hc⟩
  · left
    have : l = [] := by simpa [intCells] using h
    rw [this]; simp [intCells]
  · refine Or.inr ⟨b', o', e, hlt, fun i v hv => hc i v ?_⟩
    simp only [intCells, List.getElem?_map, List.getElem?_take] at hv ⊢
    split at hv
    · exact hv
    · cases hv
theorem row_some {w : World} {a : Option Addr} {l : List Int} (h : RowAt w a (intCells l)) (hn : 0 < l.length) : ∃ b o, a = some ⟨b, o, none⟩ := by
  obtain ⟨b, o, h, _⟩ := h.at (i := 0) (by rw [intCells_len]; exact hn)
  exact ⟨b, o, h⟩
/-- Where a turn begins. -/
theorem turn_mod {n : Nat} (hn : 0 < n) (k : Int) : ∃ m : Nat, m < n ∧ k % (n : Int) = (m : Int) ∧ ((0 ≤ k.tmod (n : Int) ∧ k.tmod (n : Int) = m) ∨ (k.tmod (n : Int) < 0 ∧ k.tmod (n : Int) = (m : Int) - n)) := by
  have h0 := Int.emod_nonneg k (show (n : Int) ≠ 0 by omega)
  have h1 := Int.emod_lt_of_pos k (show (0 : Int) < n by omega)
  refine ⟨(k % (n : Int)).toNat, by omega, by omega, ?_⟩
  rcases (show k.tmod (n : Int) < 0 ∨ 0 ≤ k.tmod (n : Int) by omega) with h | h
  · right
    refine ⟨h, ?_⟩
    have h2 : k.tmod (n : Int) % (n : Int) = k % (n : Int) := by
      have := Int.tmod_add_mul_tdiv k (n : Int)
      conv => rhs; rw [← this]
      rw [Int.add_mul_emod_self_left]
    have h3 := Int.tmod_lt_of_pos k (show (0 : Int) < n by omega)
    have h4 : -(n : Int) < k.tmod n := by
      have := Int.lt_tmod_of_pos k (show (0 : Int) < n by omega); exact this
    have h5 : (k.tmod (n : Int) + n) % (n : Int) = k.tmod (n : Int) + n := Int.emod_eq_of_lt (by omega) (by omega)
    rw [Int.add_emod_right] at h5
    omega
  · left
    refine ⟨h, ?_⟩
    have h2 : k.tmod (n : Int) % (n : Int) = k % (n : Int) := by
      have := Int.tmod_add_mul_tdiv k (n : Int)
      conv => rhs; rw [← this]
      rw [Int.add_mul_emod_self_left]
    have h3 := Int.tmod_lt_of_pos k (show (0 : Int) < n by omega)
    have h5 : k.tmod (n : Int) % (n : Int) = k.tmod (n : Int) := Int.emod_eq_of_lt h h3
    omega
theorem turn_nil (k : Int) : Word.turn [] k = [] := by simp [Word.turn]
theorem own_made1 (w : World) : ((w.drewN 1).alloc (.cells #[] 3)).ownsRow w.heap.size 3 1 (.slice (some ⟨w.heap.size, 0, none⟩) 0 0) 0 (intCells []) :=
  World.ownsRow_made (base := w.heap.size) (e := 3) (size := 1) (w.drewN 1) #[] 0 (Nat.le_refl _) (by unfold maxLen; omega) (by rfl)
theorem below_made1 (w : World) : Below w.heap.size w ((w.drewN 1).alloc (.cells #[] 3)) := Below.alloc (below_drewN (Below.refl _ w) 1) (Nat.le_refl _) _
theorem turn_at {l : List Int} {k : Int} {m : Nat} (h : k % (l.length : Int) = (m : Int)) : Word.turn l k = l.drop m ++ l.take m := by
  unfold Word.turn; rw [h]; rfl

set_option maxRecDepth 10000 in
set_option maxHeartbeats 400000 in
theorem spec_l2Turn (a : Option Addr) (c : Nat) (l : List Int) (k : Int) (w : World) (ha : RowAt w a (intCells l)) (hl : l.length ≤ 1000) (hc : l.length ≤ c) (hk0 : -9223372036854775808 ≤ k) (hk1 : k ≤ 9223372036854775807) :
    Calls Try.prog 93 #[.slice a l.length c, .int .i64 k] w fun e w' => Gives w (Word.turn l k) e w' := by
  by_cases hn : l.length = 0
  · obtain rfl := List.eq_nil_of_length_eq_zero hn
    go_enter Try.func93, Try.ntmps93
    go_wp2
    go_ret
    rw [turn_nil]
    exact own_gives (by exact own_made (w := w) rfl) rfl ((Below.refl _ _).alloc (Nat.le_refl _) _)
  · have hn1 : 0 < l.length := by omega
    have hd0 : ((l.length : Int) == 0) = false := by rw [beq_eq_false_iff_ne]; omega
    obtain ⟨b, o, rfl⟩ := row_some ha hn1
    obtain ⟨m, hm, hmod, hsign⟩ := turn_mod hn1 k
    have Hat := Lib.hid (turn_at hmod)
    have Hdrop := Lib.hid (row_drop (m := m) ha)
    have Htake := Lib.hid (row_take (m := m) ha)
    have Hdl : Hid ((intCells (l.drop m)).length = l.length - m) := Lib.hid (by rw [intCells_len, List.length_drop])
    have Htl : Hid ((intCells (l.take m)).length = m) := Lib.hid (by rw [intCells_len, List.length_take]; omega)
    obtain ⟨i0, hi0, hz0, hz1, hz2⟩ := info_int_parts
    have Hi0 := Lib.hid hi0; have Hz0 := Lib.hid hz0; have Hz1 := Lib.hid hz1; have Hz2 := Lib.hid hz2
    clear hi0 hz0 hz1 hz2 hmod ha
    have hcm : ¬ c = m := by omega
    have hml : m ≤ l.length := by omega
    have hmc : m ≤ c := by omega
    generalize hr : k.tmod (l.length : Int) = r at *
    have Hr := Lib.hid hr
    have hc1 : 0 + (l.length - m) ≤ maxLen := by unfold maxLen; omega
    have hc2 : (0 + (l.length - m)) * 8 ≤ 140737488355328 := by omega
    have hc3 : l.length - m + m ≤ maxLen := by unfold maxLen; omega
    have hc4 : (l.length - m + m) * 8 ≤ 140737488355328 := by omega
    rcases hsign with ⟨hs0, hs1⟩ | ⟨hs0, hs1⟩
    · subst hs1
      go_enter Try.func93, Try.ntmps93
      go_wp2
      go_region_law (first
        | (refine step_append_row rfl (.tmp 19) (.tmp 22) 42 rfl w.heap.size 3 i0 _ 8 Try.underlying42 Hi0.out Hz0.out Hz1.out Hz2.out (by rfl) _ 0 (intCells []) (by rfl) (own_made1 w) _ (l.length - m) _ (intCells (l.drop m)) (by rfl) (Hdrop.out.below (below_made1 w)) Hdl.out (intCells_one _) hc1 hc2 (by simp) ?_; intro v1 w1 hown1 hg1; rw [Nat.zero_add] at hown1; have hb1 := Below.grown (below_made1 w) hg1 (by simp) (fun k hk => by injection hk with hk; exact Nat.le_of_eq hk); obtain ⟨av1, cv1, rfl⟩ := own_len hown1)
        | (refine step_append_row rfl (.tmp 23) (.tmp 26) 42 rfl w.heap.size 3 i0 _ 8 Try.underlying42 Hi0.out Hz0.out Hz1.out Hz2.out (by rfl) _ _ _ (by rfl) hown1 _ m _ (intCells (l.take m)) (by rfl) (Htake.out.below hb1) Htl.out (intCells_one _) hc3 hc4 hb1.size ?_; intro v2 w2 hown2 hg2; rw [Nat.sub_add_cancel hml] at hown2; have hb2 := Below.grown hb1 hg2 hb1.size (fun k hk => (hown1.lt k hk).1); obtain ⟨av2, cv2, rfl⟩ := own_len hown2))
      all_goals
        go_wp2
        go_ret
        rw [Hat.out]
        refine own_gives (n := l.length) ?_ (by rw [List.length_append, List.length_drop, List.length_take]; omega) hb2
        rw [show intCells (l.drop m ++ l.take m) = intCells [] ++ intCells (l.drop m) ++ intCells (l.take m) from by simp [intCells]]
        exact hown2
    · subst hs1
      have hmn : (m : Int) - (l.length : Int) + (l.length : Int) = (m : Int) := by omega
      go_enter Try.func93, Try.ntmps93
      go_wp2
      go_region_law (first
        | (refine step_append_row rfl (.tmp 19) (.tmp 22) 42 rfl w.heap.size 3 i0 _ 8 Try.underlying42 Hi0.out Hz0.out Hz1.out Hz2.out (by rfl) _ 0 (intCells []) (by rfl) (own_made1 w) _ (l.length - m) _ (intCells (l.drop m)) (by rfl) (Hdrop.out.below (below_made1 w)) Hdl.out (intCells_one _) hc1 hc2 (by simp) ?_; intro v1 w1 hown1 hg1; rw [Nat.zero_add] at hown1; have hb1 := Below.grown (below_made1 w) hg1 (by simp) (fun k hk => by injection hk with hk; exact Nat.le_of_eq hk); obtain ⟨av1, cv1, rfl⟩ := own_len hown1)
        | (refine step_append_row rfl (.tmp 23) (.tmp 26) 42 rfl w.heap.size 3 i0 _ 8 Try.underlying42 Hi0.out Hz0.out Hz1.out Hz2.out (by rfl) _ _ _ (by rfl) hown1 _ m _ (intCells (l.take m)) (by rfl) (Htake.out.below hb1) Htl.out (intCells_one _) hc3 hc4 hb1.size ?_; intro v2 w2 hown2 hg2; rw [Nat.sub_add_cancel hml] at hown2; have hb2 := Below.grown hb1 hg2 hb1.size (fun k hk => (hown1.lt k hk).1); obtain ⟨av2, cv2, rfl⟩ := own_len hown2))
      all_goals
        go_wp2
        go_ret
        rw [Hat.out]
        refine own_gives (n := l.length) ?_ (by rw [List.length_append, List.length_drop, List.length_take]; omega) hb2
        rw [show intCells (l.drop m ++ l.take m) = intCells [] ++ intCells (l.drop m) ++ intCells (l.take m) from by simp [intCells]]
        exact hown2
theorem turned_not {l : List Int} {k : Int} (h : ¬ Word.IsW l) : Word.turned l k = [] := if_neg h
theorem turned_of {l : List Int} {k : Int} (h : Word.IsW l) : Word.turned l k = Word.turn l k := if_pos h
theorem turned_len (l : List Int) (k : Int) : (Word.turned l k).length ≤ 24 := by
  unfold Word.turned; split
  · rw [Word.turn_len]; rename_i h; exact h.2
  · simp


set_option maxRecDepth 10000 in
set_option maxHeartbeats 400000 in
theorem impl_TurnWord (a : Option Addr) (c : Nat) (l : List Int) (k : Int) (w : World) (ha : RowAt w a (intCells l)) (hl : l.length ≤ 1048576) (hc : l.length ≤ c) (hk0 : -9223372036854775808 ≤ k) (hk1 : k ≤ 9223372036854775807) :
    Calls Try.prog 91 #[.slice a l.length c, .int .i64 k] w fun e w' => Gives w (Word.turned l k) e w' := by
  have hcW := impl_IsWord a c l w ha hl
  by_cases hW : Word.IsW l
  · rw [decide_eq_true hW] at hcW
    have Hcw := Lib.hid hcW; clear hcW
    have HW := Lib.hid hW; clear hW
    by_cases hn : l.length = 0
    · obtain rfl := List.eq_nil_of_length_eq_zero hn
      go_enter Try.func91, Try.ntmps91
      go_wp2_with fail
      refine Hcw.out.mono ?_
      rintro e w1 ⟨rfl, hb1⟩
      go_wp2
      go_ret
      rw [turned_of HW.out, turn_nil]
      exact Gives.none hb1
    · have hn1 : 0 < l.length := by omega
      have hl24 := HW.out.2
      have hd0 : ((l.length : Int) == 0) = false := by rw [beq_eq_false_iff_ne]; omega
      obtain ⟨b, o, rfl⟩ := row_some ha hn1
      obtain ⟨m, hm, hmod, hsign⟩ := turn_mod hn1 k
      have Hat := Lib.hid (turn_at hmod)
      have Hdrop := Lib.hid (row_drop (m := m) ha)
      have Htake := Lib.hid (row_take (m := m) ha)
      have Hdl : Hid ((l.drop m).length = l.length - m) := Lib.hid (by rw [List.length_drop])
      have Htl : Hid ((l.take m).length = m) := Lib.hid (by rw [List.length_take]; omega)
      clear hmod ha
      have hcm : ¬ c = m := by omega
      have hml : m ≤ l.length := by omega
      have hmc : m ≤ c := by omega
      have hm0 : (0 : Int) ≤ (m : Int) := by omega
      have hml' : (m : Int) ≤ (l.length : Int) := by omega
      have hmc' : (m : Int) ≤ (c : Int) := by omega
      generalize hr : k.tmod (l.length : Int) = r at *
      have Hr := Lib.hid hr
      have Hps : Hid (∀ W0 : World, Below w.heap.size w W0 → ∀ B : Nat, Calls Try.prog 76 #[.slice (some ⟨W0.heap.size, 0, none⟩) 2 2] (W0.alloc (.cells #[.slice (some ⟨b, o + m, none⟩) (l.length - m) (c - m), .slice (some ⟨b, o, none⟩) m c] 42)) fun e w' => Gives w (Word.turn l k) e w') := Lib.hid (by
        intro W0 hb0 _
        have hb1 : Below w.heap.size w (W0.alloc (.cells #[.slice (some ⟨b, o + m, none⟩) (l.length - m) (c - m), .slice (some ⟨b, o, none⟩) m c] 42)) := hb0.alloc hb0.size _
        have hrow := (Blk.new W0 42 #[.slice (some ⟨b, o + m, none⟩) (l.length - m) (c - m), .slice (some ⟨b, o, none⟩) m c]).row
        have hps : ([(some ⟨b, o + m, none⟩, c - m, l.drop m), (some ⟨b, o, none⟩, c, l.take m)] : List Part).map Part.cell = [.slice (some ⟨b, o + m, none⟩) (l.length - m) (c - m), .slice (some ⟨b, o, none⟩) m c] := by
          simp only [List.map_cons, List.map_nil, Part.cell, Hdl.out, Htl.out]
        refine (slices_Concat (some ⟨W0.heap.size, 0, none⟩) 2 [(some ⟨b, o + m, none⟩, c - m, l.drop m), (some ⟨b, o, none⟩, c, l.take m)] _ (by rw [hps]; exact hrow) ?_ (by simp) ?_).mono ?_
        · intro i hi
          rcases (show i = 0 ∨ i = 1 by simp at hi; omega) with rfl | rfl
          · exact Hdrop.out.below hb1
          · exact Htake.out.below hb1
        · simp [Part.len, Part.all]; omega
        · rintro e w' hg
          have := hg.later hb1
          rw [show Part.all [(some ⟨b, o + m, none⟩, c - m, l.drop m), (some ⟨b, o, none⟩, c, l.take m)] = Word.turn l k from by rw [Hat.out]; simp [Part.all]] at this
          exact this)
      rcases hsign with ⟨hs0, hs1⟩ | ⟨hs0, hs1⟩
      · subst hs1
        go_enter Try.func91, Try.ntmps91
        go_wp2_with fail
        refine Hcw.out.mono ?_
        rintro e w1 ⟨rfl, hb1⟩
        go_wp2
        go_still_tail 6, (by kernel_rfl)
        change wpList _ _ _ _ _ w1.drew
        go_wp2_with fail
        refine (Hps.out w1.drew (below_drewN hb1 1) 0).mono ?_
        rintro e w2 hg
        have Hg := Lib.hid hg
        obtain ⟨a', c', rfl, _, _, _, _⟩ := hg
        go_wp2
        go_ret
        rw [turned_of HW.out]
        exact Hg.out
      · subst hs1
        have hmn : (m : Int) - (l.length : Int) + (l.length : Int) = (m : Int) := by omega
        go_enter Try.func91, Try.ntmps91
        go_wp2_with fail
        refine Hcw.out.mono ?_
        rintro e w1 ⟨rfl, hb1⟩
        go_wp2
        go_still_tail 6, (by kernel_rfl)
        change wpList _ _ _ _ _ w1.drew
        go_wp2_with fail
        refine (Hps.out w1.drew (below_drewN hb1 1) 0).mono ?_
        rintro e w2 hg
        have Hg := Lib.hid hg
        obtain ⟨a', c', rfl, _, _, _, _⟩ := hg
        go_wp2
        go_ret
        rw [turned_of HW.out]
        exact Hg.out
  · rw [decide_eq_false hW] at hcW
    have Hcw := Lib.hid hcW; clear hcW
    have HW := Lib.hid hW; clear hW
    go_enter Try.func91, Try.ntmps91
    go_wp2_with fail
    refine Hcw.out.mono ?_
    rintro e w1 ⟨rfl, hb1⟩
    go_wp2
    go_ret
    rw [turned_not HW.out]
    exact Gives.none hb1
end Go.Proofs.Ytpebgompfgkljaa
