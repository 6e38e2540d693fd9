/-
  The walks of the program's and the model's IsGraph.
-/
import Derived.Test.YtpgdmbolckogcaaDoorBase
import Derived.Test.YtpgdmbolckogcaaDoorSlice
import Derived.Test.YtpgdmbolckogcaaDoorInts
import Derived.Test.YtpgdmbolckogcaaDoorGrid
import Derived.Test.YtpgdmbolckogcaaDoorWord
import Derived.Test.YtpgdmbolckogcaaDoorIsWord
import Derived.Test.YtpgdmbolckogcaaDoorGraph
import Derived.Deep.QuietTactic
import Derived.BigQuiet
namespace Go.Proofs.YtpgdmbolckogcaaDoor
open Go.RowKit

theorem len_two {l : List Int} (h : l.length = 2) : ∃ x y, l = [x, y] := by
  match l, h with
  | [x, y], _ => exact ⟨x, y, rfl⟩
theorem two_cells {w : World} {a : Option Addr} {x y : Int} (h : RowAt w a (intCells [x, y])) : ∃ b o, a = some ⟨b, o, none⟩ ∧ b < w.heap.size ∧ w.cell? ⟨b, o, none⟩ = some (.int .i64 x) ∧ w.cell? ⟨b, o + 1, none⟩ = some (.int .i64 y) := by
  obtain ⟨b, o, rfl, hb, hc⟩ := h.at (i := 0) (by simp [intCells])
  exact ⟨b, o, rfl, hb, hc 0 _ rfl, hc 1 _ rfl⟩

set_option maxRecDepth 10000 in
set_option maxHeartbeats 400000 in
theorem impl_isGraphVertex (x : Int) (w : World) : Calls Tryd.prog 96 #[.int .i64 x] w fun e w' => e = .returned (.bool (decide (0 ≤ x ∧ x ≤ 6))) ∧ w' = w := by
  by_cases h0 : 0 ≤ x
  · by_cases h1 : x ≤ 6
    · rw [decide_eq_true (And.intro h0 h1)]
      have h2 : x < 7 := by omega
      go_enter Tryd.func96, Tryd.ntmps96
      go_wp2
      go_ret
      exact ⟨by first | rfl | simp [*], rfl⟩
    · rw [decide_eq_false (fun h => h1 h.2)]
      have h2 : ¬ x < 7 := by omega
      go_enter Tryd.func96, Tryd.ntmps96
      go_wp2
      go_ret
      exact ⟨by first | rfl | simp [*], rfl⟩
  · rw [decide_eq_false (fun h => h0 h.1)]
    go_enter Tryd.func96, Tryd.ntmps96
    go_wp2
    go_ret
    exact ⟨by first | rfl | simp [*], rfl⟩

namespace Gr
theorem isE_val (x y : Int) : decide (IsE [x, y]) = ((x != y) && (decide (0 ≤ x ∧ x ≤ 6) && decide (0 ≤ y ∧ y ≤ 6))) := by
  rw [Bool.eq_iff_iff]
  simp only [decide_eq_true_eq, Bool.and_eq_true, bne_iff_ne, isE_two]
  omega
theorem isE_not2 {l : List Int} (h : l.length ≠ 2) : decide (IsE l) = false := decide_eq_false (isE_len h)
theorem all_isG {L : List (List Int)} (h : ∀ j (hj : j < L.length), IsE L[j]) : decide (IsG L) = decide (1 ≤ L.length ∧ L.length ≤ 10) :=
  decide_eq_decide.2 ⟨fun hg => hg.2, fun hn => ⟨fun e he => by obtain ⟨j, hj, rfl⟩ := List.getElem_of_mem he; exact h j hj, hn⟩⟩
end Gr

set_option maxRecDepth 10000 in
set_option maxHeartbeats 2000000 in
theorem impl_isGraphEdge (a : Option Addr) (c : Nat) (l : List Int) (w : World) (ha : RowAt w a (intCells l)) (hl : l.length ≤ 4194304) :
    Calls Tryd.prog 82 #[.slice a l.length c] w fun e w' => e = .returned (.bool (decide (Gr.IsE l))) ∧ Below w.heap.size w w' := by
  by_cases h2 : l.length = 2
  · match l, h2 with
    | [x, y], _ =>
      obtain ⟨b, o, rfl, hbw, hx, hy⟩ := two_cells ha
      have hcx := fun W => impl_isGraphVertex x W
      have hcy := fun W => impl_isGraphVertex y W
      rw [Gr.isE_val]
      generalize decide (0 ≤ x ∧ x ≤ 6) = dx at *
      generalize decide (0 ≤ y ∧ y ≤ 6) = dy at *
      have Hx := Lib.hid hcx; have Hy := Lib.hid hcy
      clear hcx hcy ha hl h2
      show Calls _ _ #[.slice _ 2 c] _ _
      rcases hq : (x != y) with _ | _
      · go_enter Tryd.func82, Tryd.ntmps82
        go_wp2
        go_quiet (first | with_reducible exact Calls.quiet_of_same (Hx.out _) | with_reducible exact Calls.quiet_of_same (Hy.out _))
        go_wp2
        go_ret
        exact ⟨by first | rfl | simp [*], below_drewN (Below.refl _ _) _⟩
      · cases dx
        · go_enter Tryd.func82, Tryd.ntmps82
          go_wp2
          go_quiet (first | with_reducible exact Calls.quiet_of_same (Hx.out _) | with_reducible exact Calls.quiet_of_same (Hy.out _))
          go_wp2
          go_ret
          exact ⟨by first | rfl | simp [*], below_drewN (Below.refl _ _) _⟩
        · cases dy
          all_goals
            go_enter Tryd.func82, Tryd.ntmps82
            go_wp2
            go_quiet (first | with_reducible exact Calls.quiet_of_same (Hx.out _) | with_reducible exact Calls.quiet_of_same (Hy.out _))
            go_wp2
            go_ret
            exact ⟨by first | rfl | simp [*], below_drewN (Below.refl _ _) _⟩
  · rw [Gr.isE_not2 h2]
    have hq : ((l.length : Int) == 2) = false := beq_eq_false_iff_ne.2 (by omega)
    go_enter Tryd.func82, Tryd.ntmps82
    go_wp2
    go_quiet (fail)
    go_wp2
    go_ret
    exact ⟨by first | rfl | simp [*], below_drewN (Below.refl _ _) _⟩

set_option maxRecDepth 10000 in
set_option maxHeartbeats 2000000 in
theorem impl_IsGraph_big (a : Option Addr) (c : Nat) (L : List (List Int)) (w : World) (ha : GridAt w a L) (hl : tot L ≤ 4194304) :
    Calls Tryd.prog 45 #[.slice a L.length c] w fun e w' => e = .returned (.bool (decide (Gr.IsG L))) ∧ Below w.heap.size w w' := by
  generalize hv : decide (Gr.IsG L) = v
  have hln : L.length ≤ 4194304 := by unfold tot at hl; omega
  have hrw : ∀ i (hi : i < L.length), L[i].length ≤ 4194304 := fun i hi => by have := len_le_sumLen hi; unfold tot at hl; omega
  have Hv := Lib.hid hv; have Ha := Lib.hid ha; have Hrw := Lib.hid hrw
  clear hv ha hl hrw
  go_enter Tryd.func45, Tryd.ntmps45
  go_wp2
  go_loopw [2, 4, 7] (fun rv _ iv wr => rv = .bool false ∧ ∃ i : Nat, i ≤ L.length ∧ iv = .int .i64 i ∧ Hid (∀ j (hj : j < L.length), j < i → Gr.IsE L[j]) ∧ Hid (Below w.heap.size w wr)) (fun _ _ iv _ => L.length - (intOf iv).toNat)
  case atStart => exact ⟨rfl, 0, by omega, rfl, Lib.hid (fun _ _ h => by omega), Lib.hid (Below.refl _ _)⟩
  case round =>
    obtain ⟨rfl, i, hi, rfl, hall, hb⟩ := hrel
    by_cases hlt : i < L.length
    · obtain ⟨r, hr⟩ := get_some hlt
      have hri : L[i] = r := by rw [List.getElem?_eq_getElem hlt] at hr; exact Option.some.inj hr
      obtain ⟨b, o, ai, ci, rfl, hbw, hcell, hrow⟩ := (Ha.out.below hb.out).get hr
      have hr1 := Hrw.out i hlt
      rw [hri] at hr1
      have hc := impl_isGraphEdge ai ci r wr hrow hr1
      by_cases hE : Gr.IsE r
      · rw [decide_eq_true hE] at hc
        have Hnext : Hid (∀ j (hj : j < L.length), j < i + 1 → Gr.IsE L[j]) := Lib.hid (fun j hj h' => by
          rcases Nat.lt_or_ge j i with h2 | h2
          · exact hall.out j hj h2
          · obtain rfl : j = i := by omega
            rw [hri]; exact hE)
        have Hc := Lib.hid hc
        clear hc hE hri hr hrow hr1
        go_wp2_with fail
        refine Hc.out.mono ?_
        rintro e w1 ⟨rfl, hb1⟩
        have Hb1 := Lib.hid hb1
        clear hb1 hcell
        go_wp2
        go_roundw
        case rel => exact ⟨rfl, i + 1, by omega, by go_num, Hnext, Lib.hid (hb.out.trans (Hb1.out.mono hb.out.size))⟩
        case measure => simp [intOf]; omega
      · rw [decide_eq_false hE] at hc
        have hno : v = false := by rw [← Hv.out]; exact decide_eq_false (Gr.isG_not hr hE)
        have Hc := Lib.hid hc; have Hno := Lib.hid hno
        clear hc hE hri hr hrow hr1 hno
        go_wp2_with fail
        refine Hc.out.mono ?_
        rintro e w1 ⟨rfl, hb1⟩
        have Hb1 := Lib.hid hb1
        clear hb1 hcell
        go_wp2
        go_ret
        exact ⟨by rw [Hno.out]; rfl, hb.out.trans (Hb1.out.mono hb.out.size)⟩
    · obtain rfl : i = L.length := by omega
      have hv2 : v = decide (1 ≤ L.length ∧ L.length ≤ 10) := by rw [← Hv.out]; exact Gr.all_isG fun j hj => hall.out j hj hj
      by_cases h1 : 1 ≤ L.length
      · by_cases h10 : L.length ≤ 10
        · rw [decide_eq_true (And.intro h1 h10)] at hv2
          have H2 := Lib.hid hv2; clear hv2
          have k1 : (1 : Int) ≤ (L.length : Int) := by omega
          have k2 : (L.length : Int) ≤ 10 := by omega
          go_wp2
          go_ret
          exact ⟨by rw [H2.out]; first | rfl | simp [*], hb.out⟩
        · rw [decide_eq_false (fun h => h10 h.2)] at hv2
          have H2 := Lib.hid hv2; clear hv2
          have k1 : (1 : Int) ≤ (L.length : Int) := by omega
          have k2 : ¬ (L.length : Int) ≤ 10 := by omega
          go_wp2
          go_ret
          exact ⟨by rw [H2.out]; first | rfl | simp [*], hb.out⟩
      · rw [decide_eq_false (fun h => h1 h.1)] at hv2
        have H2 := Lib.hid hv2; clear hv2
        have k1 : ¬ (1 : Int) ≤ (L.length : Int) := by omega
        go_wp2
        go_ret
        exact ⟨by rw [H2.out]; first | rfl | simp [*], hb.out⟩
theorem impl_IsGraph (a : Option Addr) (c : Nat) (L : List (List Int)) (w : World) (ha : GridAt w a L) (hl : tot L ≤ 1048576) :
    Calls Tryd.prog 45 #[.slice a L.length c] w fun e w' => e = .returned (.bool (decide (Gr.IsG L))) ∧ Below w.heap.size w w' := impl_IsGraph_big a c L w ha (by omega)

end Go.Proofs.YtpgdmbolckogcaaDoor
