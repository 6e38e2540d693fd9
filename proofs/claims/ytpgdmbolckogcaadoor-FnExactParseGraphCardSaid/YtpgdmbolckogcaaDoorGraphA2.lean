/-
  The walk of the model's IsGraph.
-/
import Derived.Test.YtpgdmbolckogcaaDoorBase
import Derived.Test.YtpgdmbolckogcaaDoorSlice
import Derived.Test.YtpgdmbolckogcaaDoorInts
import Derived.Test.YtpgdmbolckogcaaDoorGrid
import Derived.Test.YtpgdmbolckogcaaDoorWord
import Derived.Test.YtpgdmbolckogcaaDoorIsWord
import Derived.Test.YtpgdmbolckogcaaDoorGraph
import Derived.Test.YtpgdmbolckogcaaDoorGraphA
import Derived.Deep.QuietTactic
import Derived.BigQuiet
namespace Go.Proofs.YtpgdmbolckogcaaDoor
open Go.RowKit

set_option maxRecDepth 10000 in
set_option maxHeartbeats 40000000 in
theorem spec_IsGraph_big (a : Option Addr) (c : Nat) (L : List (List Int)) (w : World) (ha : GridAt w a L) (hl : tot L ≤ 4194304) :
    Calls Tryd.prog 41 #[.slice a L.length c] w fun e w' => e = .returned (.bool (decide (Gr.IsG L))) ∧ Below w.heap.size w w' := by
  generalize hv : decide (Gr.IsG L) = v
  have hln : L.length ≤ 4194304 := by unfold tot at hl; omega
  have hrw : ∀ i (hi : i < L.length), L[i].length ≤ 4194304 := fun i hi => by have := len_le_sumLen hi; unfold tot at hl; omega
  have Hv := Lib.hid hv; have Ha := Lib.hid ha; have Hrw := Lib.hid hrw
  clear hv ha hl hrw
  go_enter Tryd.func41, Tryd.ntmps41
  go_wp2
  go_loopw [2, 3] (fun rv iv wr => rv = .bool false ∧ ∃ i : Nat, i ≤ L.length ∧ iv = .int .i64 i ∧ Hid (∀ j (hj : j < L.length), j < i → Gr.IsE L[j]) ∧ Hid (Below w.heap.size w wr)) (fun _ iv _ => L.length - (intOf iv).toNat)
  case atStart => exact ⟨rfl, 0, by omega, rfl, Lib.hid (fun _ _ h => by omega), Lib.hid (Below.refl _ _)⟩
  case round =>
    obtain ⟨rfl, i, hi, rfl, hall, hb⟩ := hrel
    by_cases hlt : i < L.length
    · obtain ⟨r, hr⟩ := get_some hlt
      have hri : L[i] = r := by rw [List.getElem?_eq_getElem hlt] at hr; exact Option.some.inj hr
      obtain ⟨b, o, ai, ci, rfl, hbw, hcell, hrow⟩ := (Ha.out.below hb.out).get hr
      have hr1 := Hrw.out i hlt
      rw [hri] at hr1
      have h0i : (0 : Int) ≤ (i : Int) := by omega
      have hil : (i : Int) < (L.length : Int) := by omega
      have hbad : ¬ Gr.IsE r → v = false := fun hE => by rw [← Hv.out]; exact decide_eq_false (Gr.isG_not hr hE)
      have hgood : Gr.IsE r → ∀ j (hj : j < L.length), j < i + 1 → Gr.IsE L[j] := fun hE j hj h' => by
        rcases Nat.lt_or_ge j i with h2 | h2
        · exact hall.out j hj h2
        · obtain rfl : j = i := by omega
          rw [hri]; exact hE
      by_cases h2 : r.length = 2
      · obtain ⟨x, y, rfl⟩ := len_two h2
        obtain ⟨b', o', rfl, hbw', hx, hy⟩ := two_cells hrow
        have hcx := fun W => spec_l1In x 0 6 W
        have hcy := fun W => spec_l1In y 0 6 W
        have hval := Gr.isE_val x y
        generalize decide (0 ≤ x ∧ x ≤ 6) = dx at *
        generalize decide (0 ≤ y ∧ y ≤ 6) = dy at *
        have Hx := Lib.hid hcx; have Hy := Lib.hid hcy; have Hbad := Lib.hid hbad; have Hgood := Lib.hid hgood
        clear hcx hcy hri hr hrow hr1 hbad hgood h2
        have hcell : wr.cell? ⟨b, o + i, none⟩ = some (.slice (some ⟨b', o', none⟩) 2 ci) := hcell
        cases dx
        · have Hno := Lib.hid (Hbad.out (by rw [← decide_eq_false_iff_not, hval]; simp))
          clear hval
          go_wp2
          go_quiet (first | with_reducible exact Calls.quiet_of_same (Hx.out _) | with_reducible exact Calls.quiet_of_same (Hy.out _))
          go_wp2
          go_ret
          exact ⟨by rw [Hno.out]; first | rfl | simp [*], below_drewN hb.out _⟩
        · cases dy
          · have Hno := Lib.hid (Hbad.out (by rw [← decide_eq_false_iff_not, hval]; simp))
            clear hval
            go_wp2
            go_quiet (first | with_reducible exact Calls.quiet_of_same (Hx.out _) | with_reducible exact Calls.quiet_of_same (Hy.out _))
            go_wp2
            go_ret
            exact ⟨by rw [Hno.out]; first | rfl | simp [*], below_drewN hb.out _⟩
          · by_cases hxy : x = y
            · have Hno := Lib.hid (Hbad.out (by rw [← decide_eq_false_iff_not, hval, hxy]; simp))
              have hq : (x == y) = true := by rw [hxy]; simp
              clear hval hxy
              go_wp2
              go_quiet (first | with_reducible exact Calls.quiet_of_same (Hx.out _) | with_reducible exact Calls.quiet_of_same (Hy.out _))
              go_wp2
              go_ret
              exact ⟨by rw [Hno.out]; first | rfl | simp [*], below_drewN hb.out _⟩
            · have hq : (x == y) = false := beq_eq_false_iff_ne.2 hxy
              have Hnext := Lib.hid (Hgood.out (of_decide_eq_true (by rw [hval, bne_iff_ne.2 hxy]; rfl)))
              clear hval hxy
              go_wp2
              go_quiet (first | with_reducible exact Calls.quiet_of_same (Hx.out _) | with_reducible exact Calls.quiet_of_same (Hy.out _))
              go_wp2
              go_roundw
              case rel => exact ⟨rfl, i + 1, by omega, by go_num, Hnext, Lib.hid (below_drewN hb.out _)⟩
              case measure => simp [intOf]; omega
      · have hq : ((r.length : Int) != 2) = true := bne_iff_ne.2 (by omega)
        have hno : v = false := hbad (Gr.isE_len h2)
        have Hno := Lib.hid hno
        clear hri hr hrow hbad hgood hno h2
        go_wp2
        go_quiet (fail)
        go_wp2
        go_ret
        exact ⟨by rw [Hno.out]; first | rfl | simp [*], below_drewN hb.out _⟩
    · obtain rfl : i = L.length := by omega
      have hv2 : v = decide (1 ≤ L.length ∧ L.length ≤ 10) := by rw [← Hv.out]; exact Gr.all_isG fun j hj => hall.out j hj hj
      have hin := fun W => spec_l1In (L.length : Int) 1 10 W
      rw [show decide ((1 : Int) ≤ (L.length : Int) ∧ (L.length : Int) ≤ 10) = decide (1 ≤ L.length ∧ L.length ≤ 10) from decide_eq_decide.2 (by omega)] at hin
      rw [← hv2] at hin
      have Hin := Lib.hid hin; clear hin hv2
      go_wp2_with fail
      refine (Hin.out _).mono ?_
      rintro e w1 ⟨rfl, rfl⟩
      go_wp2
      go_ret
      exact ⟨rfl, hb.out⟩
theorem spec_IsGraph (a : Option Addr) (c : Nat) (L : List (List Int)) (w : World) (ha : GridAt w a L) (hl : tot L ≤ 1048576) :
    Calls Tryd.prog 41 #[.slice a L.length c] w fun e w' => e = .returned (.bool (decide (Gr.IsG L))) ∧ Below w.heap.size w w' := spec_IsGraph_big a c L w ha (by omega)
end Go.Proofs.YtpgdmbolckogcaaDoor
