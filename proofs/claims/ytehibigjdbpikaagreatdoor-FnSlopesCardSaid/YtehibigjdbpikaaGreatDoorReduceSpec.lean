/-
  The walks of the model's ReduceWord.
-/
import Derived.Test.YtehibigjdbpikaaGreatDoorBase
import Derived.Test.YtehibigjdbpikaaGreatDoorSlice
import Derived.Test.YtehibigjdbpikaaGreatDoorInts
import Derived.Test.YtehibigjdbpikaaGreatDoorWord
import Derived.Test.YtehibigjdbpikaaGreatDoorIsWord
import Derived.Test.YtehibigjdbpikaaGreatDoorOwn
import Derived.Test.YtehibigjdbpikaaGreatDoorReduce
import Derived.Deep.QuietTactic
import Derived.BigQuiet
namespace Go.Proofs.YtehibigjdbpikaaGreatDoor
open Go.RowKit


set_option maxRecDepth 10000 in
set_option maxHeartbeats 400000 in
theorem spec_l2Reduce (a : Option Addr) (c : Nat) (l : List Int) (w : World) (ha : RowAt w a (intCells l)) (hl : l.length ≤ 1000) (hL : ∀ x ∈ l, Word.Letter x) :
    Calls Tryz.prog 135 #[.slice a l.length c] w fun e w' => Gives w (Word.red l) e w' := by
  have HL := Lib.hid hL; clear hL
  obtain ⟨i0, hi0, hz0, hz1, hz2⟩ := info_int_parts
  have Hinfo := Lib.hid (show Tryz.prog.info? 3 = some i0 ∧ i0.zero = some (.int .i64 0) ∧ i0.size = 1 ∧ i0.bytes = 8 from ⟨hi0, hz0, hz1, hz2⟩)
  clear hi0 hz0 hz1 hz2
  generalize hN : w.heap.size = N at *
  have HN := Lib.hid hN
  go_enter Tryz.func135, Tryz.ntmps135
  go_wp2
  clear hN
  go_loopw [3, 4] (fun ov iv wr => ∃ i : Nat, i ≤ l.length ∧ iv = .int .i64 i ∧ Below N w wr ∧ wr.ownsRow N 3 1 ov (Word.red (l.take i)).length (intCells (Word.red (l.take i)))) (fun _ iv _ => l.length - (intOf iv).toNat)
  case atStart => exact ⟨0, by omega, rfl, by have h := (Below.refl w.heap.size w).alloc (Nat.le_refl _) (.cells #[] 3); rw [HN.out] at h; exact h, by have h := own_made HN.out; rw [HN.out] at h; exact h⟩
  case round =>
    obtain ⟨i, hi, rfl, hb, hown⟩ := hrel
    by_cases hlt : i < l.length
    · have ha' : RowAt wr a (intCells l) := ha.below (by rw [HN.out]; exact hb)
      obtain ⟨b, o, rfl, hbw0, hcell⟩ := intCells_at ha' hlt
      have hLx := HL.out l[i] (List.getElem_mem hlt)
      obtain ⟨hx0, hx1, hx2⟩ := hLx
      have hst := Word.red_take hlt
      have hlen := Word.red_len (l.take i)
      rw [List.length_take] at hlen
      have hNle : N ≤ wr.heap.size := by have := hb.size; rw [HN.out] at this; exact this
      generalize hx : l[i] = x at *
      generalize hX : Word.red (l.take i) = X at *
      generalize hY : Word.red (l.take (i + 1)) = Y at *
      have HY := Lib.hid hY; have HX := Lib.hid hX; have Hx := Lib.hid hx
      clear hx hX hY
      obtain ⟨hi0, hz0, hz1, hz2⟩ := Hinfo.out
      have Hi0 := Lib.hid hi0; have Hz0 := Lib.hid hz0; have Hz1 := Lib.hid hz1; have Hz2 := Lib.hid hz2
      clear hi0 hz0 hz1 hz2
      have hc1 : X.length + 1 ≤ maxLen := by unfold maxLen; omega
      have hc2 : (X.length + 1) * 8 ≤ 140737488355328 := by omega
      have h0i : (0 : Int) ≤ (i : Int) := by omega
      have hil : (i : Int) < (l.length : Int) := by omega
      cases hk : X.length with
      | zero =>
        rw [Word.step_first hk] at hst
        have Hst := Lib.hid hst; clear hst
        rw [hk] at hown hc1 hc2
        have hk' := Lib.hid hk; clear hk
        obtain ⟨av, cv, rfl⟩ := own_len hown
        go_wp2
        go_quiet (fail)
        all_goals have hown' := own_drewN hown
        all_goals go_wp2_with (at_builtin; refine append_one rfl (.tmp 34) (.tmp 39) 26 rfl N 3 i0 _ 8 Tryz.underlying26 Hi0.out Hz0.out Hz1.out Hz2.out (by rfl) _ _ _ rfl (hown' _) (by rfl) _ rfl hc1 hc2 hNle ?_; intro v1 w1 hown1 hg1 _)
        all_goals
          go_roundw
          case rel =>
            refine ⟨i + 1, by omega, by go_num, Below.grown ((below_drewN hb _).alloc hNle _) hg1 (by simp; omega) (fun k hk => (hown.lt k hk).1), ?_⟩
            rw [HY.out, Hst.out, ← intCells_snoc, List.length_append, hk'.out]; exact hown1
          case measure => simp [intOf]; omega
      | succ k =>
        obtain ⟨y, hy⟩ : ∃ y, X[k]? = some y := ⟨X[k], by simp [hk]⟩
        rw [hk] at hown hc1 hc2
        obtain ⟨g, cap, rfl, hcap, hcapm⟩ := own_form hown (by omega)
        have hcy := own_cell hown (k := k) (by omega) hk
        have hyy : X[k]'(by omega) = y := by
          have := List.getElem?_eq_getElem (l := X) (i := k) (by omega)
          rw [this] at hy; exact Option.some.inj hy
        rw [hyy] at hcy
        have h0k : (0 : Int) ≤ (k : Int) := by omega
        have hkk : (k : Int) < (k : Int) + 1 := by omega
        by_cases he : y = -x
        · rw [Word.step_back hk (by rw [hy, he])] at hst
          have Hst := Lib.hid hst; clear hst
          have hyl : -8 ≤ y ∧ y ≤ 8 := by omega
          have Hown := Lib.hid hown; clear hown
          clear hyy hy
          have hk' := Lib.hid hk; clear hk
          unfold maxLen at hcapm
          subst he
          go_wp2
          go_quiet (fail)
          all_goals go_wp2
          all_goals
            go_roundw
            case rel =>
              refine ⟨i + 1, by omega, by go_num, below_drewN hb _, ?_⟩
              rw [HY.out, Hst.out, ← intCells_take, List.length_take, hk'.out, Nat.min_eq_left (by omega)]
              exact own_take Hown.out (by omega)
            case measure => simp [intOf]; omega
        · rw [Word.step_on hk hy he] at hst
          have Hst := Lib.hid hst; clear hst
          clear hyy hy
          have hk' := Lib.hid hk; clear hk
          go_wp2
          go_quiet (fail)
          all_goals have hown' := own_drewN hown
          all_goals go_wp2_with (at_builtin; refine append_one rfl (.tmp 34) (.tmp 39) 26 rfl N 3 i0 _ 8 Tryz.underlying26 Hi0.out Hz0.out Hz1.out Hz2.out (by rfl) _ _ _ rfl (hown' _) (by rfl) _ rfl hc1 hc2 hNle ?_; intro v1 w1 hown1 hg1 _)
          all_goals
            go_roundw
            case rel =>
              refine ⟨i + 1, by omega, by go_num, Below.grown ((below_drewN hb _).alloc hNle _) hg1 (by simp; omega) (fun k hk => (hown.lt k hk).1), ?_⟩
              rw [HY.out, Hst.out, ← intCells_snoc, List.length_append, hk'.out]; exact hown1
            case measure => simp [intOf]; omega
    · obtain rfl : i = l.length := by omega
      rw [List.take_of_length_le (Nat.le_refl _)] at hown
      have Hown := Lib.hid hown; clear hown
      go_wp2
      go_ret
      exact own_gives (by rw [HN.out]; exact Hown.out) rfl (by rw [HN.out]; exact hb)

end Go.Proofs.YtehibigjdbpikaaGreatDoor
