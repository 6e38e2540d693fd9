/-
  The walks of the program's and the model's WordText.
-/
import Derived.Test.YtpgdmbolckogcaaDoorBase
import Derived.Test.YtpgdmbolckogcaaDoorSlice
import Derived.Test.YtpgdmbolckogcaaDoorInts
import Derived.Test.YtpgdmbolckogcaaDoorWord
import Derived.Test.YtpgdmbolckogcaaDoorIsWord
import Derived.Test.YtpgdmbolckogcaaDoorBytes
import Derived.Deep.QuietTactic
import Derived.BigQuiet
namespace Go.Proofs.YtpgdmbolckogcaaDoor
open Go.RowKit

theorem letter_cases {x : Int} (h : Word.Letter x) : x = -8 ∨ x = -7 ∨ x = -6 ∨ x = -5 ∨ x = -4 ∨ x = -3 ∨ x = -2 ∨ x = -1 ∨ x = 1 ∨ x = 2 ∨ x = 3 ∨ x = 4 ∨ x = 5 ∨ x = 6 ∨ x = 7 ∨ x = 8 := by
  obtain ⟨h0, h1, h2⟩ := h; omega
theorem text_take {l : List Int} {i : Nat} (h : i < l.length) : Word.text (l.take (i + 1)) = Word.text (l.take i) ++ [Word.low l[i]] := by
  unfold Word.text
  rw [List.take_succ_eq_append_getElem h, List.map_append]; rfl
theorem text_len (l : List Int) : (Word.text l).length = l.length := by simp [Word.text]
/-- The text of the letters. -/
def txt (l : List Int) : ByteArray := ⟨(Word.text l).toArray⟩
theorem txt_nil : txt [] = ⟨#[]⟩ := rfl
theorem txt_size (l : List Int) : (txt l).size = l.length := by
  show (Word.text l).toArray.size = _
  simp [text_len]
theorem txt_step {l : List Int} {i : Nat} (h : i < l.length) {s : ByteArray} (hs : s = ⟨#[Word.low l[i]]⟩) : txt (l.take i) ++ s = txt (l.take (i + 1)) := by
  rw [hs]
  apply ByteArray.ext
  unfold txt
  rw [text_take h]
  simp
theorem cut_low (j : Nat) (hj : j < 8) : ByteArray.extract ⟨#[97, 98, 99, 100, 101, 102, 103, 104]⟩ j (j + 1) = ⟨#[Word.low ((j : Int) + 1)]⟩ := by
  rcases (by omega : j = 0 ∨ j = 1 ∨ j = 2 ∨ j = 3 ∨ j = 4 ∨ j = 5 ∨ j = 6 ∨ j = 7) with rfl | rfl | rfl | rfl | rfl | rfl | rfl | rfl <;> rfl
theorem cut_up (j : Nat) (hj : j < 8) : ByteArray.extract ⟨#[65, 66, 67, 68, 69, 70, 71, 72]⟩ j (j + 1) = ⟨#[Word.low (-((j : Int) + 1))]⟩ := by
  rcases (by omega : j = 0 ∨ j = 1 ∨ j = 2 ∨ j = 3 ∨ j = 4 ∨ j = 5 ∨ j = 6 ∨ j = 7) with rfl | rfl | rfl | rfl | rfl | rfl | rfl | rfl <;> rfl
theorem said_text {l : List Int} (h : Word.IsW l) (hn : l.length ≠ 0) : Word.said l = Word.text l := by
  rw [Word.said, if_pos h, if_neg (by intro e; rw [e] at hn; exact hn rfl)]
theorem said_not {l : List Int} (h : ¬ Word.IsW l) : Word.said l = [] := if_neg h
theorem said_nil : Word.said [] = [45] := by
  rw [Word.said, if_pos ⟨(fun _ h => by cases h), by decide⟩, if_pos rfl]

set_option maxRecDepth 10000 in
set_option maxHeartbeats 400000 in
theorem impl_byteOfLetter (x : Int) (w : World) (h : Word.Letter x) : Calls Tryd.prog 95 #[.int .i64 x] w fun e w' => e = .returned (.int .u8 ((Word.low x).toNat : Int)) ∧ w' = w := by
  rcases letter_cases h with rfl | rfl | rfl | rfl | rfl | rfl | rfl | rfl | rfl | rfl | rfl | rfl | rfl | rfl | rfl | rfl
  all_goals clear h
  all_goals
    go_enter Tryd.func95, Tryd.ntmps95
    go_wp2
    go_ret
    exact ⟨rfl, rfl⟩

set_option maxRecDepth 10000 in
set_option maxHeartbeats 400000 in
theorem impl_WordText (a : Option Addr) (c : Nat) (l : List Int) (w : World) (ha : RowAt w a (intCells l)) (hl : l.length ≤ 1048576) :
    Calls Tryd.prog 80 #[.slice a l.length c] w fun e w' => e = .returned (.string ⟨(Word.said l).toArray⟩) ∧ Below w.heap.size w w' := by
  have hcW := impl_IsWord a c l w ha hl
  by_cases hW : Word.IsW l
  · rw [decide_eq_true hW] at hcW
    have Hcw := Lib.hid hcW; clear hcW
    have HW := Lib.hid hW; clear hW
    by_cases hn : l.length = 0
    · obtain rfl := List.eq_nil_of_length_eq_zero hn
      go_enter Tryd.func80, Tryd.ntmps80
      go_wp2_with fail
      refine Hcw.out.mono ?_
      rintro e w1 ⟨rfl, hb1⟩
      go_wp2
      go_ret
      exact ⟨by rw [said_nil]; rfl, hb1⟩
    · have hn1 : 0 < l.length := by omega
      have hd0 : ((l.length : Int) == 0) = false := by rw [beq_eq_false_iff_ne]; omega
      obtain ⟨i0, hi0, hz0, hz1, hz2⟩ := Bytes.info_ex
      have Hi0 := Lib.hid hi0; have Hz0 := Lib.hid hz0; have Hz1 := Lib.hid hz1; have Hz2 := Lib.hid hz2
      clear hi0 hz0 hz1 hz2
      generalize hN : w.heap.size = N at *
      have HN := Lib.hid hN; clear hN
      have Hn := Lib.hid hn; clear hn
      go_enter Tryd.func80, Tryd.ntmps80
      go_wp2_with fail
      refine Hcw.out.mono ?_
      rintro e w1 ⟨rfl, hb1⟩
      obtain ⟨cs, hcs, hmk⟩ := Bytes.make_cap l.length hl w1
      have Hcs := Lib.hid hcs; clear hcs
      go_wp2
      go_loopw [3, 5, 17] (fun ov _ iv wr => ∃ i : Nat, i ≤ l.length ∧ iv = .int .i64 i ∧ Below N w wr ∧ wr.ownsRow N 5 1 ov i (Bytes.cells (Word.text (l.take i)))) (fun _ _ iv _ => l.length - (intOf iv).toNat)
      case atStart => exact ⟨0, by omega, rfl, hb1.alloc (by have := hb1.size; rw [HN.out] at this; exact this) _, World.ownsRow_made w1 cs l.length (by have := hb1.size; rw [HN.out] at this; exact this) (by unfold maxLen; omega) (by rw [Hcs.out]; simp)⟩
      case round =>
        obtain ⟨i, hi, rfl, hb, hown⟩ := hrel
        by_cases hlt : i < l.length
        · have ha' : RowAt wr a (intCells l) := ha.below (by rw [HN.out]; exact hb)
          obtain ⟨b, o, rfl, hbw0, hcell⟩ := intCells_at ha' hlt
          have hLx := HW.out.at hlt
          have hst := text_take hlt
          have hNle : N ≤ wr.heap.size := by have := hb.size; rw [HN.out] at this; exact this
          have hby := impl_byteOfLetter l[i] wr hLx
          generalize hx : l[i] = x at *
          generalize hX : Word.text (l.take i) = X at *
          have HX := Lib.hid hX; have Hx := Lib.hid hx; have Hst := Lib.hid hst; have Hby := Lib.hid hby; have HLx := Lib.hid hLx
          clear hx hX hst hby hLx
          have hc1 : i + 1 ≤ maxLen := by unfold maxLen; omega
          have hc2 : (i + 1) * 1 ≤ 140737488355328 := by omega
          obtain ⟨av, cv, rfl⟩ := ownB_len hown
          go_wp2_with fail
          refine Hby.out.mono ?_
          rintro e w2 ⟨rfl, rfl⟩
          go_wp2_with (at_builtin; refine append_one rfl (.tmp 21) (.tmp 24) 31 rfl N 5 i0 _ 1 Tryd.underlying31 Hi0.out Hz0.out Hz1.out Hz2.out (by rfl) _ _ _ rfl hown (by rfl) _ rfl hc1 hc2 hNle ?_; intro v1 w1 hown1 hg1 _)
          go_roundw
          case rel =>
            refine ⟨i + 1, by omega, by go_num, Below.grown (hb.alloc hNle _) hg1 (by simp; omega) (fun k hk => (hown.lt k hk).1), ?_⟩
            rw [Hst.out, ← Bytes.cells_snoc]; exact hown1
          case measure => simp [intOf]; omega
        · obtain rfl : i = l.length := by omega
          rw [List.take_of_length_le (Nat.le_refl _)] at hown
          have hcv := Bytes.conv_own wr N _ (Word.text l) (by rw [text_len]; exact hown)
          go_wp2
          go_ret
          exact ⟨by rw [said_text HW.out Hn.out]; rfl, hb⟩
  · rw [decide_eq_false hW] at hcW
    have Hcw := Lib.hid hcW; clear hcW
    have HW := Lib.hid hW; clear hW
    go_enter Tryd.func80, Tryd.ntmps80
    go_wp2_with fail
    refine Hcw.out.mono ?_
    rintro e w1 ⟨rfl, hb1⟩
    go_wp2
    go_ret
    exact ⟨by rw [said_not HW.out]; rfl, hb1⟩

set_option maxRecDepth 10000 in
set_option maxHeartbeats 400000 in
theorem spec_l2Text (a : Option Addr) (c : Nat) (l : List Int) (w : World) (ha : RowAt w a (intCells l)) (hW : Word.IsW l) :
    Calls Tryd.prog 81 #[.slice a l.length c] w fun e w' => e = .returned (.string (txt l)) ∧ Below w.heap.size w w' := by
  have HW := Lib.hid hW
  have hl := hW.2
  clear hW
  go_enter Tryd.func81, Tryd.ntmps81
  go_wp2
  go_loopw [3, 4] (fun tv iv wr => ∃ i : Nat, i ≤ l.length ∧ iv = .int .i64 i ∧ Below w.heap.size w wr ∧ tv = .string (txt (l.take i))) (fun _ iv _ => l.length - (intOf iv).toNat)
  case atStart => exact ⟨0, by omega, rfl, Below.refl _ _, rfl⟩
  case round =>
    obtain ⟨i, hi, rfl, hb, rfl⟩ := hrel
    by_cases hlt : i < l.length
    · have ha' : RowAt wr a (intCells l) := ha.below hb
      obtain ⟨b, o, rfl, hbw0, hcell⟩ := intCells_at ha' hlt
      obtain ⟨hx0, hx1, hx2⟩ := HW.out.at hlt
      have hst := fun (s : ByteArray) hs => txt_step (l := l) (s := s) hlt hs
      have hsz := txt_size (l.take i)
      rw [List.length_take, Nat.min_eq_left hi] at hsz
      have h0i : (0 : Int) ≤ (i : Int) := by omega
      have hil : (i : Int) < (l.length : Int) := by omega
      generalize hx : l[i] = x at *
      generalize hX : txt (l.take i) = X at *
      have HX := Lib.hid hX; have Hx := Lib.hid hx; have Hst := Lib.hid hst
      clear hx hX hst
      by_cases hpos : 0 < x
      · obtain ⟨j, rfl⟩ : ∃ j : Nat, x = (j : Int) + 1 := ⟨(x - 1).toNat, by omega⟩
        have hj : j < 8 := by omega
        have hcut := cut_low j hj
        have Hcut := Lib.hid hcut
        have h0j : (0 : Int) ≤ (j : Int) := by omega
        have hj8 : (j : Int) + 1 ≤ 8 := by omega
        have hjj : (j : Int) ≤ (j : Int) + 1 := by omega
        have hwj := wrap_small (x := (j : Int)) (by omega) (by omega)
        clear hcut
        go_wp2
        go_quiet (fail)
        all_goals go_wp2
        all_goals
          go_roundw
          case rel =>
            refine ⟨i + 1, by omega, by go_num, below_drewN hb _, ?_⟩
            rw [← Hst.out _ Hcut.out]
          case measure => simp [intOf]; omega
      · obtain ⟨j, rfl⟩ : ∃ j : Nat, x = -((j : Int) + 1) := ⟨(-x - 1).toNat, by omega⟩
        have hj : j < 8 := by omega
        have hcut := cut_up j hj
        have Hcut := Lib.hid hcut
        have h0j : (0 : Int) ≤ (j : Int) := by omega
        have hj8 : (j : Int) + 1 ≤ 8 := by omega
        have hjj : (j : Int) ≤ (j : Int) + 1 := by omega
        have hwj := wrap_small (x := (j : Int)) (by omega) (by omega)
        have hwn := wrap_small (x := (j : Int) + 1) (by omega) (by omega)
        clear hcut
        go_wp2
        go_quiet (fail)
        all_goals go_wp2
        all_goals
          go_roundw
          case rel =>
            refine ⟨i + 1, by omega, by go_num, below_drewN hb _, ?_⟩
            rw [← Hst.out _ Hcut.out]
          case measure => simp [intOf]; omega
    · obtain rfl : i = l.length := by omega
      rw [List.take_of_length_le (Nat.le_refl _)]
      go_wp2
      go_ret
      exact ⟨rfl, hb⟩

end Go.Proofs.YtpgdmbolckogcaaDoor
