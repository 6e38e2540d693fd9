/-
  The walks of the program's and the model's WordText.
-/
import Derived.Test.YtfaagbmaekoogaaBase
import Derived.Test.YtfaagbmaekoogaaSlice
import Derived.Test.YtfaagbmaekoogaaInts
import Derived.Test.YtfaagbmaekoogaaWord
import Derived.Test.YtfaagbmaekoogaaIsWord
import Derived.Test.YtfaagbmaekoogaaBytes
import Derived.Deep.QuietTactic
import Derived.BigQuiet
namespace Go.Proofs.Ytfaagbmaekoogaa
open Go.RowKit

theorem letter_cases {x : Int} (h : Word.Letter x) : x = -8 ∨ x = -7 ∨ x = -6 ∨ x = -5 ∨ x = -4 ∨ x = -3 ∨ x = -2 ∨ x = -1 ∨ x = 1 ∨ x = 2 ∨ x = 3 ∨ x = 4 ∨ x = 5 ∨ x = 6 ∨ x = 7 ∨ x = 8 := by
  obtain ⟨h0, h1, h2⟩ := h; omega
theorem text_take {l : List Int} {i : Nat} (h : i < l.length) : Word.text (l.take (i + 1)) = Word.text (l.take i) ++ [Word.low l[i]] := by
  unfold Word.text
  rw [List.take_succ_eq_append_getElem h, List.map_append]; rfl
theorem text_len (l : List Int) : (Word.text l).length = l.length := by simp [Word.text]
/-- The text of the letters. -/
def txt (l : List Int) : ByteArray := ⟨(Word.text l).toArray⟩
theorem txt_nil : txt [] = ⟨#[]⟩ := rfl
theorem txt_size (l : List Int) : (txt l).size = l.length := by
  show (Word.text l).toArray.size = _
  simp [text_len]
theorem txt_step {l : List Int} {i : Nat} (h : i < l.length) {s : ByteArray} (hs : s = ⟨#[Word.low l[i]]⟩) : txt (l.take i) ++ s = txt (l.take (i + 1)) := by
  rw [hs]
  apply ByteArray.ext
  unfold txt
  rw [text_take h]
  simp
theorem cut_low (j : Nat) (hj : j < 8) : ByteArray.extract ⟨#[97, 98, 99, 100, 101, 102, 103, 104]⟩ j (j + 1) = ⟨#[Word.low ((j : Int) + 1)]⟩ := by
  rcases (by omega : j = 0 ∨ j = 1 ∨ j = 2 ∨ j = 3 ∨ j = 4 ∨ j = 5 ∨ j = 6 ∨ j = 7) with rfl | rfl | rfl | rfl | rfl | rfl | rfl | rfl <;> rfl
theorem cut_up (j : Nat) (hj : j < 8) : ByteArray.extract ⟨#[65, 66, 67, 68, 69, 70, 71, 72]⟩ j (j + 1) = ⟨#[Word.low (-((j : Int) + 1))]⟩ := by
  rcases (by omega : j = 0 ∨ j = 1 ∨ j = 2 ∨ j = 3 ∨ j = 4 ∨ j = 5 ∨ j = 6 ∨ j = 7) with rfl | rfl | rfl | rfl | rfl | rfl | rfl | rfl <;> rfl
theorem said_text {l : List Int} (h : Word.IsW l) (hn : l.length ≠ 0) : Word.said l = Word.text l := by
  rw [Word.said, if_pos h, if_neg (by intro e; rw [e] at hn; exact hn rfl)]
theorem said_not {l : List Int} (h : ¬ Word.IsW l) : Word.said l = [] := if_neg h
theorem said_nil : Word.said [] = [45] := by
  rw [Word.said, if_pos ⟨(fun _ h => by cases h), by decide⟩, if_pos rfl]




end Go.Proofs.Ytfaagbmaekoogaa
