/-
  Rows of bytes of the call's own, and the texts made of them. The walks of the program's and the model's WordText.
-/
import Derived.Test.YtamgimdjnmcpaaaGreatBase
import Derived.Test.YtamgimdjnmcpaaaGreatSlice
import Derived.Lib.AppendStr
import Derived.Test.YtamgimdjnmcpaaaGreatInts
import Derived.Test.YtamgimdjnmcpaaaGreatWord
import Derived.Test.YtamgimdjnmcpaaaGreatIsWord
import Derived.Deep.QuietTactic
import Derived.BigQuiet
namespace Go.Proofs.YtamgimdjnmcpaaaGreat
open Go.RowKit

namespace Bytes
/-- The cells of bytes. -/
def cells (l : List UInt8) : List Value := l.map fun b => Value.int .u8 (b.toNat : Int)
theorem cells_snoc (l : List UInt8) (b : UInt8) : cells l ++ [.int .u8 (b.toNat : Int)] = cells (l ++ [b]) := by simp [cells]
theorem conv_own (w : World) (base : Nat) (v : Value) (l : List UInt8) (h : w.ownsRow base 5 1 v l.length (cells l)) :
    (convert 22 9 v).run Tryz.prog w = .ok (.string ⟨l.toArray⟩) w := by
  obtain ⟨_, ⟨rfl, h0⟩ | ⟨g, cap, cur, rfl, hb, hh, hn, hm, hc, ht⟩⟩ := h
  · obtain rfl : l = [] := List.eq_nil_of_length_eq_zero h0
    rw [run_convert_bytes_string w 22 9 5 none 0 0 Tryz.underlying22 Tryz.underlying5 Tryz.underlying9]; rfl
  · refine run_convert_bytes_back w 22 9 5 ⟨g, 0, none⟩ cap l Tryz.underlying22 Tryz.underlying5 Tryz.underlying9 (fun j hj => ?_)
    have e : (⟨g, 0, none⟩ : Addr).add j = ⟨g, j, none⟩ := by unfold Addr.add; split <;> simp_all
    rw [e, cell_of_row w g j cur _ _ hh]
    have h1 : (cells l)[j]? = some (Value.int .u8 (l[j].toNat : Int)) := by simp [cells, hj]
    rw [← ht, List.getElem?_take] at h1
    rw [if_pos (by simpa using hj)] at h1
    simpa using h1
theorem info : (Tryz.prog.info? 5).map (fun i => (i.zero, i.size, i.bytes)) = some (some (.int .u8 0), 1, 1) := by kernel_rfl
theorem info_ex : ∃ i, Tryz.prog.info? 5 = some i ∧ i.zero = some (.int .u8 0) ∧ i.size = 1 ∧ i.bytes = 1 := by
  obtain ⟨i, h1, h2, h3, h4⟩ := info_parts info
  exact ⟨i, h1, h2, h3, h4⟩
theorem make_cap (n : Nat) (hn : n ≤ 1048576) (w : World) : ∃ cs : Array Value, cs.size = n ∧ (Instr.makeSlice 22 (.int .i64 0) (.int .i64 (n : Int))).run Tryz.prog w = .ok (.slice (some ⟨w.heap.size, 0, none⟩) 0 n) (w.alloc (.cells cs 5)) := by
  obtain ⟨i0, hi, hz0, hz1, hz2⟩ := info_ex
  have h := run_make_rowN (P := Tryz.prog) 22 5 i0 _ Tryz.underlying22 hi hz0 .i64 .i64 0 n (Nat.zero_le _) (by rw [hz2]; omega) (by omega) w
  refine ⟨_, ?_, h⟩
  rw [hz1, Nat.mul_one]
  show (madeCells #[Value.int .u8 0] n).size = n
  rw [made_one]; simp
end Bytes
theorem ownB_len {w : World} {base n : Nat} {e : TypeId} {v : Value} {xs : List Value} (h : w.ownsRow base e 1 v n xs) : ∃ a cap, v = .slice a n cap := by
  obtain ⟨_, ⟨h1, rfl⟩ | ⟨g, cap, cur, h1, hg, hh, hle, hmx, hc, ht⟩⟩ := h
  · exact ⟨none, 0, h1⟩
  · exact ⟨_, cap, h1⟩
end Go.Proofs.YtamgimdjnmcpaaaGreat
namespace Go.Proofs.YtamgimdjnmcpaaaGreat
open Go.RowKit

theorem letter_cases {x : Int} (h : Word.Letter x) : x = -8 ∨ x = -7 ∨ x = -6 ∨ x = -5 ∨ x = -4 ∨ x = -3 ∨ x = -2 ∨ x = -1 ∨ x = 1 ∨ x = 2 ∨ x = 3 ∨ x = 4 ∨ x = 5 ∨ x = 6 ∨ x = 7 ∨ x = 8 := by
  obtain ⟨h0, h1, h2⟩ := h; omega
theorem text_take {l : List Int} {i : Nat} (h : i < l.length) : Word.text (l.take (i + 1)) = Word.text (l.take i) ++ [Word.low l[i]] := by
  unfold Word.text
  rw [List.take_succ_eq_append_getElem h, List.map_append]; rfl
theorem text_len (l : List Int) : (Word.text l).length = l.length := by simp [Word.text]
/-- The text of the letters. -/
def txt (l : List Int) : ByteArray := ⟨(Word.text l).toArray⟩
theorem txt_nil : txt [] = ⟨#[]⟩ := rfl
theorem txt_size (l : List Int) : (txt l).size = l.length := by
  show (Word.text l).toArray.size = _
  simp [text_len]
theorem txt_step {l : List Int} {i : Nat} (h : i < l.length) {s : ByteArray} (hs : s = ⟨#[Word.low l[i]]⟩) : txt (l.take i) ++ s = txt (l.take (i + 1)) := by
  rw [hs]
  apply ByteArray.ext
  unfold txt
  rw [text_take h]
  simp
theorem cut_low (j : Nat) (hj : j < 8) : ByteArray.extract ⟨#[97, 98, 99, 100, 101, 102, 103, 104]⟩ j (j + 1) = ⟨#[Word.low ((j : Int) + 1)]⟩ := by
  rcases (by omega : j = 0 ∨ j = 1 ∨ j = 2 ∨ j = 3 ∨ j = 4 ∨ j = 5 ∨ j = 6 ∨ j = 7) with rfl | rfl | rfl | rfl | rfl | rfl | rfl | rfl <;> rfl
theorem cut_up (j : Nat) (hj : j < 8) : ByteArray.extract ⟨#[65, 66, 67, 68, 69, 70, 71, 72]⟩ j (j + 1) = ⟨#[Word.low (-((j : Int) + 1))]⟩ := by
  rcases (by omega : j = 0 ∨ j = 1 ∨ j = 2 ∨ j = 3 ∨ j = 4 ∨ j = 5 ∨ j = 6 ∨ j = 7) with rfl | rfl | rfl | rfl | rfl | rfl | rfl | rfl <;> rfl
theorem said_text {l : List Int} (h : Word.IsW l) (hn : l.length ≠ 0) : Word.said l = Word.text l := by
  rw [Word.said, if_pos h, if_neg (by intro e; rw [e] at hn; exact hn rfl)]
theorem said_not {l : List Int} (h : ¬ Word.IsW l) : Word.said l = [] := if_neg h
theorem said_nil : Word.said [] = [45] := by
  rw [Word.said, if_pos ⟨(fun _ h => by cases h), by decide⟩, if_pos rfl]




end Go.Proofs.YtamgimdjnmcpaaaGreat
