/-
  The walk of spec.FormatInt: it returns the decimal numeral of its argument.
-/
import Derived.Test.YtehibigjdbpikaaGreatDoorRows
import Derived.WalkKit
import Derived.WalkSpells
import Derived.WalkLawsBesides
import Derived.Lib.ItoaNum
import Derived.Lib.Hide
namespace Go.Proofs.YtehibigjdbpikaaGreatDoor
open Go.RowKit

namespace Fmt
/-- What is left of the numeral: the digits of m ahead of l. -/
def Left (N m : Int) (l : List UInt8) : Prop := (m.natAbs = 0 ∧ l = Lib.decDigits N.natAbs) ∨ (m.natAbs ≠ 0 ∧ Lib.decDigits m.natAbs ++ l = Lib.decDigits N.natAbs)
theorem left_step {N m : Int} {l : List UInt8} (h : Left N m l) (hm : m.natAbs ≠ 0) : Left N (m.tdiv 10) ((48 + UInt8.ofNat (m.natAbs % 10)) :: l) := by
  rw [show (48 : UInt8) + UInt8.ofNat (m.natAbs % 10) = UInt8.ofNat (48 + m.natAbs % 10) from by rw [UInt8.ofNat_add]; rfl]
  obtain ⟨h0, _⟩ | ⟨_, h⟩ := h
  · omega
  have e : (m.tdiv 10).natAbs = m.natAbs / 10 := by rw [Int.natAbs_tdiv]; rfl
  unfold Left
  rw [e]
  by_cases hs : m.natAbs < 10
  · left
    refine ⟨by omega, ?_⟩
    rw [← h, Lib.decDigits, dif_pos hs, Nat.mod_eq_of_lt hs]; rfl
  · right
    refine ⟨by omega, ?_⟩
    rw [← h]
    conv => rhs; rw [Lib.decDigits, dif_neg hs]
    simp
theorem nDigits_le : ∀ (k u : Nat), u < 10 ^ (k + 1) → Lib.nDigits u ≤ k + 1
  | 0, u, h => by rw [Lib.nDigits_small (by simpa using h)]; exact Nat.le_refl _
  | k + 1, u, h => by
    by_cases hs : u < 10
    · rw [Lib.nDigits_small hs]; omega
    · rw [Lib.nDigits_big hs]
      have := nDigits_le k (u / 10) (by rw [Nat.pow_succ] at h; omega)
      omega
theorem left_len {N m : Int} {l : List UInt8} (h : Left N m l) (hN : N.natAbs ≤ 9223372036854775808) : l.length ≤ 19 := by
  have e : (Lib.decDigits N.natAbs).length ≤ 19 := by rw [Lib.decDigits_length]; exact nDigits_le 18 _ (by omega)
  obtain ⟨_, rfl⟩ | ⟨_, h⟩ := h
  · exact e
  · rw [← h] at e; simp at e; omega
theorem tmod_neg {m : Int} {d : Nat} (h : m ≤ 0) (hd : m.natAbs % 10 = d) : m.tmod 10 = -(d : Int) := by
  have e : m = -(m.natAbs : Int) := by omega
  rw [e, Int.neg_tmod, ← hd]
  rfl
theorem itoa_size {n : Int} (h0 : -9223372036854775808 ≤ n) (h1 : n ≤ 9223372036854775807) : (⟨(Lib.itoa n).toArray⟩ : ByteArray).size ≤ 100 := by
  have e : (Lib.decDigits n.natAbs).length ≤ 19 := by rw [Lib.decDigits_length]; exact nDigits_le 18 _ (by omega)
  show (Lib.itoa n).toArray.size ≤ 100
  rw [List.size_toArray, Lib.itoa]
  split
  · simp; omega
  · rw [show n.toNat = n.natAbs from by omega]; omega
theorem left_end {N : Int} {l : List UInt8} (h : Left N 0 l) : l = Lib.decDigits N.natAbs := by
  obtain ⟨_, h⟩ | ⟨h, _⟩ := h
  · exact h
  · exact absurd rfl h
theorem abs_nat {n : Int} (h : 0 ≤ n) : n.natAbs = n.toNat := by omega
theorem tdiv_le {m : Int} (h : m ≤ 0) : m.tdiv 10 ≤ 0 := by
  have e : m = -(m.natAbs : Int) := by omega
  rw [e, Int.neg_tdiv, Int.tdiv_eq_ediv_of_nonneg (by omega)]; omega
theorem tdiv_ge {m : Int} (h0 : m ≤ 0) (h : -9223372036854775808 ≤ m) : -9223372036854775808 ≤ m.tdiv 10 := by
  have e : (m.tdiv 10).natAbs = m.natAbs / 10 := by rw [Int.natAbs_tdiv]; rfl
  omega
theorem tdiv_abs {m : Int} (h : ¬ m = 0) : (m.tdiv 10).natAbs < m.natAbs := by
  have e : (m.tdiv 10).natAbs = m.natAbs / 10 := by rw [Int.natAbs_tdiv]; rfl
  omega
/-- A text of one byte, as the model makes it. -/
theorem one_byte (W : World) (z : Int) (h0 : 0 ≤ z) (h1 : z ≤ 255) :
    (convert 22 9 (.slice (some ⟨W.heap.size, 0, none⟩) 1 1)).run Tryz.prog (W.alloc (.cells #[.int .u8 z] 5)) = .ok (.string ⟨#[UInt8.ofNat z.toNat]⟩) (W.alloc (.cells #[.int .u8 z] 5)) := by
  have h := run_convert_bytes_back (P := Tryz.prog) (W.alloc (.cells #[.int .u8 z] 5)) 22 9 5 ⟨W.heap.size, 0, none⟩ 1 [UInt8.ofNat z.toNat] Tryz.underlying22 Tryz.underlying5 Tryz.underlying9 (fun j hj => by
    obtain rfl : j = 0 := by simpa using hj
    have e : (((UInt8.ofNat z.toNat).toNat : Nat) : Int) = z := by simp; omega
    simp only [List.getElem_cons_zero, e]
    have : (⟨W.heap.size, 0, none⟩ : Addr).add 0 = ⟨W.heap.size, 0, none⟩ := rfl
    rw [this]
    go_simp)
  exact h
end Fmt

set_option maxRecDepth 10000 in
set_option maxHeartbeats 400000 in
theorem spec_FormatInt (n : Int) (w : World) (h0 : -9223372036854775808 ≤ n) (h1 : n ≤ 9223372036854775807) :
    Calls Tryz.prog 86 #[.int .i64 n] w fun e w' => e = .returned (.string ⟨(Lib.itoa n).toArray⟩) ∧ Below w.heap.size w w' := by
  by_cases hz : n = 0
  · subst hz
    go_enter Tryz.func86, Tryz.ntmps86
    go_wp2
    go_ret
    exact ⟨by simp [Lib.itoa, Lib.decDigits], Below.refl _ _⟩
  · have hz1 : (n == 0) = false := by simpa using hz
    by_cases hn : n < 0
    · have hn1 : decide (n < 0) = true := by simpa using hn
      go_enter Tryz.func86, Tryz.ntmps86
      go_wp2
      go_loopw [0, 4, 5] (fun mv lv dv wr => ∃ m : Int, mv = .int .i64 m ∧ m ≤ 0 ∧ -9223372036854775808 ≤ m ∧ ∃ l, lv = .string ⟨l.toArray⟩ ∧ Fmt.Left n m l ∧ Below w.heap.size w wr) (fun mv _ _ _ => (intOf mv).natAbs)
      case atStart => exact ⟨n, rfl, by omega, by omega, [], rfl, Or.inr ⟨by omega, by simp⟩, Below.refl _ _⟩
      case round =>
        obtain ⟨m, rfl, hm0, hm1, l, rfl, hl, hb⟩ := hrel
        have hlen := Fmt.left_len hl (by omega)
        have Hl := Lib.hid hl; clear hl
        by_cases hmz : m = 0
        · subst hmz
          go_wp2
          go_ret
          refine ⟨?_, hb⟩
          rw [Fmt.left_end Hl.out]
          simp only [Lib.itoa, if_pos hn]
          exact congrArg (fun s => Ending.returned (Value.string s)) (ByteArray.ext (by simp))
        · have hmz1 : (m == 0) = false := by simpa using hmz
          obtain ⟨d, hd⟩ : ∃ d : Nat, m.natAbs % 10 = d := ⟨_, rfl⟩
          have hd9 : d ≤ 9 := by omega
          have hr : m.tmod 10 = -(d : Int) := Fmt.tmod_neg hm0 hd
          have hs := Fmt.left_step Hl.out (by omega)
          rw [hd] at hs
          have Hs := Lib.hid hs; clear hs
          have Hd := Lib.hid hd; clear hd
          rcases Nat.eq_zero_or_pos d with rfl | hd0
          · have hcv := fun W => Fmt.one_byte W 48 (by omega) (by omega)
            go_wp2
            go_roundw
            case rel => exact ⟨_, rfl, Fmt.tdiv_le hm0, Fmt.tdiv_ge hm0 hm1, _, rfl, Hs.out, hb.alloc hb.size _⟩
            case measure => exact Fmt.tdiv_abs hmz
          · have hcv := fun W => Fmt.one_byte W (48 + (d : Int)) (by omega) (by omega)
            go_wp2
            go_roundw
            case rel => exact ⟨_, rfl, Fmt.tdiv_le hm0, Fmt.tdiv_ge hm0 hm1, _, rfl, Hs.out, hb.alloc hb.size _⟩
            case measure => exact Fmt.tdiv_abs hmz
    · have hn1 : decide (n < 0) = false := by simpa using hn
      go_enter Tryz.func86, Tryz.ntmps86
      go_wp2
      go_loopw [0, 4, 5] (fun mv lv dv wr => ∃ m : Int, mv = .int .i64 m ∧ 0 ≤ m ∧ m ≤ 9223372036854775807 ∧ ∃ l, lv = .string ⟨l.toArray⟩ ∧ Fmt.Left n m l ∧ Below w.heap.size w wr) (fun mv _ _ _ => (intOf mv).natAbs)
      case atStart => exact ⟨n, rfl, by omega, by omega, [], rfl, Or.inr ⟨by omega, by simp⟩, Below.refl _ _⟩
      case round =>
        obtain ⟨m, rfl, hm0, hm1, l, rfl, hl, hb⟩ := hrel
        have hlen := Fmt.left_len hl (by omega)
        have Hl := Lib.hid hl; clear hl
        by_cases hmz : m = 0
        · subst hmz
          go_wp2
          go_ret
          refine ⟨?_, hb⟩
          rw [Fmt.left_end Hl.out]
          simp [Lib.itoa, hn, Fmt.abs_nat (show 0 ≤ n by omega)]
        · have hmz1 : (m == 0) = false := by simpa using hmz
          obtain ⟨d, hd⟩ : ∃ d : Nat, m.natAbs % 10 = d := ⟨_, rfl⟩
          have hd9 : d ≤ 9 := by omega
          have hr : m % 10 = (d : Int) := by omega
          have hs := Fmt.left_step Hl.out (by omega)
          rw [hd, Int.tdiv_eq_ediv_of_nonneg hm0] at hs
          have Hs := Lib.hid hs; clear hs
          have Hd := Lib.hid hd; clear hd
          have hcv := fun W => Fmt.one_byte W (48 + (d : Int)) (by omega) (by omega)
          go_wp2
          go_roundw
          case rel => exact ⟨_, rfl, by omega, by omega, _, rfl, Hs.out, hb.alloc hb.size _⟩
          case measure => simp [intOf]; omega
end Go.Proofs.YtehibigjdbpikaaGreatDoor
