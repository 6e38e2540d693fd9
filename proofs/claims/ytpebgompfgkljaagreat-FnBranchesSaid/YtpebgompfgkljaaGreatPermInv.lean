/-
  The walk of the model's inverse of a permutation.
-/
import Derived.Test.YtpebgompfgkljaaGreatBase
import Derived.Test.YtpebgompfgkljaaGreatSlice
import Derived.Test.YtpebgompfgkljaaGreatInts
import Derived.Test.YtpebgompfgkljaaGreatOwn
import Derived.Test.YtpebgompfgkljaaGreatClass
import Derived.Test.YtpebgompfgkljaaGreatLab
import Derived.Test.YtpebgompfgkljaaGreatMap
namespace Go.Proofs.YtpebgompfgkljaaGreat
open Go.RowKit

/-- A row that a call has made. -/
theorem lab_givesP {w w' : World} {g n : Nat} {f : Nat → Nat} (h : Lab w' g f n) (hg : w.heap.size ≤ g) (hn : n ≤ maxLen) (hb : Below w.heap.size w w') : Gives w (Cls.row f n) (.returned (.slice (some ⟨g, 0, none⟩) n n)) w' := by
  obtain ⟨all, h1, h2⟩ := h
  refine ⟨_, n, by rw [Cls.row_len], by rw [Cls.row_len]; exact Nat.le_refl _, hn, Or.inr ⟨g, 0, all, rfl, hg, h1, fun i v hv => ?_⟩, hb⟩
  have hi : i < n := by
    have := (List.getElem?_eq_some_iff.1 hv).1
    rwa [intCells_len, Cls.row_len] at this
  rw [Nat.zero_add, h2 i hi]
  rw [intCells_get (by rw [Cls.row_len]; exact hi)] at hv
  have hr : (Cls.row f n)[i]'(by rw [Cls.row_len]; exact hi) = ((f i : Nat) : Int) := by simp [Cls.row]
  rw [hr] at hv
  exact hv
set_option maxRecDepth 100000 in
theorem mk_zerosP (n : Nat) (h1 : n ≤ 1000) (w : World) : (Instr.makeSlice 30 (.int .i64 (n : Int)) (.int .i64 (n : Int))).run Tryz.prog w = .ok (.slice (some ⟨w.heap.size, 0, none⟩) n n) (w.alloc (.cells (intCells (Cls.row (fun _ => 0) n)).toArray 3)) := by
  obtain ⟨i0, hi, hz0, hz1, hz2⟩ := info_parts info_int
  have h := run_make_rowN (P := Tryz.prog) 30 3 i0 _ Tryz.underlying30 hi hz0 .i64 .i64 n n (Nat.le_refl _) (by rw [hz2]; omega) (by omega) w
  have e : madeCells (Value.int .i64 0).cells (n * i0.size) = (intCells (Cls.row (fun _ => 0) n)).toArray := by
    rw [hz1, Nat.mul_one]
    show madeCells #[Value.int .i64 0] n = _
    rw [made_one]
    congr 1
    apply List.ext_getElem?
    intro k
    by_cases hk : k < n
    · simp [intCells, Cls.row, hk]
    · rw [List.getElem?_eq_none (by simp; omega), List.getElem?_eq_none (by rw [intCells_len, Cls.row_len]; omega)]
  rw [e] at h
  exact h

set_option maxRecDepth 10000 in
set_option maxHeartbeats 1000000 in
set_option maxRecDepth 10000 in
set_option maxHeartbeats 1000000 in
theorem spec_l6InverseP (a : Option Addr) (c : Nat) (l : List Int) (w : World) (ha : RowAt w a (intCells l)) (hn : l.length ≤ 1000) (hM : Mp.IsP l) :
    Calls Tryz.prog 102 #[.slice a l.length c] w fun e w' => Gives w (Mp.mirror l) e w' := by
  have hmk := mk_zerosP l.length (by omega)
  have hst := Lab.of_blk (Blk.new w 3 (intCells (Cls.row (fun _ => 0) l.length)).toArray)
  have hb0 := (Below.refl w.heap.size w).alloc (Nat.le_refl _) (.cells (intCells (Cls.row (fun _ => 0) l.length)).toArray 3)
  have hgv := fun w' (h : Lab w' w.heap.size (Mp.invTo l l.length) l.length) (hb : Below w.heap.size w w') => lab_givesP h (Nat.le_refl _) (by unfold maxLen; omega) hb
  generalize hN : w.heap.size = N at *
  have HN := Lib.hid hN
  have Hst := Lib.hid hst; have Hb0 := Lib.hid hb0; have Ha := Lib.hid ha; have HM := Lib.hid hM; have Hgv := Lib.hid hgv
  clear hst hb0 ha hM hgv
  go_enter Tryz.func102, Tryz.ntmps102
  go_wp2
  go_loopw [4] (fun iv wr => ∃ i : Nat, i ≤ l.length ∧ iv = .int .i64 i ∧ Hid (Below N w wr) ∧ Hid (Lab wr N (Mp.invTo l i) l.length)) (fun iv _ => l.length - (intOf iv).toNat)
  case atStart => exact ⟨0, by omega, rfl, Hb0, Hst⟩
  case round =>
    obtain ⟨i, hi, rfl, hb, hk⟩ := hrel
    by_cases hlt : i < l.length
    · have hx := Mp.at_get HM.out hlt
      have hyl := Mp.at_lt HM.out hlt
      obtain ⟨b, o, rfl, hbw, hcell⟩ := intCells_get? (Ha.out.below (by rw [HN.out]; exact hb.out)) hx
      have hdst := hk.out.cell hyl
      have hfz := hk.out.frozen (Mp.at_ l i)
      have hput := hk.out.put (b := i) hyl
      have hst := hb.out.setCell (p := ⟨N, Mp.at_ l i, none⟩) (Nat.le_refl _) (.int .i64 ((i : Nat) : Int))
      have Hnext : Hid (∀ k, (if k = Mp.at_ l i then i else Mp.invTo l i k) = Mp.invTo l (i + 1) k) := Lib.hid (fun k => rfl)
      generalize Mp.invTo l i (Mp.at_ l i) = z at hdst
      generalize Mp.at_ l i = y at *
      have Hput := Lib.hid hput; have Hst2 := Lib.hid hst
      clear hput hst hx
      go_wp2
      go_roundw
      case rel => exact ⟨i + 1, by omega, by go_num, Hst2, Lib.hid (Hput.out.congr fun k _ => Hnext.out k)⟩
      case measure => simp [intOf]; omega
    · obtain rfl : i = l.length := by omega
      go_wp2
      go_ret
      exact Hgv.out _ hk.out hb.out
end Go.Proofs.YtpebgompfgkljaaGreat
