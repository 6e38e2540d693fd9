/-
  The walks of DualMap and MirrorMap, the program's and the model's.
-/
import Derived.Test.YtodgongemoabiaaBase
import Derived.Test.YtodgongemoabiaaSlice
import Derived.Test.YtodgongemoabiaaInts
import Derived.Test.YtodgongemoabiaaGrid
import Derived.Test.YtodgongemoabiaaOwn
import Derived.Test.YtodgongemoabiaaAppend
import Derived.Test.YtodgongemoabiaaClass
import Derived.Test.YtodgongemoabiaaLab
import Derived.Test.YtodgongemoabiaaMap
import Derived.Test.YtodgongemoabiaaMapA
import Derived.Test.YtodgongemoabiaaMapB
import Derived.StillTailTactics
import Derived.Deep.QuietTactic
import Derived.BigQuiet
namespace Go.Proofs.Ytodgongemoabiaa
open Go.RowKit

theorem row_snoc (f : Nat → Nat) (i : Nat) : Cls.row f i ++ [((f i : Nat) : Int)] = Cls.row f (i + 1) := by
  unfold Cls.row; rw [List.range_succ, List.map_append]; rfl
/-- A row that a call has made. -/
theorem lab_gives {w w' : World} {g n : Nat} {f : Nat → Nat} (h : Lab w' g f n) (hg : w.heap.size ≤ g) (hn : n ≤ maxLen) (hb : Below w.heap.size w w') : Gives w (Cls.row f n) (.returned (.slice (some ⟨g, 0, none⟩) n n)) w' := by
  obtain ⟨all, h1, h2⟩ := h
  refine ⟨_, n, by rw [Cls.row_len], by rw [Cls.row_len]; exact Nat.le_refl _, hn, Or.inr ⟨g, 0, all, rfl, hg, h1, fun i v hv => ?_⟩, hb⟩
  have hi : i < n := by
    have := (List.getElem?_eq_some_iff.1 hv).1
    rwa [intCells_len, Cls.row_len] at this
  rw [Nat.zero_add, h2 i hi]
  simp [intCells, Cls.row_get hi] at hv
  rw [← hv]



theorem own_zeros (w : World) (n : Nat) (hn : n ≤ 1000) : (w.alloc (.cells (intCells (Cls.row (fun _ => 0) n)).toArray 3)).ownsRow w.heap.size 3 1 (.slice (some ⟨w.heap.size, 0, none⟩) n n) n (intCells (Cls.row (fun _ => 0) n)) := by
  refine ⟨by rw [intCells_len, Cls.row_len, Nat.mul_one], Or.inr ⟨w.heap.size, n, _, rfl, Nat.le_refl _, heap_alloc_new w _, Nat.le_refl _, by unfold maxLen; omega, by simp [intCells_len, Cls.row_len], ?_⟩⟩
  simp only [Nat.mul_one, List.toList_toArray]
  rw [List.take_of_length_le (by rw [intCells_len, Cls.row_len]; exact Nat.le_refl _)]

theorem give_next {w w1 w2 : World} {q g n cap : Nat} {f : Nat → Nat} (h : w2.ownsRow w1.heap.size 3 1 (.slice (some ⟨g, 0, none⟩) n cap) n (intCells (Cls.row f n))) (hb : Below w.heap.size w w1) (hb2 : Below w1.heap.size w1 w2) : Gives w (Cls.row f n) (.returned (.slice (some ⟨g, 0, none⟩) n cap)) w2 :=
  (own_gives h (Cls.row_len _ _) hb2).later hb

set_option maxRecDepth 10000 in
set_option maxHeartbeats 1000000 in
theorem spec_l6Inverse (a : Option Addr) (c : Nat) (l : List Int) (w : World) (ha : RowAt w a (intCells l)) (hM : Mp.IsM l) :
    Calls Try.prog 172 #[.slice a l.length c] w fun e w' => Gives w (Mp.mirror l) e w' := by
  have hn : l.length ≤ 24 := hM.2.1
  have hmk := mk_zeros l.length (by omega)
  have hst := Lab.of_blk (Blk.new w 3 (intCells (Cls.row (fun _ => 0) l.length)).toArray)
  have hb0 := (Below.refl w.heap.size w).alloc (Nat.le_refl _) (.cells (intCells (Cls.row (fun _ => 0) l.length)).toArray 3)
  have hgv := fun w' (h : Lab w' w.heap.size (Mp.invTo l l.length) l.length) (hb : Below w.heap.size w w') => lab_gives h (Nat.le_refl _) (by unfold maxLen; omega) hb
  generalize hN : w.heap.size = N at *
  have HN := Lib.hid hN
  have Hst := Lib.hid hst; have Hb0 := Lib.hid hb0; have Ha := Lib.hid ha; have HM := Lib.hid hM; have Hgv := Lib.hid hgv
  clear hst hb0 ha hM hgv
  go_enter Try.func172, Try.ntmps172
  go_wp2
  go_loopw [4] (fun iv wr => ∃ i : Nat, i ≤ l.length ∧ iv = .int .i64 i ∧ Hid (Below N w wr) ∧ Hid (Lab wr N (Mp.invTo l i) l.length)) (fun iv _ => l.length - (intOf iv).toNat)
  case atStart => exact ⟨0, by omega, rfl, Hb0, Hst⟩
  case round =>
    obtain ⟨i, hi, rfl, hb, hk⟩ := hrel
    by_cases hlt : i < l.length
    · have hx := Mp.at_get HM.out.2.2.2 hlt
      have hyl := Mp.at_lt HM.out.2.2.2 hlt
      obtain ⟨b, o, rfl, hbw, hcell⟩ := intCells_get? (Ha.out.below (by rw [HN.out]; exact hb.out)) hx
      have hdst := hk.out.cell hyl
      have hfz := hk.out.frozen (Mp.at_ l i)
      have hput := hk.out.put (b := i) hyl
      have hst := hb.out.setCell (p := ⟨N, Mp.at_ l i, none⟩) (Nat.le_refl _) (.int .i64 ((i : Nat) : Int))
      have Hnext : Hid (∀ k, (if k = Mp.at_ l i then i else Mp.invTo l i k) = Mp.invTo l (i + 1) k) := Lib.hid (fun k => rfl)
      generalize Mp.invTo l i (Mp.at_ l i) = z at hdst
      generalize Mp.at_ l i = y at *
      have Hput := Lib.hid hput; have Hst2 := Lib.hid hst
      clear hput hst hx
      go_wp2
      go_roundw
      case rel => exact ⟨i + 1, by omega, by go_num, Hst2, Lib.hid (Hput.out.congr fun k _ => Hnext.out k)⟩
      case measure => simp [intOf]; omega
    · obtain rfl : i = l.length := by omega
      go_wp2
      go_ret
      exact Hgv.out _ hk.out hb.out



end Go.Proofs.Ytodgongemoabiaa
