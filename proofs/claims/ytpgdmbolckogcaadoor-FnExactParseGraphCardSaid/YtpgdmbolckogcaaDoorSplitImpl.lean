/-
  The program's SplitByte, by the library's Split.
-/
import Derived.Test.YtpgdmbolckogcaaDoorBase
import Derived.Test.YtpgdmbolckogcaaDoorSlice
import Derived.Test.YtpgdmbolckogcaaDoorStrs
import Derived.Test.YtpgdmbolckogcaaDoorFmt
import Derived.Test.YtpgdmbolckogcaaDoorSplit
import Derived.Test.YtpgdmbolckogcaaDoorShelfSplit
import Derived.ChangeAgain
namespace Go.Proofs.YtpgdmbolckogcaaDoor
open Go.RowKit
theorem shaped_below {P : Program} {w w' : World} (h : w.ShapedOpen P) (hb : Below w.heap.size w w') : w'.ShapedOpen P := h.keptBut (hb.frame (fun _ => False)) (fun _ h => h.elim)

set_option maxRecDepth 10000 in
theorem impl_SplitByte (s : ByteArray) (c : UInt8) (w : World) (hsh : w.ShapedOpen Tryd.prog) (hs : s.size ≤ 1048576) :
    Calls Tryd.prog 50 #[.string s, .int .u8 c.toNat] w fun e w' =>
      (∃ g, e = .returned (.slice (some ⟨g, 0, none⟩) (strCells (Split.pieces c s)).length (strCells (Split.pieces c s)).length) ∧ w.heap.size ≤ g ∧ Blk w' g 9 (strCells (Split.pieces c s)).toArray) ∧ Below w.heap.size w w' := by
  have hb0 : Below w.heap.size w (w.alloc (.cells #[.int .u8 c.toNat] 5)) := (Below.refl _ _).alloc (Nat.le_refl _) _
  have hc8 := c.toNat_lt
  have hcv := fun W => Fmt.one_byte W (c.toNat : Int) (by omega) (by omega)
  have hone : UInt8.ofNat ((c.toNat : Int)).toNat = c := by simp
  rw [hone] at hcv
  have hj := Tryd.strings_Split_shaped s ⟨#[c]⟩ _ (shaped_below hsh hb0) (by omega) (Nat.le_refl 1)
  rw [Split.lib_pieces s ⟨#[c]⟩ c rfl] at hj
  have hcount : Go.Lib.countB s ⟨#[c]⟩ + 1 = (strCells (Split.pieces c s)).length := by
    rw [← Go.Lib.splitB_all ⟨#[c]⟩ (Nat.le_refl 1) 0 _ s rfl, Split.lib_pieces s ⟨#[c]⟩ c rfl]; simp [strCells]
  rw [hcount] at hj
  have Hj := Lib.hid hj; clear hj hcount hone
  go_enter Tryd.func50, Tryd.ntmps50
  go_wp2_with fail
  refine Hj.out.mono ?_
  rintro e w' ⟨rfl, rfl⟩
  go_wp2
  go_ret
  refine ⟨⟨_, rfl, by simp, ?_⟩, (hb0.alloc (by simp) _)⟩
  have h := Blk.new (w.alloc (.cells #[.int .u8 c.toNat] 5)) 9 (strCells (Split.pieces c s)).toArray
  simpa [strCells] using h
end Go.Proofs.YtpgdmbolckogcaaDoor
