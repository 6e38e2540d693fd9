/-
  The program's Join, by the library's.
-/
import Derived.Test.YtpgdmbolckogcaaDoorBase
import Derived.Test.YtpgdmbolckogcaaDoorSlice
import Derived.Test.YtpgdmbolckogcaaDoorStrs
import Derived.Test.YtpgdmbolckogcaaDoorJoin
import Derived.Test.YtpgdmbolckogcaaDoorShelfJoin
namespace Go.Proofs.YtpgdmbolckogcaaDoor
open Go.RowKit
theorem impl_Join (b o c : Nat) (l : List ByteArray) (sep : ByteArray) (w : World) (ha : RowAt w (some ⟨b, o, none⟩) (strCells l)) (hl : l.length + total l ≤ 1048576) (hs : sep.size ≤ 1048576) (hc : l.length ≤ c) :
    Calls Tryd.prog 47 #[.slice (some ⟨b, o, none⟩) l.length c, .string sep] w fun e w' => e = .returned (.string ⟨(Lib.join (Join.texts l) sep.data.toList).toArray⟩) ∧ Below w.heap.size w w' := by
  by_cases h0 : l = []
  · subst h0
    have hj := Tryd.strings_Join_none (some ⟨b, o, none⟩) c sep w
    have Hj := Lib.hid hj; clear hj
    go_enter Tryd.func47, Tryd.ntmps47
    go_wp2_with fail
    refine Hj.out.mono ?_
    rintro e w' ⟨rfl, rfl⟩
    go_wp2
    go_ret
    exact ⟨rfl, Below.refl _ _⟩
  · have hpos : 0 < l.length := List.length_pos_iff.2 h0
    have hlen := Join.pre_len l sep l.length hl hs
    rw [List.take_of_length_le (Nat.le_refl _)] at hlen
    obtain ⟨b', o', e, hb, hcell⟩ := ha.at (i := 0) (by simpa [strCells] using hpos)
    obtain ⟨rfl, rfl⟩ : b = b' ∧ o = o' := by injection e with e; injection e with e1 e2; exact ⟨e1, e2⟩
    have hj := Tryd.strings_Join b o c l sep w (fun j x hx => hcell j _ (by simp [strCells, hx])) hb (by omega) hc (by unfold Join.texts at hlen; omega)
    have Hj := Lib.hid hj; clear hj e hcell
    go_enter Tryd.func47, Tryd.ntmps47
    go_wp2_with fail
    refine Hj.out.mono ?_
    rintro e w' ⟨rfl, hb'⟩
    go_wp2
    go_ret
    exact ⟨rfl, hb'⟩
end Go.Proofs.YtpgdmbolckogcaaDoor
