/-
  SheetParts' contracts in the form that its exact law asks for.
-/
import Derived.Test.YtodgongemoabiaaBase
import Derived.Test.YtodgongemoabiaaSlice
import Derived.Test.YtodgongemoabiaaInts
import Derived.Test.YtodgongemoabiaaOwn
import Derived.Test.YtodgongemoabiaaGrid
import Derived.Test.YtodgongemoabiaaGivesRows
import Derived.Test.YtodgongemoabiaaMap
import Derived.Test.YtodgongemoabiaaCov
import Derived.Test.YtodgongemoabiaaCovA
import Derived.Test.YtodgongemoabiaaCovQ
import Derived.Test.YtodgongemoabiaaCovB
import Derived.Test.YtodgongemoabiaaCovD
import Derived.Test.YtodgongemoabiaaCovE
import Derived.Test.YtodgongemoabiaaAdTot
namespace Go.Proofs.Ytodgongemoabiaa
open Go.RowKit

theorem sum_le5 : ∀ {L : List (List Int)}, (∀ r ∈ L, r.length ≤ 5) → sumLen L ≤ L.length * 5
  | [], _ => by simp [sumLen]
  | r :: L, h => by
    have h1 := sum_le5 (L := L) fun x hx => h x (List.mem_cons_of_mem _ hx)
    have h2 := h r (List.mem_cons_self ..)
    unfold sumLen at *
    rw [List.map_cons, List.sum_cons, List.length_cons]; omega
theorem Cv.natRows_len9 (C : List (List Nat)) : (Mp.natRows C).length = C.length := by simp [Mp.natRows]
theorem Cv.parts_tot (L : List (List Int)) : tot (Cv.parts L) ≤ 1000000 := by
  unfold Cv.parts
  split
  · rename_i hP
    have h5 := hP.2.2.2.2
    have hlen : (Cv.partsN L).length ≤ 5 := Nat.le_trans (Cv.pTo_len (Cv.lab L) (Cv.deg L) (Cv.deg L)) h5
    have hr : ∀ r ∈ Mp.natRows (Cv.partsN L), r.length ≤ 5 := fun r hr => by
      unfold Mp.natRows at hr
      obtain ⟨c, hc, rfl⟩ := List.mem_map.1 hr
      rw [List.length_map]
      unfold Cv.partsN Cv.classes at hc
      obtain ⟨s, _, rfl⟩ := List.mem_map.1 hc
      exact Nat.le_trans (Cv.mTo_len (Cv.lab L) s (Cv.deg L)) h5
    have := sum_le5 hr
    unfold tot
    rw [Cv.natRows_len9] at *
    omega
  · unfold tot sumLen; simp
theorem fnExactSheetParts.spec_SheetParts (a : Option Addr) (c : Nat) (L : List (List Int)) (w : World) (ha : GridAt w a L) (ht : tot L ≤ 1048576) :
    Calls Try.prog 58 #[.slice a L.length c] w fun e w' => GivesRows w (Cv.parts L) e w' := Go.Proofs.Ytodgongemoabiaa.spec_SheetParts a c L w ha (tot_rows ht).1 (tot_rows ht).2
theorem fnExactSheetParts.impl_SheetParts (a : Option Addr) (c : Nat) (L : List (List Int)) (w : World) (ha : GridAt w a L) (ht : tot L ≤ 1048576) :
    Calls Try.prog 59 #[.slice a L.length c] w fun e w' => GivesRows w (Cv.parts L) e w' := Go.Proofs.Ytodgongemoabiaa.impl_SheetParts a c L w ha (tot_rows ht).1 (tot_rows ht).2
end Go.Proofs.Ytodgongemoabiaa
