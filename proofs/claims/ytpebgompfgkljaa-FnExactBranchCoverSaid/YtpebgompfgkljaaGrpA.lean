/-
  The walks of the groups' small functions: which words are words of the letters of a group, the relator, the common beginning of two words.
-/
import Derived.Test.YtpebgompfgkljaaBase
import Derived.Test.YtpebgompfgkljaaSlice
import Derived.Test.YtpebgompfgkljaaInts
import Derived.Test.YtpebgompfgkljaaOwn
import Derived.Test.YtpebgompfgkljaaWord
import Derived.Test.YtpebgompfgkljaaIsWord
import Derived.Test.YtpebgompfgkljaaUses
import Derived.Test.YtpebgompfgkljaaSurf
import Derived.Test.YtpebgompfgkljaaAm
import Derived.Deep.QuietTactic
import Derived.BigQuiet
namespace Go.Proofs.Ytpebgompfgkljaa
open Go.RowKit

theorem Dn.fit_lets {g : Int} {l : List Int} (hg : Dn.Gr g) (hw : Word.IsW l) : decide (Dn.Fit g l) = decide (Dn.Lets g l) :=
  decide_eq_decide.2 ⟨fun h => h.2.2, fun h => ⟨hg, hw, h⟩⟩
theorem Dn.fit_bad {g : Int} {l : List Int} {i : Nat} (hi : i < l.length) (h : 2 * g < (l[i].natAbs : Int)) : decide (Dn.Fit g l) = false :=
  decide_eq_false fun hf => by have := hf.2.2 _ (List.getElem_mem hi); omega
theorem Dn.fit_all {g : Int} {l : List Int} (hg : Dn.Gr g) (hw : Word.IsW l) (h : ∀ j (hj : j < l.length), j < l.length → (l[j].natAbs : Int) ≤ 2 * g) : decide (Dn.Fit g l) = true :=
  decide_eq_true ⟨hg, hw, fun x hx => by obtain ⟨i, hi, rfl⟩ := List.mem_iff_getElem.1 hx; exact h i hi hi⟩







end Go.Proofs.Ytpebgompfgkljaa
