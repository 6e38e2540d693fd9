/-
  The walks of the groups' small functions: which words are words of the letters of a group, the relator, the common beginning of two words.
-/
import Derived.Test.YtamgimdjnmcpaaaGreatBase
import Derived.Test.YtamgimdjnmcpaaaGreatSlice
import Derived.Test.YtamgimdjnmcpaaaGreatInts
import Derived.Test.YtamgimdjnmcpaaaGreatOwn
import Derived.Test.YtamgimdjnmcpaaaGreatWord
import Derived.Test.YtamgimdjnmcpaaaGreatIsWord
import Derived.Test.YtamgimdjnmcpaaaGreatUses
import Derived.Test.YtamgimdjnmcpaaaGreatSurf
import Derived.Test.YtamgimdjnmcpaaaGreatAm
import Derived.Deep.QuietTactic
import Derived.BigQuiet
namespace Go.Proofs.YtamgimdjnmcpaaaGreat
open Go.RowKit

theorem Dn.fit_lets {g : Int} {l : List Int} (hg : Dn.Gr g) (hw : Word.IsW l) : decide (Dn.Fit g l) = decide (Dn.Lets g l) :=
  decide_eq_decide.2 ⟨fun h => h.2.2, fun h => ⟨hg, hw, h⟩⟩
theorem Dn.fit_bad {g : Int} {l : List Int} {i : Nat} (hi : i < l.length) (h : 2 * g < (l[i].natAbs : Int)) : decide (Dn.Fit g l) = false :=
  decide_eq_false fun hf => by have := hf.2.2 _ (List.getElem_mem hi); omega
theorem Dn.fit_all {g : Int} {l : List Int} (hg : Dn.Gr g) (hw : Word.IsW l) (h : ∀ j (hj : j < l.length), j < l.length → (l[j].natAbs : Int) ≤ 2 * g) : decide (Dn.Fit g l) = true :=
  decide_eq_true ⟨hg, hw, fun x hx => by obtain ⟨i, hi, rfl⟩ := List.mem_iff_getElem.1 hx; exact h i hi hi⟩

set_option maxRecDepth 10000 in
set_option maxHeartbeats 400000 in
theorem impl_isGroup (g : Int) (w : World) : Calls Tryz.prog 98 #[.int .i64 g] w fun e w' => e = .returned (.bool (decide (Dn.Gr g))) ∧ w' = w := by
  by_cases h1 : g = 1
  · subst h1
    go_enter Tryz.func98, Tryz.ntmps98
    go_wp2
    go_ret
    exact ⟨rfl, rfl⟩
  · by_cases h2 : g = 2
    · subst h2
      go_enter Tryz.func98, Tryz.ntmps98
      go_wp2
      go_ret
      exact ⟨rfl, rfl⟩
    · have hd : decide (Dn.Gr g) = false := decide_eq_false (by unfold Dn.Gr; omega)
      have Hd := Lib.hid hd; clear hd
      have t1 : (g == 1) = false := beq_eq_false_iff_ne.2 h1
      have t2 : (g == 2) = false := beq_eq_false_iff_ne.2 h2
      clear h1 h2
      go_enter Tryz.func98, Tryz.ntmps98
      go_wp2
      go_ret
      exact ⟨by rw [Hd.out]; rfl, rfl⟩





theorem Dn.rel_gives {w : World} {cs : Array Value} {n : Nat} {l : List Int} (hl : (intCells l).toArray = cs) (hn : l.length = n) (hm : n ≤ maxLen) : Gives w l (.returned (.slice (some ⟨w.heap.size, 0, none⟩) n n)) (w.alloc (.cells cs 3)) := by
  subst hl; subst hn
  exact ⟨_, _, rfl, Nat.le_refl _, hm, Fresh.of_blk (Blk.new w _ _) (Nat.le_refl _), (Below.refl _ _).alloc (Nat.le_refl _) _⟩
set_option maxRecDepth 10000 in
set_option maxHeartbeats 400000 in
theorem spec_Relator (g : Int) (w : World) : Calls Tryz.prog 34 #[.int .i64 g] w fun e w' => Gives w (Dn.rel g) e w' := by
  by_cases h1 : g = 1
  · subst h1
    go_enter Tryz.func34, Tryz.ntmps34
    go_wp2
    go_ret
    exact Dn.rel_gives (l := [1, 2, -1, -2]) (by rfl) rfl (by decide)
  · by_cases h2 : g = 2
    · subst h2
      go_enter Tryz.func34, Tryz.ntmps34
      go_wp2
      go_ret
      exact Dn.rel_gives (l := [1, 2, -1, -2, 3, 4, -3, -4]) (by rfl) rfl (by decide)
    · have Hd := Lib.hid (Dn.rel_not (g := g) (by unfold Dn.Gr; omega))
      have t1 : (g == 1) = false := beq_eq_false_iff_ne.2 h1
      have t2 : (g == 2) = false := beq_eq_false_iff_ne.2 h2
      clear h1 h2
      go_enter Tryz.func34, Tryz.ntmps34
      go_wp2
      go_ret
      rw [Hd.out]
      exact Dn.rel_gives (l := []) (by rfl) rfl (by decide)

theorem Dn.rel_poly {g : Int} (h : Dn.Gr g) : Surf.poly g.toNat 0 0 = Dn.rel g := by rcases Dn.gr_cases h with rfl | rfl <;> decide
set_option maxRecDepth 10000 in
set_option maxHeartbeats 400000 in
theorem impl_Relator (g : Int) (w : World) : Calls Tryz.prog 99 #[.int .i64 g] w fun e w' => Gives w (Dn.rel g) e w' := by
  have hcG := impl_isGroup g w
  by_cases hG : Dn.Gr g
  · rw [decide_eq_true hG] at hcG
    have Hcg := Lib.hid hcG; clear hcG
    have hP := impl_standardPolygon' g 0 0 w ⟨by obtain ⟨h0, h1⟩ := hG; omega, by omega, by omega, by omega⟩
    rw [show (0 : Int).toNat = 0 from rfl, Dn.rel_poly hG] at hP
    have HP := Lib.hid hP; clear hP
    go_enter Tryz.func99, Tryz.ntmps99
    go_wp2_with fail
    refine Hcg.out.mono ?_
    rintro e w1 ⟨rfl, hw1⟩
    rw [hw1]; clear hw1 w1
    go_wp2_with fail
    refine HP.out.mono ?_
    rintro e w2 hg
    have Hg := Lib.hid hg
    obtain ⟨a', c', rfl, _, _, _, _⟩ := hg
    go_wp2
    go_ret
    exact Hg.out
  · rw [decide_eq_false hG] at hcG
    have Hcg := Lib.hid hcG; clear hcG
    have Hd := Lib.hid (Dn.rel_not hG)
    clear hG
    go_enter Tryz.func99, Tryz.ntmps99
    go_wp2_with fail
    refine Hcg.out.mono ?_
    rintro e w1 ⟨rfl, hw1⟩
    rw [hw1]; clear hw1 w1
    go_wp2
    go_ret
    rw [Hd.out]
    exact Gives.none (Below.refl _ _)
end Go.Proofs.YtamgimdjnmcpaaaGreat
