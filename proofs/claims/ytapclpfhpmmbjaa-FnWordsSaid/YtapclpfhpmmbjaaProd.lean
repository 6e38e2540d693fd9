/-
  The walks of the program's and the model's ProductWord.
-/
import Derived.Test.YtapclpfhpmmbjaaBase
import Derived.Test.YtapclpfhpmmbjaaSlice
import Derived.Test.YtapclpfhpmmbjaaInts
import Derived.Test.YtapclpfhpmmbjaaWord
import Derived.Test.YtapclpfhpmmbjaaIsWord
import Derived.Test.YtapclpfhpmmbjaaReduce
import Derived.Test.YtapclpfhpmmbjaaReduceSpec
import Derived.Test.YtapclpfhpmmbjaaAppend
import Derived.Test.YtapclpfhpmmbjaaConcat
import Derived.Deep.QuietTactic
import Derived.BigQuiet
namespace Go.Proofs.Ytapclpfhpmmbjaa
open Go.RowKit

/-- The call gives these integers, in memory of its own, and a bool. -/
def Gives2 (w : World) (l : List Int) (b : Bool) (e : Ending) (w' : World) : Prop := ∃ a c, e = .returned (.tuple #[.slice a l.length c, .bool b]) ∧ l.length ≤ c ∧ c ≤ maxLen ∧ Fresh w' w.heap.size 3 a (intCells l) ∧ Below w.heap.size w w'
theorem Gives2.none {w w' : World} {b : Bool} (hb : Below w.heap.size w w') : Gives2 w [] b (.returned (.tuple #[.slice none 0 0, .bool b])) w' := ⟨_, _, rfl, Nat.le_refl _, Nat.zero_le _, Or.inl rfl, hb⟩
theorem Gives.with {w w' : World} {l : List Int} {v : Value} {b : Bool} (h : Gives w l (.returned v) w') : Gives2 w l b (.returned (.tuple #[v, .bool b])) w' := by
  obtain ⟨a, c, he, h1, h2, h3, h4⟩ := h
  cases he
  exact ⟨a, c, rfl, h1, h2, h3, h4⟩
theorem concat2 (W0 : World) (a1 a2 : Option Addr) (c1 c2 : Nat) (l1 l2 : List Int) (h1 : RowAt W0 a1 (intCells l1)) (h2 : RowAt W0 a2 (intCells l2)) (hl : l1.length + l2.length ≤ 4194304) :
    Calls Try.prog 51 #[.slice (some ⟨W0.heap.size, 0, none⟩) 2 2] (W0.alloc (.cells #[.slice a1 l1.length c1, .slice a2 l2.length c2] 24)) fun e w' => Gives W0 (l1 ++ l2) e w' := by
  have hb1 : Below W0.heap.size W0 (W0.alloc (.cells #[.slice a1 l1.length c1, .slice a2 l2.length c2] 24)) := (Below.refl _ _).alloc (Nat.le_refl _) _
  have hrow := (Blk.new W0 24 #[.slice a1 l1.length c1, .slice a2 l2.length c2]).row
  refine (slices_Concat (some ⟨W0.heap.size, 0, none⟩) 2 [(a1, c1, l1), (a2, c2, l2)] _ (by simpa [Part.cell] using hrow) ?_ (by simp) ?_).mono ?_
  · intro i hi
    rcases (show i = 0 ∨ i = 1 by simp at hi; omega) with rfl | rfl
    · exact h1.below hb1
    · exact h2.below hb1
  · simp [Part.len, Part.all]; omega
  · rintro e w' hg
    have := hg.later hb1
    simpa [Part.all] using this
theorem prod_of {v w : List Int} (h : Word.IsW (v ++ w)) : Word.product v w = Word.red (v ++ w) := if_pos h
theorem prod_not {v w : List Int} (h : ¬ Word.IsW (v ++ w)) : Word.product v w = [] := if_neg h
theorem prod_len (v w : List Int) : (Word.product v w).length ≤ 24 := by
  unfold Word.product; split
  · rename_i h; exact (Word.red_w h).2
  · simp

set_option maxRecDepth 10000 in
set_option maxHeartbeats 400000 in
theorem impl_ProductWord (aV : Option Addr) (cV : Nat) (lV : List Int) (aW : Option Addr) (cW : Nat) (lW : List Int) (w : World) (haV : RowAt w aV (intCells lV)) (hlV : lV.length ≤ 1048576) (haW : RowAt w aW (intCells lW)) (hlW : lW.length ≤ 1048576) :
    Calls Try.prog 21 #[.slice aV lV.length cV, .slice aW lW.length cW] w fun e w' => Gives2 w (Word.product lV lW) (decide (Word.IsW (lV ++ lW))) e w' := by
  have Hc := Lib.hid (concat2 w aV aW cV cW lV lW haV haW (by omega))
  have hXl : (lV ++ lW).length ≤ 2097152 := by rw [List.length_append]; omega
  have Hpr := Lib.hid (@prod_of lV lW); have Hpn := Lib.hid (@prod_not lV lW)
  generalize hX : lV ++ lW = X at *
  clear hX
  go_enter Try.func21, Try.ntmps21
  go_wp2_with fail
  refine Hc.out.mono ?_
  rintro e w1 ⟨ra, rc, rfl, hr1, hr2, hrf, hb1⟩
  have hcW := impl_IsWord_big ra rc X w1 hrf.row (by omega)
  have Hrow := Lib.hid hrf.row; clear hrf
  by_cases hW : Word.IsW X
  · rw [decide_eq_true hW] at hcW
    have Hcw := Lib.hid hcW; have HW := Lib.hid hW; clear hcW hW
    go_wp2_with fail
    refine Hcw.out.mono ?_
    rintro e w2 ⟨rfl, hb2⟩
    have hb2' : Below w.heap.size w w2 := hb1.trans (hb2.mono hb1.size)
    have hR := impl_ReduceWord ra rc X w2 (Hrow.out.below hb2) (by have := HW.out.2; omega)
    rw [show Word.reduce X = Word.red X from if_pos HW.out] at hR
    have HR := Lib.hid hR; clear hR
    go_wp2_with fail
    refine HR.out.mono ?_
    rintro e w3 hg
    have Hg := Lib.hid (hg.later hb2')
    obtain ⟨a', c', rfl, _, _, _, _⟩ := hg
    go_wp2
    go_ret2
    rw [Hpr.out HW.out, decide_eq_true HW.out]
    exact Hg.out.with
  · rw [decide_eq_false hW] at hcW
    have Hcw := Lib.hid hcW; have HW := Lib.hid hW; clear hcW hW
    go_wp2_with fail
    refine Hcw.out.mono ?_
    rintro e w2 ⟨rfl, hb2⟩
    have hb2' : Below w.heap.size w w2 := hb1.trans (hb2.mono hb1.size)
    go_wp2
    go_ret2
    rw [Hpn.out HW.out, decide_eq_false HW.out]
    exact Gives2.none hb2'

set_option maxRecDepth 10000 in
set_option maxHeartbeats 1000000 in
theorem spec_ProductWord (aV : Option Addr) (cV : Nat) (lV : List Int) (aW : Option Addr) (cW : Nat) (lW : List Int) (w : World) (haV : RowAt w aV (intCells lV)) (hlV : lV.length ≤ 1048576) (haW : RowAt w aW (intCells lW)) (hlW : lW.length ≤ 1048576) :
    Calls Try.prog 22 #[.slice aV lV.length cV, .slice aW lW.length cW] w fun e w' => Gives2 w (Word.product lV lW) (decide (Word.IsW (lV ++ lW))) e w' := by
  have hcV := spec_IsWord aV cV lV w haV hlV
  by_cases hV : Word.IsW lV
  · have hcW := fun W h => spec_IsWord aW cW lW W h hlW
    rw [decide_eq_true hV] at hcV
    by_cases hW : Word.IsW lW
    · rw [decide_eq_true hW] at hcW
      have HcV := Lib.hid hcV; have HcW := Lib.hid hcW; have HV := Lib.hid hV; have HW := Lib.hid hW
      clear hcV hcW hV hW
      have hv24 := HV.out.2
      have hw24 := HW.out.2
      by_cases hs : lV.length + lW.length ≤ 24
      · have hok : Word.IsW (lV ++ lW) := (Word.prod_iff _ _).2 ⟨HV.out, HW.out, hs⟩
        have Hok := Lib.hid hok; clear hok
        have hs' : (lV.length : Int) + (lW.length : Int) ≤ 24 := by omega
        obtain ⟨X, hX⟩ : ∃ X, lV ++ lW = X := ⟨_, rfl⟩
        have hXl : lV.length + lW.length = X.length := by rw [← hX, List.length_append]
        have hXc : intCells lV ++ intCells lW = intCells X := by rw [← hX]; simp [intCells]
        have HX := Lib.hid hX; have HXl := Lib.hid hXl; have HXc := Lib.hid hXc
        have Hpr := Lib.hid (@prod_of lV lW)
        rw [hX] at Hok Hpr ⊢
        clear hX hXl hXc
        obtain ⟨i0, hi0, hz0, hz1, hz2⟩ := info_int_parts
        have Hi0 := Lib.hid hi0; have Hz0 := Lib.hid hz0; have Hz1 := Lib.hid hz1; have Hz2 := Lib.hid hz2
        clear hi0 hz0 hz1 hz2
        have hc1 : 0 + lV.length ≤ maxLen := by unfold maxLen; omega
        have hc2 : (0 + lV.length) * 8 ≤ 140737488355328 := by omega
        have hc3 : lV.length + lW.length ≤ maxLen := by unfold maxLen; omega
        have hc4 : (lV.length + lW.length) * 8 ≤ 140737488355328 := by omega
        go_enter Try.func22, Try.ntmps22
        go_wp2_with fail
        refine HcV.out.mono ?_
        rintro e w1 ⟨rfl, hb1⟩
        go_wp2_with fail
        refine (HcW.out w1 (haW.below hb1)).mono ?_
        rintro e w2 ⟨rfl, hb2⟩
        have hb2' : Below w.heap.size w w2 := hb1.trans (hb2.mono hb1.size)
        have hb3 : Below w.heap.size w (w2.alloc (.cells #[] 3)) := hb2'.alloc hb2'.size _
        go_wp2_with (first
          | (at_builtin; refine append_row rfl (.tmp 23) (.tmp 24) 24 rfl w2.heap.size 3 i0 _ 8 Try.underlying24 Hi0.out Hz0.out Hz1.out Hz2.out (by rfl) _ 0 (intCells []) rfl (own_made rfl) _ _ _ _ rfl (haV.below hb3) (intCells_len _) (intCells_one _) hc1 hc2 (by simp) ?_; intro v1 w4 hown1 hg1; rw [Nat.zero_add, show intCells [] ++ intCells lV = intCells lV from by simp [intCells]] at hown1; have hb4 : Below w.heap.size w w4 := Below.grown hb3 hg1 (Nat.le_trans hb2'.size (by simp)) (fun k hk => by injection hk with hk; rw [← hk]; exact hb2'.size); have hsz4 : w2.heap.size ≤ w4.heap.size := Nat.le_trans (by simp) hg1.size; obtain ⟨av1, cv1, rfl⟩ := own_len hown1)
          | (at_builtin; refine append_row rfl (.tmp 25) (.tmp 26) 24 rfl w2.heap.size 3 i0 _ 8 Try.underlying24 Hi0.out Hz0.out Hz1.out Hz2.out (by rfl) _ _ _ rfl hown1 _ _ _ _ rfl (haW.below hb4) (intCells_len _) (intCells_one _) hc3 hc4 hsz4 ?_; intro v2 w5 hown2 hg2; rw [HXc.out, HXl.out] at hown2; have hb5 : Below w.heap.size w w5 := Below.grown hb4 hg2 hb4.size (fun k hk => Nat.le_trans hb2'.size (hown1.lt k hk).1); obtain ⟨av2, cv2, hvv, hrow2⟩ := own_row hown2 (intCells_len _); subst hvv))
        have hR := spec_l2Reduce av2 cv2 X w5 hrow2 (by have := HXl.out; omega) Hok.out.1
        have HR := Lib.hid hR; clear hR
        refine HR.out.mono ?_
        rintro e w6 hg
        have Hg := Lib.hid (hg.later hb5)
        obtain ⟨a', c', rfl, _, _, _, _⟩ := hg
        go_wp2
        go_ret2
        rw [Hpr.out Hok.out, decide_eq_true Hok.out]
        exact Hg.out.with
      · have hno : ¬ Word.IsW (lV ++ lW) := fun h => hs ((Word.prod_iff _ _).1 h).2.2
        have Hno := Lib.hid hno; clear hno
        have hs' : ¬ ((lV.length : Int) + (lW.length : Int) ≤ 24) := by omega
        go_enter Try.func22, Try.ntmps22
        go_wp2_with fail
        refine HcV.out.mono ?_
        rintro e w1 ⟨rfl, hb1⟩
        go_wp2_with fail
        refine (HcW.out w1 (haW.below hb1)).mono ?_
        rintro e w2 ⟨rfl, hb2⟩
        have hb2' : Below w.heap.size w w2 := hb1.trans (hb2.mono hb1.size)
        go_wp2
        go_ret2
        rw [prod_not Hno.out, decide_eq_false Hno.out]
        exact (own_gives (l := []) (by exact own_mono (own_made (w := w2) rfl) hb2'.size) rfl (hb2'.alloc hb2'.size _)).with
    · have hno : ¬ Word.IsW (lV ++ lW) := fun h => hW ((Word.prod_iff _ _).1 h).2.1
      rw [decide_eq_false hW] at hcW
      have HcV := Lib.hid hcV; have HcW := Lib.hid hcW; have Hno := Lib.hid hno
      clear hcV hcW hV hW hno
      go_enter Try.func22, Try.ntmps22
      go_wp2_with fail
      refine HcV.out.mono ?_
      rintro e w1 ⟨rfl, hb1⟩
      go_wp2_with fail
      refine (HcW.out w1 (haW.below hb1)).mono ?_
      rintro e w2 ⟨rfl, hb2⟩
      have hb2' : Below w.heap.size w w2 := hb1.trans (hb2.mono hb1.size)
      go_wp2
      go_ret2
      rw [prod_not Hno.out, decide_eq_false Hno.out]
      exact (own_gives (l := []) (by exact own_mono (own_made (w := w2) rfl) hb2'.size) rfl (hb2'.alloc hb2'.size _)).with
  · have hno : ¬ Word.IsW (lV ++ lW) := fun h => hV ((Word.prod_iff _ _).1 h).1
    rw [decide_eq_false hV] at hcV
    have HcV := Lib.hid hcV; have Hno := Lib.hid hno
    clear hcV hV hno
    go_enter Try.func22, Try.ntmps22
    go_wp2_with fail
    refine HcV.out.mono ?_
    rintro e w1 ⟨rfl, hb1⟩
    go_wp2
    go_ret2
    rw [prod_not Hno.out, decide_eq_false Hno.out]
    exact (own_gives (l := []) (by exact own_mono (own_made (w := w1) rfl) hb1.size) rfl (hb1.alloc hb1.size _)).with
end Go.Proofs.Ytapclpfhpmmbjaa
