/-
  The walks of the model's draws of maps: bent ones, and those of the laws.
-/
import Derived.Test.YtpebgompfgkljaaGreatBase
import Derived.Test.YtpebgompfgkljaaGreatSlice
import Derived.Test.YtpebgompfgkljaaGreatInts
import Derived.Test.YtpebgompfgkljaaGreatOwn
import Derived.Test.YtpebgompfgkljaaGreatAppend
import Derived.Test.YtpebgompfgkljaaGreatMap
import Derived.Test.YtpebgompfgkljaaGreatMapA
import Derived.Test.YtpebgompfgkljaaGreatMapB
import Derived.Test.YtpebgompfgkljaaGreatDraw
import Derived.Test.YtpebgompfgkljaaGreatDrawMap
import Derived.Deep.QuietTactic
import Derived.BigQuiet
namespace Go.Proofs.YtpebgompfgkljaaGreat
open Go.RowKit

theorem grownM_both {w wr w1 : World} {g : Nat} {row : Option Nat} (hg : w.grownBy wr (some g)) (h1 : wr.grownBy w1 row) (hr : ∀ k, row = some k → w.heap.size ≤ k) : w.grownBy w1 (some g) :=
  ⟨h1.os.trans hg.os, h1.tape.trans hg.tape, h1.output.trans hg.output, Nat.le_trans hg.size h1.size, fun i hi hne => (h1.block i (Nat.lt_of_lt_of_le hi hg.size) (fun e => by have := hr i e.symm; omega)).trans (hg.block i hi hne)⟩
theorem BentM.later {w w1 w2 : World} {g most : Nat} {v : Value} {l : List Int} (ho : w2.ownsRow w.heap.size 3 1 v l.length (intCells l)) (h2 : 2 ≤ l.length) (hm : l.length ≤ most) (hc : CurAt w2 g) (hg : w.grownBy w2 (some g)) : BentM w g most (.returned v) w2 := ⟨v, l, rfl, ho, h2, hm, hc, hg⟩
set_option maxRecDepth 10000 in
set_option maxHeartbeats 4000000 in
theorem l6Bent (g : Nat) (w : World) (hc : CurAt w g) :
    Calls Tryz.prog 105 #[.pointer (some ⟨g, 0, none⟩)] w (BentM w g 13) := by
  have hgl := hc.lt
  obtain ⟨i0, hi0, hz0, hz1, hz2⟩ := info_int_parts
  have Hi0 := Lib.hid hi0; have Hz0 := Lib.hid hz0; have Hz1 := Lib.hid hz1; have Hz2 := Lib.hid hz2
  have Hd := Lib.hid (l6Draw g w hc)
  clear hi0 hz0 hz1 hz2 hc
  go_enter Tryz.func105, Tryz.ntmps105
  go_wp2_with fail
  refine Hd.out.mono ?_
  rintro e w1 ⟨v, l, rfl, ho, h2, h12, hc1, hg1⟩
  obtain ⟨gm, cap, rfl, hcap, hcm⟩ := own_form ho (by omega)
  have Ho := Lib.hid ho; have Hc1 := Lib.hid hc1; have Hg1 := Lib.hid hg1
  clear ho hc1 hg1
  go_wp2_with fail
  refine (l1Below g 18 _ Hc1.out (by omega) (by omega)).mono ?_
  rintro e w2 ⟨⟨x, rfl, hx0, hx1⟩, hc2, hg2⟩
  have Ho2 := Lib.hid (ownM_cur Ho.out hg2 hgl); have Hc2 := Lib.hid hc2; have Hg2 := Lib.hid (Hg1.out.trans hg2)
  have hgm := (Ho2.out.lt gm rfl)
  clear hc2 hg2 Ho Hc1 Hg1
  by_cases e0 : x = 0
  · subst e0
    have hk : Blk (w2.alloc (.cells #[.int .i64 (-1), .int .i64 99, .int .i64 0, .int .i64 1] 3)) w2.heap.size 3 (intCells [-1, 99, 0, 1]).toArray := Blk.new w2 _ _
    have hgl2 : g < w2.heap.size := Hc2.out.lt
    have Hp := Lib.hid (l1PickInt g w2.heap.size 4 [-1, 99, 0, 1] _ (Hc2.out.alloc _) hk (by omega) (by decide) (by decide))
    clear hk
    go_wp2_with fail
    refine Hp.out.mono ?_
    rintro e w3 ⟨⟨u, hu, rfl⟩, hc3, hg3⟩
    obtain ⟨z, _, rfl⟩ := List.mem_map.1 hu
    have ho3 := ownM_cur (own_keep Ho2.out ((Below.refl w2.heap.size w2).alloc (Nat.le_refl _) (.cells #[.int .i64 (-1), .int .i64 99, .int .i64 0, .int .i64 1] 3)) (fun k hk => (Ho2.out.lt k hk).2)) hg3 hgl
    have hg4 := (Hg2.out.trans (only_of_below ((Below.refl w2.heap.size w2).alloc (Nat.le_refl _) _) _)).trans hg3
    have hcell := own_cell ho3 (show 0 < l.length by omega) rfl
    have hfz := ho3.frozenAt 0
    have Ho4 := Lib.hid (ownM_set (i := 0) ho3 z)
    have Hc4 := Lib.hid (curM_set (i := 0) (v := .int .i64 z) hc3 (show g < gm by omega))
    have Hg4 := Lib.hid (grownM_set (i := 0) (v := .int .i64 z) hg4 hgm.1)
    have hlp : 0 < l.length := by omega
    generalize l[0] = y0 at hcell
    clear hu ho3 hg4 hc3 hg3
    go_wp2
    go_ret
    refine ⟨_, l.set 0 z, rfl, by rw [List.length_set]; exact Ho4.out, by rw [List.length_set]; exact h2, by rw [List.length_set]; omega, Hc4.out, Hg4.out⟩
  · by_cases e1 : x = 1
    · subst e1
      have hm1 : l.length + 1 ≤ maxLen := by unfold maxLen; omega
      have hm2 : (l.length + 1) * 8 ≤ 140737488355328 := by omega
      have hNle : w.heap.size ≤ w2.heap.size := Hg2.out.size
      have Hfin : Hid (∀ v1 w3, w3.ownsRow w.heap.size 3 1 v1 (l.length + 1) (intCells l ++ [.int .i64 (l.length : Int)]) → (w2.alloc (.cells #[.int .i64 (l.length : Int)] 3)).grownBy w3 (Value.slice (some ⟨gm, 0, none⟩) l.length cap).ownBlock → BentM w g 13 (.returned v1) w3 ∧ ∃ a c, v1 = .slice a (l.length + 1) c) := Lib.hid (fun v1 w3 ho3 hg3 => by
        rw [intCells_snoc] at ho3
        have hgl2 : g < w2.heap.size := Hc2.out.lt
        refine ⟨⟨v1, l ++ [(l.length : Int)], rfl, by rw [List.length_append]; exact ho3, by rw [List.length_append, List.length_singleton]; omega, by rw [List.length_append, List.length_singleton]; omega, (Hc2.out.alloc _).above hg3 (fun k hk => by rw [own_block hk]; omega), ?_⟩, own_len ho3⟩
        exact grownM_both (Hg2.out.trans (only_of_below ((Below.refl w2.heap.size w2).alloc (Nat.le_refl _) _) _)) hg3 (fun k hk => by rw [own_block hk]; exact hgm.1))
      go_wp2_with (at_builtin; refine append_one rfl (.tmp 17) (.tmp 20) 30 rfl w.heap.size 3 i0 _ 8 Tryz.underlying30 Hi0.out Hz0.out Hz1.out Hz2.out (by rfl) _ _ _ rfl Ho2.out (by rfl) _ rfl hm1 hm2 hNle ?_; intro v1 w3 hown1 hg1 _; obtain ⟨hB, a1, c1, rfl⟩ := Hfin.out v1 w3 hown1 hg1; have HB := Lib.hid hB; clear hB)
      go_ret
      exact HB.out
    · have e0' : (x == 0) = false := beq_eq_false_iff_ne.2 e0
      have e1' : (x == 1) = false := beq_eq_false_iff_ne.2 e1
      clear e0 e1
      go_wp2
      go_ret
      exact ⟨_, l, rfl, Ho2.out, h2, by omega, Hc2.out, Hg2.out⟩

theorem belowM {w w1 w2 : World} {g : Nat} (hb : Below w.heap.size w w1) (hg : w1.grownBy w2 (some g)) (hgl : w.heap.size ≤ g) : Below w.heap.size w w2 :=
  hb.grown hg hb.size (fun k hk => by cases hk; exact hgl)
theorem ownM_row {w : World} {base c : Nat} {a : Option Addr} {l : List Int} (h : w.ownsRow base 3 1 (.slice a l.length c) l.length (intCells l)) : RowAt w a (intCells l) := by
  obtain ⟨a', c', e', hr⟩ := own_row h (intCells_len l)
  cases e'; exact hr
/-- A row of integers that was drawn. -/
def DrawnM (w : World) (e : Ending) (w' : World) : Prop := ∃ a c l, e = .returned (.slice a (l : List Int).length c) ∧ RowAt w' a (intCells l) ∧ l.length ≤ 13 ∧ Below w.heap.size w w'
def DrawnM1 (w : World) (e : Ending) (w' : World) : Prop := ∃ a c l x, e = .returned (.tuple #[.slice a (l : List Int).length c, .int .i64 x]) ∧ RowAt w' a (intCells l) ∧ l.length ≤ 13 ∧ -100 ≤ x ∧ x ≤ 100 ∧ Below w.heap.size w w'
def DrawnM2 (w : World) (e : Ending) (w' : World) : Prop := ∃ a c l x y, e = .returned (.tuple #[.slice a (l : List Int).length c, .int .i64 x, .int .i64 y]) ∧ RowAt w' a (intCells l) ∧ l.length ≤ 13 ∧ -100 ≤ x ∧ x ≤ 100 ∧ -100 ≤ y ∧ y ≤ 100 ∧ Below w.heap.size w w'
set_option maxRecDepth 10000 in
theorem case_l1Bit (b : Bool) (w : World) : Calls Tryz.prog 56 #[.bool b] w fun e w' => (∃ n : Nat, n ≤ 1 ∧ e = .returned (.int .i64 (n : Int))) ∧ w' = w := by
  cases b
  · go_enter Tryz.func56, Tryz.ntmps56
    go_wp2
    go_ret
    exact ⟨⟨0, by omega, rfl⟩, rfl⟩
  · go_enter Tryz.func56, Tryz.ntmps56
    go_wp2
    go_ret
    exact ⟨⟨1, by omega, rfl⟩, rfl⟩
end Go.Proofs.YtpebgompfgkljaaGreat
