/-
  The walks of the model's draws of maps: bent ones, and those of the laws.
-/
import Derived.Test.YtjpafacldcnboaaBase
import Derived.Test.YtjpafacldcnboaaSlice
import Derived.Test.YtjpafacldcnboaaInts
import Derived.Test.YtjpafacldcnboaaOwn
import Derived.Test.YtjpafacldcnboaaAppend
import Derived.Test.YtjpafacldcnboaaMap
import Derived.Test.YtjpafacldcnboaaMapA
import Derived.Test.YtjpafacldcnboaaMapF
import Derived.Test.YtjpafacldcnboaaDraw
import Derived.Test.YtjpafacldcnboaaDrawMap
import Derived.Deep.QuietTactic
import Derived.BigQuiet
namespace Go.Proofs.Ytjpafacldcnboaa
open Go.RowKit

theorem grownM_both {w wr w1 : World} {g : Nat} {row : Option Nat} (hg : w.grownBy wr (some g)) (h1 : wr.grownBy w1 row) (hr : ∀ k, row = some k → w.heap.size ≤ k) : w.grownBy w1 (some g) :=
  ⟨h1.os.trans hg.os, h1.tape.trans hg.tape, h1.output.trans hg.output, Nat.le_trans hg.size h1.size, fun i hi hne => (h1.block i (Nat.lt_of_lt_of_le hi hg.size) (fun e => by have := hr i e.symm; omega)).trans (hg.block i hi hne)⟩
theorem BentM.later {w w1 w2 : World} {g most : Nat} {v : Value} {l : List Int} (ho : w2.ownsRow w.heap.size 3 1 v l.length (intCells l)) (h2 : 2 ≤ l.length) (hm : l.length ≤ most) (hc : CurAt w2 g) (hg : w.grownBy w2 (some g)) : BentM w g most (.returned v) w2 := ⟨v, l, rfl, ho, h2, hm, hc, hg⟩
set_option maxRecDepth 10000 in
set_option maxHeartbeats 4000000 in
theorem l6Bent (g : Nat) (w : World) (hc : CurAt w g) :
    Calls Try.prog 103 #[.pointer (some ⟨g, 0, none⟩)] w (BentM w g 13) := by
  have hgl := hc.lt
  obtain ⟨i0, hi0, hz0, hz1, hz2⟩ := info_int_parts
  have Hi0 := Lib.hid hi0; have Hz0 := Lib.hid hz0; have Hz1 := Lib.hid hz1; have Hz2 := Lib.hid hz2
  have Hd := Lib.hid (l6Draw g w hc)
  clear hi0 hz0 hz1 hz2 hc
  go_enter Try.func103, Try.ntmps103
  go_wp2_with fail
  refine Hd.out.mono ?_
  rintro e w1 ⟨v, l, rfl, ho, h2, h12, hc1, hg1⟩
  obtain ⟨gm, cap, rfl, hcap, hcm⟩ := own_form ho (by omega)
  have Ho := Lib.hid ho; have Hc1 := Lib.hid hc1; have Hg1 := Lib.hid hg1
  clear ho hc1 hg1
  go_wp2_with fail
  refine (l1Below g 18 _ Hc1.out (by omega) (by omega)).mono ?_
  rintro e w2 ⟨⟨x, rfl, hx0, hx1⟩, hc2, hg2⟩
  have Ho2 := Lib.hid (ownM_cur Ho.out hg2 hgl); have Hc2 := Lib.hid hc2; have Hg2 := Lib.hid (Hg1.out.trans hg2)
  have hgm := (Ho2.out.lt gm rfl)
  clear hc2 hg2 Ho Hc1 Hg1
  by_cases e0 : x = 0
  · subst e0
    have hk : Blk (w2.alloc (.cells #[.int .i64 (-1), .int .i64 99, .int .i64 0, .int .i64 1] 3)) w2.heap.size 3 (intCells [-1, 99, 0, 1]).toArray := Blk.new w2 _ _
    have hgl2 : g < w2.heap.size := Hc2.out.lt
    have Hp := Lib.hid (l1PickInt g w2.heap.size 4 [-1, 99, 0, 1] _ (Hc2.out.alloc _) hk (by omega) (by decide) (by decide))
    clear hk
    go_wp2_with fail
    refine Hp.out.mono ?_
    rintro e w3 ⟨⟨u, hu, rfl⟩, hc3, hg3⟩
    obtain ⟨z, _, rfl⟩ := List.mem_map.1 hu
    have ho3 := ownM_cur (own_keep Ho2.out ((Below.refl w2.heap.size w2).alloc (Nat.le_refl _) (.cells #[.int .i64 (-1), .int .i64 99, .int .i64 0, .int .i64 1] 3)) (fun k hk => (Ho2.out.lt k hk).2)) hg3 hgl
    have hg4 := (Hg2.out.trans (only_of_below ((Below.refl w2.heap.size w2).alloc (Nat.le_refl _) _) _)).trans hg3
    have hcell := own_cell ho3 (show 0 < l.length by omega) rfl
    have hfz := ho3.frozenAt 0
    have Ho4 := Lib.hid (ownM_set (i := 0) ho3 z)
    have Hc4 := Lib.hid (curM_set (i := 0) (v := .int .i64 z) hc3 (show g < gm by omega))
    have Hg4 := Lib.hid (grownM_set (i := 0) (v := .int .i64 z) hg4 hgm.1)
    have hlp : 0 < l.length := by omega
    generalize l[0] = y0 at hcell
    clear hu ho3 hg4 hc3 hg3
    go_wp2
    go_ret
    refine ⟨_, l.set 0 z, rfl, by rw [List.length_set]; exact Ho4.out, by rw [List.length_set]; exact h2, by rw [List.length_set]; omega, Hc4.out, Hg4.out⟩
  · by_cases e1 : x = 1
    · subst e1
      have hm1 : l.length + 1 ≤ maxLen := by unfold maxLen; omega
      have hm2 : (l.length + 1) * 8 ≤ 140737488355328 := by omega
      have hNle : w.heap.size ≤ w2.heap.size := Hg2.out.size
      have Hfin : Hid (∀ v1 w3, w3.ownsRow w.heap.size 3 1 v1 (l.length + 1) (intCells l ++ [.int .i64 (l.length : Int)]) → (w2.alloc (.cells #[.int .i64 (l.length : Int)] 3)).grownBy w3 (Value.slice (some ⟨gm, 0, none⟩) l.length cap).ownBlock → BentM w g 13 (.returned v1) w3 ∧ ∃ a c, v1 = .slice a (l.length + 1) c) := Lib.hid (fun v1 w3 ho3 hg3 => by
        rw [intCells_snoc] at ho3
        have hgl2 : g < w2.heap.size := Hc2.out.lt
        refine ⟨⟨v1, l ++ [(l.length : Int)], rfl, by rw [List.length_append]; exact ho3, by rw [List.length_append, List.length_singleton]; omega, by rw [List.length_append, List.length_singleton]; omega, (Hc2.out.alloc _).above hg3 (fun k hk => by rw [own_block hk]; omega), ?_⟩, own_len ho3⟩
        exact grownM_both (Hg2.out.trans (only_of_below ((Below.refl w2.heap.size w2).alloc (Nat.le_refl _) _) _)) hg3 (fun k hk => by rw [own_block hk]; exact hgm.1))
      go_wp2_with (at_builtin; refine append_one rfl (.tmp 17) (.tmp 20) 22 rfl w.heap.size 3 i0 _ 8 Try.underlying22 Hi0.out Hz0.out Hz1.out Hz2.out (by rfl) _ _ _ rfl Ho2.out (by rfl) _ rfl hm1 hm2 hNle ?_; intro v1 w3 hown1 hg1 _; obtain ⟨hB, a1, c1, rfl⟩ := Hfin.out v1 w3 hown1 hg1; have HB := Lib.hid hB; clear hB)
      go_ret
      exact HB.out
    · have e0' : (x == 0) = false := beq_eq_false_iff_ne.2 e0
      have e1' : (x == 1) = false := beq_eq_false_iff_ne.2 e1
      clear e0 e1
      go_wp2
      go_ret
      exact ⟨_, l, rfl, Ho2.out, h2, by omega, Hc2.out, Hg2.out⟩

theorem belowM {w w1 w2 : World} {g : Nat} (hb : Below w.heap.size w w1) (hg : w1.grownBy w2 (some g)) (hgl : w.heap.size ≤ g) : Below w.heap.size w w2 :=
  hb.grown hg hb.size (fun k hk => by cases hk; exact hgl)
theorem ownM_row {w : World} {base c : Nat} {a : Option Addr} {l : List Int} (h : w.ownsRow base 3 1 (.slice a l.length c) l.length (intCells l)) : RowAt w a (intCells l) := by
  obtain ⟨a', c', e', hr⟩ := own_row h (intCells_len l)
  cases e'; exact hr
/-- A row of integers that was drawn. -/
def DrawnM (w : World) (e : Ending) (w' : World) : Prop := ∃ a c l, e = .returned (.slice a (l : List Int).length c) ∧ RowAt w' a (intCells l) ∧ l.length ≤ 13 ∧ Below w.heap.size w w'
def DrawnM1 (w : World) (e : Ending) (w' : World) : Prop := ∃ a c l x, e = .returned (.tuple #[.slice a (l : List Int).length c, .int .i64 x]) ∧ RowAt w' a (intCells l) ∧ l.length ≤ 13 ∧ -100 ≤ x ∧ x ≤ 100 ∧ Below w.heap.size w w'
def DrawnM2 (w : World) (e : Ending) (w' : World) : Prop := ∃ a c l x y, e = .returned (.tuple #[.slice a (l : List Int).length c, .int .i64 x, .int .i64 y]) ∧ RowAt w' a (intCells l) ∧ l.length ≤ 13 ∧ -100 ≤ x ∧ x ≤ 100 ∧ -100 ≤ y ∧ y ≤ 100 ∧ Below w.heap.size w w'
set_option maxRecDepth 10000 in
set_option maxHeartbeats 2000000 in
theorem drawIsMap (a : Option Addr) (c : Nat) (l : List Int) (w : World) (ha : RowAt w a (byteCells l)) (hb : ∀ x ∈ l, 0 ≤ x ∧ x ≤ 255) (hsz : l.length ≤ 1048576) :
    Calls Try.prog 43 #[.slice a l.length c] w (DrawnM w) := by
  go_enter Try.func43, Try.ntmps43
  go_wp2_with fail
  refine (l1New a c l w ha hb hsz).mono ?_
  rintro e w1 ⟨g, rfl, hgl, hc, hb1⟩
  have Hb1 := Lib.hid hb1
  go_wp2_with fail
  refine (l6Bent g w1 hc).mono ?_
  rintro e w2 ⟨v, r, rfl, ho, h2, h13, hc2, hg2⟩
  obtain ⟨ra, rc, rfl⟩ := own_len ho
  have Hr := Lib.hid (ownM_row ho); have Hbb := Lib.hid (belowM Hb1.out hg2 hgl)
  clear ho hc2 hg2 hc hb1
  go_wp2
  go_ret
  exact ⟨ra, rc, r, rfl, Hr.out, h13, Hbb.out⟩
set_option maxRecDepth 10000 in
theorem case_l1Bit (b : Bool) (w : World) : Calls Try.prog 95 #[.bool b] w fun e w' => (∃ n : Nat, n ≤ 1 ∧ e = .returned (.int .i64 (n : Int))) ∧ w' = w := by
  cases b
  · go_enter Try.func95, Try.ntmps95
    go_wp2
    go_ret
    exact ⟨⟨0, by omega, rfl⟩, rfl⟩
  · go_enter Try.func95, Try.ntmps95
    go_wp2
    go_ret
    exact ⟨⟨1, by omega, rfl⟩, rfl⟩
set_option maxRecDepth 10000 in
set_option maxHeartbeats 2000000 in
theorem l6Case (a : Option Addr) (c : Nat) (l : List Int) (w : World) (ha : RowAt w a (byteCells l)) (hb : ∀ x ∈ l, 0 ≤ x ∧ x ≤ 255) (hsz : l.length ≤ 1048576) :
    Calls Try.prog 105 #[.slice a l.length c] w (DrawnM2 w) := by
  go_enter Try.func105, Try.ntmps105
  go_wp2_with fail
  refine (l1New a c l w ha hb hsz).mono ?_
  rintro e w1 ⟨g, rfl, hgl, hc, hb1⟩
  have Hb1 := Lib.hid hb1
  go_wp2_with fail
  refine (l6Bent g w1 hc).mono ?_
  rintro e w2 ⟨v, r, rfl, ho, h2, h13, hc2, hg2⟩
  have hgw := hc.lt
  obtain ⟨ra, rc, rfl⟩ := own_len ho
  have Ho := Lib.hid ho; have Hc2 := Lib.hid hc2; have Hg2 := Lib.hid hg2
  have hrp : (0 : Int) < (r.length : Int) := by omega
  clear ho hc2 hg2 hc hb1
  go_wp2_with fail
  refine (l1Below g r.length _ Hc2.out hrp (by omega)).mono ?_
  rintro e w3 ⟨⟨x, rfl, hx0, hx1⟩, hc3, hg3⟩
  have Ho3 := Lib.hid (ownM_cur Ho.out hg3 hgw); have Hc3 := Lib.hid hc3; have Hg3 := Lib.hid (Hg2.out.trans hg3)
  clear hc3 hg3
  go_wp2_with fail
  refine (l1Once g 14 _ Hc3.out (by omega) (by omega)).mono ?_
  rintro e w4 ⟨⟨b, rfl⟩, hc4, hg4⟩
  have Ho4 := Lib.hid (ownM_cur Ho3.out hg4 hgw); have Hc4 := Lib.hid hc4; have Hg4 := Lib.hid (Hg3.out.trans hg4)
  clear hc4 hg4
  go_wp2_with fail
  refine (case_l1Bit b _).mono ?_
  rintro e w5 ⟨⟨n1, hn1, rfl⟩, hw5⟩
  rw [hw5]; clear hw5
  have hwx : IntKind.i64.wrap (x - (n1 : Int)) = x - (n1 : Int) := wrap_small (by omega) (by omega)
  go_wp2_with fail
  refine (l1Below g r.length _ Hc4.out hrp (by omega)).mono ?_
  rintro e w6 ⟨⟨y, rfl, hy0, hy1⟩, hc6, hg6⟩
  have Hr := Lib.hid (ownM_row (ownM_cur Ho4.out hg6 hgw)); have Hbb := Lib.hid (belowM Hb1.out (Hg4.out.trans hg6) hgl)
  clear hc6 hg6
  have hbx : -100 ≤ x - (n1 : Int) ∧ x - (n1 : Int) ≤ 100 := by omega
  have hby : -100 ≤ y ∧ y ≤ 100 := by omega
  generalize x - (n1 : Int) = z at *
  go_wp2
  go_ret3
  exact ⟨ra, rc, r, z, y, by first | rfl | simp [*], Hr.out, h13, hbx.1, hbx.2, hby.1, hby.2, Hbb.out⟩
set_option maxRecDepth 10000 in
set_option maxHeartbeats 2000000 in
theorem drawAddEdge (a : Option Addr) (c : Nat) (l : List Int) (w : World) (ha : RowAt w a (byteCells l)) (hb : ∀ x ∈ l, 0 ≤ x ∧ x ≤ 255) (hsz : l.length ≤ 1048576) :
    Calls Try.prog 45 #[.slice a l.length c] w (DrawnM2 w) := by
  go_enter Try.func45, Try.ntmps45
  go_wp2_with fail
  refine (l6Case a c l w ha hb hsz).mono ?_
  rintro e w1 ⟨ra, rc, r, x, y, rfl, hr, h13, hx0, hx1, hy0, hy1, hbb⟩
  have Hr := Lib.hid hr; have Hbb := Lib.hid hbb
  clear hr hbb
  go_wp2
  go_ret3
  exact ⟨ra, rc, r, x, y, by first | rfl | simp [*], Hr.out, h13, hx0, hx1, hy0, hy1, Hbb.out⟩
set_option maxRecDepth 10000 in
set_option maxHeartbeats 2000000 in
theorem drawDropEdge (a : Option Addr) (c : Nat) (l : List Int) (w : World) (ha : RowAt w a (byteCells l)) (hb : ∀ x ∈ l, 0 ≤ x ∧ x ≤ 255) (hsz : l.length ≤ 1048576) :
    Calls Try.prog 44 #[.slice a l.length c] w (DrawnM1 w) := by
  go_enter Try.func44, Try.ntmps44
  go_wp2_with fail
  refine (l6Case a c l w ha hb hsz).mono ?_
  rintro e w1 ⟨ra, rc, r, x, y, rfl, hr, h13, hx0, hx1, hy0, hy1, hbb⟩
  have Hr := Lib.hid hr; have Hbb := Lib.hid hbb
  have ht := Mp.tdiv2 x
  have hwx : IntKind.i64.wrap (x.tdiv 2) = x.tdiv 2 := wrap_small (by omega) (by omega)
  have hbx : -100 ≤ x.tdiv 2 ∧ x.tdiv 2 ≤ 100 := by omega
  clear hr hbb ht
  generalize hz : x.tdiv 2 = z at *
  have Hz := Lib.hid hz
  go_wp2
  go_ret2
  exact ⟨ra, rc, r, z, by first | rfl | simp [*], Hr.out, h13, hbx.1, hbx.2, Hbb.out⟩
set_option maxRecDepth 10000 in
set_option maxHeartbeats 2000000 in
theorem drawSubdivideEdge (a : Option Addr) (c : Nat) (l : List Int) (w : World) (ha : RowAt w a (byteCells l)) (hb : ∀ x ∈ l, 0 ≤ x ∧ x ≤ 255) (hsz : l.length ≤ 1048576) :
    Calls Try.prog 46 #[.slice a l.length c] w (DrawnM1 w) := by
  go_enter Try.func46, Try.ntmps46
  go_wp2_with fail
  refine (l6Case a c l w ha hb hsz).mono ?_
  rintro e w1 ⟨ra, rc, r, x, y, rfl, hr, h13, hx0, hx1, hy0, hy1, hbb⟩
  have Hr := Lib.hid hr; have Hbb := Lib.hid hbb
  have ht := Mp.tdiv2 x
  have hwx : IntKind.i64.wrap (x.tdiv 2) = x.tdiv 2 := wrap_small (by omega) (by omega)
  have hbx : -100 ≤ x.tdiv 2 ∧ x.tdiv 2 ≤ 100 := by omega
  clear hr hbb ht
  generalize hz : x.tdiv 2 = z at *
  have Hz := Lib.hid hz
  go_wp2
  go_ret2
  exact ⟨ra, rc, r, z, by first | rfl | simp [*], Hr.out, h13, hbx.1, hbx.2, Hbb.out⟩
end Go.Proofs.Ytjpafacldcnboaa
