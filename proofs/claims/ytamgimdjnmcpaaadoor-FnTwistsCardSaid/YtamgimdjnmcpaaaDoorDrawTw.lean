/-
  The walks of the model's draws of classes, twists and tables. The walks of the model's draws of chapter 11 that the law takes.
-/
import Derived.Test.YtamgimdjnmcpaaaDoorBase
import Derived.Test.YtamgimdjnmcpaaaDoorSlice
import Derived.Test.YtamgimdjnmcpaaaDoorIntRow
import Derived.Test.YtamgimdjnmcpaaaDoorInts
import Derived.Test.YtamgimdjnmcpaaaDoorOwn
import Derived.Test.YtamgimdjnmcpaaaDoorAppend
import Derived.Test.YtamgimdjnmcpaaaDoorGrid
import Derived.Test.YtamgimdjnmcpaaaDoorGridRows
import Derived.Test.YtamgimdjnmcpaaaDoorRowI
import Derived.Test.YtamgimdjnmcpaaaDoorDraw
import Derived.Test.YtamgimdjnmcpaaaDoorTw
import Derived.Test.YtamgimdjnmcpaaaDoorTwB
import Derived.Test.YtamgimdjnmcpaaaDoorTwC
import Derived.Test.YtamgimdjnmcpaaaDoorTwE
import Derived.Test.YtamgimdjnmcpaaaDoorTwG
import Derived.Test.YtamgimdjnmcpaaaDoorTwS
import Derived.Test.YtamgimdjnmcpaaaDoorTwT
import Derived.Test.YtamgimdjnmcpaaaDoorTwU
import Derived.Deep.QuietTactic
import Derived.BigQuiet
import Derived.StillTailTactics
import Derived.OwnWalk
import Derived.Test.YtamgimdjnmcpaaaDoorGivesRows
import Derived.Test.YtamgimdjnmcpaaaDoorMoveA
import Derived.Test.YtamgimdjnmcpaaaDoorBagA
import Derived.Test.YtamgimdjnmcpaaaDoorTabPut
namespace Go.Proofs.YtamgimdjnmcpaaaDoor
open Go.RowKit

namespace Dt
theorem grown_both {w wr w1 : World} {g : Nat} {row : Option Nat} (hg : w.grownBy wr (some g)) (h1 : wr.grownBy w1 row) (hr : ∀ k, row = some k → w.heap.size ≤ k) : w.grownBy w1 (some g) :=
  ⟨h1.os.trans hg.os, h1.tape.trans hg.tape, h1.output.trans hg.output, Nat.le_trans hg.size h1.size, fun i hi hne => (h1.block i (Nat.lt_of_lt_of_le hi hg.size) (fun e => by have := hr i e.symm; omega)).trans (hg.block i hi hne)⟩
theorem own_cur {w w' : World} {base n g : Nat} {e : TypeId} {v : Value} {xs : List Value} (h : w.ownsRow base e 1 v n xs) (hg : w.grownBy w' (some g)) (hgl : g < base) : w'.ownsRow base e 1 v n xs :=
  h.kept hg (by
    rcases h.2 with ⟨hv, _⟩ | ⟨k, cap, cur, hv, hk, _⟩
    · left; rw [hv]; rfl
    · right; rw [hv]; simp [Value.ownBlock]; omega)
def Few (l : List Int) : Prop := ∀ x ∈ l, -1001 ≤ x ∧ x ≤ 1001
/-- Some integers in memory of the call's own; the cursor goes on. -/
def BentT (w : World) (g n : Nat) (e : Ending) (w' : World) : Prop := ∃ v l, e = .returned v ∧ w'.ownsRow w.heap.size 3 1 v n (intCells l) ∧ (l : List Int).length = n ∧ Few l ∧ CurAt w' g ∧ w.grownBy w' (some g)
theorem belowM {w w1 w2 : World} {g : Nat} (hb : Below w.heap.size w w1) (hg : w1.grownBy w2 (some g)) (hgl : w.heap.size ≤ g) : Below w.heap.size w w2 := hb.grown hg hb.size (fun k hk => by cases hk; exact hgl)
end Dt
set_option maxRecDepth 10000 in
set_option maxHeartbeats 2000000 in
theorem l11Class (g n : Nat) (G : Int) (w : World) (hc : CurAt w g) (hn : (n : Int) = 2 * G) (n2 : 2 ≤ n) (n6 : n ≤ 6) :
    Calls Tryd.prog 75 #[.pointer (some ⟨g, 0, none⟩), .int .i64 G] w (Dt.BentT w g n) := by
  obtain ⟨i0, hi0, hz0, hz1, hz2⟩ := info_int_parts
  have Hi0 := Lib.hid hi0; have Hz0 := Lib.hid hz0; have Hz1 := Lib.hid hz1; have Hz2 := Lib.hid hz2
  have e1 : IntKind.i64.wrap (2 * G) = (n : Int) := by rw [← hn]; exact wrap_small (by omega) (by omega)
  have hgl := hc.lt
  have ho := Lib.hid (own_made (w := w) rfl)
  have hcg := Lib.hid (And.intro (hc.alloc (.cells #[] 3)) (show w.grownBy (w.alloc (.cells #[] 3)) (some g) from only_of_below ((Below.refl _ w).alloc (Nat.le_refl _) _) _))
  clear hi0 hz0 hz1 hz2 hn hc
  go_enter Tryd.func75, Tryd.ntmps75
  go_wp2
  go_loopw [5, 6] (fun ov kv wr => ∃ (i : Nat) (l : List Int), i ≤ n ∧ kv = .int .i64 i ∧ l.length = i ∧ Hid (wr.ownsRow w.heap.size 3 1 ov i (intCells l)) ∧ Hid (Dt.Few l) ∧ Hid (CurAt wr g ∧ w.grownBy wr (some g))) (fun _ kv _ => n - (intOf kv).toNat)
  case atStart => exact ⟨0, [], by omega, rfl, rfl, ho, Lib.hid (fun _ h => by cases h), hcg⟩
  case round =>
    obtain ⟨i, l, hi, rfl, hll, hown, hF, hcg⟩ := hrel
    by_cases hlt : i < n
    · obtain ⟨av, cv, hav⟩ := own_len hown.out
      subst hav
      have Hll := Lib.hid hll
      have q0 : (0 : Int) ≤ (i : Int) := by omega
      have q1 : (i : Int) < (n : Int) := by omega
      clear hll
      go_wp2_with fail
      refine (l1Below g 5 wr hcg.out.1 (by omega) (by omega)).mono ?_
      rintro e w2 ⟨⟨x, rfl, hx0, hx1⟩, hc2, hg2⟩
      have Hown2 := Lib.hid (Dt.own_cur hown.out hg2 hgl)
      have Hgw2 := Lib.hid (hcg.out.2.trans hg2); have Hc2 := Lib.hid hc2
      have hN : w.heap.size ≤ w2.heap.size := Hgw2.out.size
      have e2 : IntKind.i64.wrap (x - 2) = x - 2 := wrap_small (by omega) (by omega)
      have hm1 : i + 1 ≤ maxLen := by unfold maxLen; omega
      have hm2 : (i + 1) * 8 ≤ 140737488355328 := by omega
      clear hc2 hg2 hown hcg
      go_wp2_with (at_builtin; refine append_one rfl (.tmp 14) (.tmp 18) 24 rfl w.heap.size 3 i0 _ 8 Tryd.underlying24 Hi0.out Hz0.out Hz1.out Hz2.out (by rfl) _ _ _ rfl Hown2.out (by rfl) _ rfl hm1 hm2 hN ?_; intro v1 w4 hown4 hg4 _; have Hown4 := Lib.hid hown4; have Hg4 := Lib.hid hg4; clear hown4 hg4)
      go_roundw
      case rel =>
        have hrow : ∀ k, (Value.slice av i cv).ownBlock = some k → w.heap.size ≤ k := fun k hk => (Hown2.out.lt k hk).1
        refine ⟨i + 1, l ++ [x - 2], by omega, by go_num, by rw [List.length_append, Hll.out]; rfl, Lib.hid (by rw [← intCells_snoc]; exact Hown4.out), Lib.hid (fun y hy => ?_), Lib.hid ⟨(Hc2.out.alloc _).above Hg4.out (fun k hk => by have := hrow k hk; omega), Dt.grown_both (Hgw2.out.trans (World.grownBy_alloc _ _ _)) Hg4.out hrow⟩⟩
        rcases List.mem_append.1 hy with h | h
        · exact hF.out y h
        · rw [List.mem_singleton.1 h]; omega
      case measure => simp [intOf]; omega
    · obtain rfl : i = n := by omega
      obtain ⟨b, cv, hv, hle, hcm⟩ := own_form hown.out (by omega)
      subst hv
      have Hll := Lib.hid hll
      clear hll
      go_wp2_with fail
      refine (l1Once g 20 wr hcg.out.1 (by omega) (by omega)).mono ?_
      rintro e w2 ⟨⟨bb, rfl⟩, hc2, hg2⟩
      have Hown2 := Lib.hid (Dt.own_cur hown.out hg2 hgl)
      have Hgw2 := Lib.hid (hcg.out.2.trans hg2); have Hc2 := Lib.hid hc2
      clear hc2 hg2 hown hcg
      cases bb with
      | false =>
        go_wp2
        go_ret
        exact ⟨_, l, rfl, Hown2.out, Hll.out, hF.out, Hc2.out, Hgw2.out⟩
      | true =>
        go_wp2_with fail
        refine (l1PickInt g w2.heap.size 3 [1000, 1001, -1000] _ (Hc2.out.alloc _) (Blk.new _ _ _) (by have := Hc2.out.lt; omega) (by decide) (by decide)).mono ?_
        rintro e w4 ⟨⟨u, hu, rfl⟩, hc4, hg4⟩
        have hz : ∃ z : Int, u = .int .i64 z ∧ -1001 ≤ z ∧ z ≤ 1001 := by
          simp only [intCells, List.map_cons, List.map_nil, List.mem_cons, List.mem_nil_iff, or_false] at hu
          rcases hu with rfl | rfl | rfl
          · exact ⟨1000, rfl, by omega, by omega⟩
          · exact ⟨1001, rfl, by omega, by omega⟩
          · exact ⟨-1000, rfl, by omega, by omega⟩
        obtain ⟨z, hzu, hz0', hz1'⟩ := hz
        subst hzu
        have hown4 := Dt.own_cur (Hown2.out.alloc (.cells #[.int .i64 1000, .int .i64 1001, .int .i64 (-1000)] 3)) hg4 hgl
        have Hgw4 := Lib.hid ((Hgw2.out.trans (World.grownBy_alloc _ _ _)).trans hg4)
        have hcell := hown4.cellAt 0 (by omega)
        have hfz := hown4.frozenAt 0
        have hlen : 0 < l.length := by rw [Hll.out]; omega
        obtain ⟨u0, hu0⟩ : ∃ u0, w4.cell? ⟨b, 0, none⟩ = some u0 := ⟨_, by rw [hcell, intCells_get hlen]⟩
        have hst := (hown4.stored 0 (.int .i64 z)).1
        have hb := (hown4.lt b rfl).1
        have hsc : w4.grownBy (w4.setCell ⟨b, 0, none⟩ (.int .i64 z)) (some b) := only_setCell (World.grownBy.refl _ _) (Or.inl rfl) _
        have Hfin := Lib.hid (show Dt.BentT w g i (.returned (.slice (some ⟨b, 0, none⟩) i cv)) (w4.setCell ⟨b, 0, none⟩ (.int .i64 z)) from
          ⟨_, l.set 0 z, rfl, by rw [show intCells (l.set 0 z) = (intCells l).set 0 (.int .i64 z) from by simp [intCells, List.map_set]]; exact hst, by rw [List.length_set]; exact Hll.out, fun y hy => by
            rcases List.mem_or_eq_of_mem_set hy with h | h
            · exact hF.out y h
            · rw [h]; omega, hc4.above hsc (fun k hk => by cases hk; omega), Dt.grown_both Hgw4.out hsc (fun k hk => by cases hk; exact hb)⟩)
        clear hst hsc hown4 hcell hc4 hg4 hu
        go_wp2
        go_ret
        exact Hfin.out
namespace Dt
/-- Two classes, mostly, with their number of handles. -/
def Two (w : World) (e : Ending) (w' : World) : Prop := ∃ (G : Int) (ax : Option Addr) (cx : Nat) (x : List Int) (ay : Option Addr) (cy : Nat) (y : List Int), e = .returned (.tuple #[.int .i64 G, .slice ax x.length cx, .slice ay y.length cy]) ∧ RowAt w' ax (intCells x) ∧ RowAt w' ay (intCells y) ∧ (0 ≤ G ∧ G ≤ 4) ∧ (x.length ≤ 6 ∧ y.length ≤ 6) ∧ (Few x ∧ Few y) ∧ Below w.heap.size w w'
end Dt
set_option maxRecDepth 10000 in
set_option maxHeartbeats 2000000 in
theorem l11Two (a : Option Addr) (c : Nat) (l : List Int) (w : World) (ha : RowAt w a (byteCells l)) (hb : ∀ x ∈ l, 0 ≤ x ∧ x ≤ 255) (hsz : l.length ≤ 1048576) :
    Calls Tryd.prog 50 #[.slice a l.length c] w (Dt.Two w) := by
  obtain ⟨i0, hi0, hz0, hz1, hz2⟩ := info_int_parts
  have Hi0 := Lib.hid hi0; have Hz0 := Lib.hid hz0; have Hz1 := Lib.hid hz1; have Hz2 := Lib.hid hz2
  have HN := Lib.hid (l1New a c l w ha hb hsz)
  clear hi0 hz0 hz1 hz2 ha hb hsz
  go_enter Tryd.func50, Tryd.ntmps50
  go_wp2_with fail
  refine HN.out.mono ?_
  rintro e w1 ⟨g, rfl, hgl, hc, hb1⟩
  have Hb1 := Lib.hid hb1
  clear hb1
  go_wp2_with fail
  refine (l1Below g 3 w1 hc (by omega) (by omega)).mono ?_
  rintro e w2 ⟨⟨q, rfl, hq0, hq1⟩, hc2, hg2⟩
  obtain ⟨G, hG⟩ : ∃ G, 1 + q = G := ⟨_, rfl⟩
  obtain ⟨n, hn⟩ : ∃ n : Nat, (n : Int) = 2 * G := ⟨(2 * G).toNat, by omega⟩
  have e1 : IntKind.i64.wrap (1 + q) = G := by rw [hG]; exact wrap_small (by omega) (by omega)
  have Hg2 := Lib.hid hg2; have Hc2 := Lib.hid hc2
  have g1 : 1 ≤ G := by omega
  have g3 : G ≤ 3 := by omega
  clear hc hc2 hg2
  go_wp2_with fail
  refine (l11Class g n G w2 Hc2.out hn (by omega) (by omega)).mono ?_
  rintro e w3 ⟨v3, x, rfl, hox, hxl, hxF, hc3, hg3⟩
  have Hg3 := Lib.hid (Hg2.out.trans hg3); have Hc3 := Lib.hid hc3; have Hox := Lib.hid hox; have HxF := Lib.hid hxF; have Hxl := Lib.hid hxl
  have hgw2 := Hc2.out.lt
  clear hg3 hc3 hox hxF hxl
  go_wp2_with fail
  refine (l11Class g n G w3 Hc3.out hn (by omega) (by omega)).mono ?_
  rintro e w4 ⟨v4, y, rfl, hoy, hyl, hyF, hc4, hg4⟩
  have Hx4 := Lib.hid (Dt.own_cur Hox.out hg4 hgw2)
  have hgw3 := Hc3.out.lt
  have Hg4 := Lib.hid (Hg3.out.trans hg4); have Hc4 := Lib.hid hc4; have Hoy := Lib.hid hoy; have HyF := Lib.hid hyF; have Hyl := Lib.hid hyl
  clear hg4 hc4 hoy hyF hyl
  go_wp2_with fail
  refine (l1Below g 16 w4 Hc4.out (by omega) (by omega)).mono ?_
  rintro e w5 ⟨⟨s, rfl, hs0, hs1⟩, hc5, hg5⟩
  have Hx5 := Lib.hid (Dt.own_cur Hx4.out hg5 hgw2)
  have Hy5 := Lib.hid (Dt.own_cur Hoy.out hg5 hgw3)
  have Hg5 := Lib.hid (Hg4.out.trans hg5); have Hc5 := Lib.hid hc5
  clear hg5 hc5
  obtain ⟨xb, xc, hxv, hxle, hxm⟩ := own_form Hx5.out (by omega)
  obtain ⟨yb, yc, hyv, hyle, hym⟩ := own_form Hy5.out (by omega)
  subst hxv; subst hyv
  obtain ⟨xa', xc', exv, _, hfx⟩ := own_fresh Hx5.out (by rw [intCells_len, Hxl.out])
  cases exv
  obtain ⟨ya', yc', eyv, _, hfy⟩ := own_fresh Hy5.out (by rw [intCells_len, Hyl.out])
  cases eyv
  have HBw := Lib.hid (Dt.belowM Hb1.out Hg5.out hgl)
  have Hrx := Lib.hid hfx.row; have Hry := Lib.hid hfy.row
  have hz5 : w.heap.size ≤ w5.heap.size := HBw.out.size
  clear hfx hfy
  by_cases s0 : s = 0
  · subst s0
    have t0 : ((0 : Int) == 0) = true := by decide
    go_wp2_with fail
    refine (l1PickInt g w5.heap.size 3 [0, 4, 1] _ (Hc5.out.alloc _) (Blk.new _ _ _) (by have := Hc5.out.lt; omega) (by decide) (by decide)).mono ?_
    rintro e w6 ⟨⟨u, hu, rfl⟩, hc6, hg6⟩
    have hz : ∃ z : Int, u = .int .i64 z ∧ 0 ≤ z ∧ z ≤ 4 := by
      simp only [intCells, List.map_cons, List.map_nil, List.mem_cons, List.mem_nil_iff, or_false] at hu
      rcases hu with rfl | rfl | rfl
      · exact ⟨0, rfl, by omega, by omega⟩
      · exact ⟨4, rfl, by omega, by omega⟩
      · exact ⟨1, rfl, by omega, by omega⟩
    obtain ⟨z, hzu, hz0', hz1'⟩ := hz
    subst hzu
    have hal : Below w5.heap.size w5 (w5.alloc (.cells #[.int .i64 0, .int .i64 4, .int .i64 1] 3)) := (Below.refl _ _).alloc (Nat.le_refl _) _
    have HBw6 := Lib.hid (Dt.belowM (HBw.out.trans (hal.mono hz5)) hg6 hgl)
    have hx6 := own_fresh (Dt.own_cur (own_keep Hx5.out hal (fun k hk => (Hx5.out.lt k hk).2)) hg6 hgw2) (by rw [intCells_len, Hxl.out])
    have hy6 := own_fresh (Dt.own_cur (own_keep Hy5.out hal (fun k hk => (Hy5.out.lt k hk).2)) hg6 hgw3) (by rw [intCells_len, Hyl.out])
    obtain ⟨a6, c6, e6, _, hfx6⟩ := hx6
    cases e6
    obtain ⟨a7, c7, e7, _, hfy6⟩ := hy6
    cases e7
    have Hrx6 := Lib.hid hfx6.row; have Hry6 := Lib.hid hfy6.row
    clear hfx6 hfy6 hal hc6 hg6 hu
    go_wp2
    go_ret3
    exact ⟨z, _, xc, x, _, yc, y, by rw [Hxl.out, Hyl.out]; rfl, Hrx6.out, Hry6.out, ⟨hz0', hz1'⟩, by rw [Hxl.out, Hyl.out]; omega, ⟨HxF.out, HyF.out⟩, HBw6.out⟩
  · have t0 : (s == 0) = false := beq_eq_false_iff_ne.2 s0
    by_cases s1 : s = 1
    · subst s1
      have t1 : ((1 : Int) == 1) = true := by decide
      have k1 : (1 : Int) ≤ (yc : Int) := by omega
      have k2 : 1 ≤ yc := by omega
      have k3 : 1 ≤ n := by omega
      have k4 : (1 : Int) ≤ (n : Int) := by omega
      have Hr1 := Lib.hid (show RowAt w5 (some ⟨yb, 0, none⟩) (intCells (y.take 1)) from by
        rcases Hry.out with e | ⟨b, o, e, hlt, hc⟩
        · left
          have : y = [] := by simpa [intCells] using e
          rw [this]; rfl
        · refine Or.inr ⟨b, o, e, hlt, fun i v hv => hc i v ?_⟩
          rw [← intCells_take, List.getElem?_take] at hv
          split at hv
          · exact hv
          · cases hv)
      have Hl1 := Lib.hid (show (y.take 1).length = 1 by rw [List.length_take, Hyl.out]; omega)
      go_wp2
      go_ret3
      exact ⟨G, _, xc, x, _, yc, y.take 1, by rw [Hxl.out, Hl1.out]; rfl, Hrx.out, Hr1.out, by omega, by rw [Hxl.out, Hl1.out]; omega, ⟨HxF.out, fun q hq => HyF.out q (List.mem_of_mem_take hq)⟩, HBw.out⟩
    · have t1 : (s == 1) = false := beq_eq_false_iff_ne.2 s1
      by_cases s2 : s = 2 ∨ s = 3
      · have hcopy : Hid (∀ (v6 : Value) (w6 : World), w6.ownsRow w5.heap.size 3 1 v6 (0 + n) (intCells [] ++ intCells x) → (w5.alloc (.cells #[] 3)).grownBy w6 (Value.slice (some ⟨w5.heap.size, 0, none⟩) 0 0).ownBlock → ∃ a6 c6, v6 = .slice a6 n c6 ∧ Hid (Dt.Two w (.returned (.tuple #[.int .i64 G, .slice (some ⟨xb, 0, none⟩) n xc, .slice a6 n c6])) w6)) := Lib.hid (fun v6 w6 ho hg => by
          rw [Nat.zero_add] at ho
          obtain ⟨a6, c6, e6, _, hf6⟩ := own_fresh ho (by simp [intCells_len, Hxl.out])
          have hbg := Below.grown ((Below.refl w5.heap.size w5).alloc (Nat.le_refl _) (.cells #[] 3)) hg (by simp) (fun k hk => by have := own_block hk; omega)
          refine ⟨a6, c6, e6, Lib.hid ⟨G, _, xc, x, a6, c6, x, by rw [Hxl.out], Hrx.out.below hbg, by simpa [intCells] using hf6.row, by omega, by rw [Hxl.out]; omega, ⟨HxF.out, HxF.out⟩, HBw.out.trans (hbg.mono hz5)⟩⟩)
        have Hrxa := Lib.hid (Hrx.out.below ((Below.refl w5.heap.size w5).alloc (Nat.le_refl _) (.cells #[] 3)))
        have Hmk := Lib.hid (own_made (w := w5) rfl)
        have hm1 : 0 + n ≤ maxLen := by unfold maxLen; omega
        have hm2 : (0 + n) * 8 ≤ 140737488355328 := by omega
        have hNN : w5.heap.size ≤ (w5.alloc (.cells #[] 3)).heap.size := by simp
        have Hxl2 := Lib.hid (show (intCells x).length = n by rw [intCells_len, Hxl.out])
        rcases s2 with s2 | s2
        all_goals
          subst s2
          go_wp2_with (at_builtin; refine append_row rfl (.tmp 36) (.tmp 37) 24 rfl w5.heap.size 3 i0 _ 8 Tryd.underlying24 Hi0.out Hz0.out Hz1.out Hz2.out (by rfl) _ 0 (intCells []) rfl Hmk.out _ n _ (intCells x) rfl Hrxa.out Hxl2.out (intCells_one _) hm1 hm2 hNN ?_; intro v6 w6 hown6 hg6; obtain ⟨a6, c6, rfl, HF⟩ := hcopy.out v6 w6 hown6 hg6; clear hown6 hg6)
          go_wp2
          go_ret3
          exact HF.out
      · have t2 : (s == 2) = false := beq_eq_false_iff_ne.2 (by omega)
        have t3 : (s == 3) = false := beq_eq_false_iff_ne.2 (by omega)
        clear s0 s1 s2
        go_wp2
        go_ret3
        exact ⟨G, _, xc, x, _, yc, y, by rw [Hxl.out, Hyl.out]; rfl, Hrx.out, Hry.out, by omega, by rw [Hxl.out, Hyl.out]; omega, ⟨HxF.out, HyF.out⟩, HBw.out⟩
end Go.Proofs.YtamgimdjnmcpaaaDoor
namespace Go.Proofs.YtamgimdjnmcpaaaDoor
open Go.RowKit

namespace Dt
theorem results_tmp4 {fn : Func} {t u v x : Tmp} (h : fn.results = #[.tmp t, .tmp u, .tmp v, .tmp x]) (tmps : Array Value) (P : Program) (w : World) :
    (results fn tmps).run P w = .ok (.tuple #[tmps.getD t undef, tmps.getD u undef, tmps.getD v undef, tmps.getD x undef]) w := by
  simp [results, h]
def Four (w : World) (e : Ending) (w' : World) : Prop := ∃ (G : Int) (ax : Option Addr) (cx : Nat) (x : List Int) (ay : Option Addr) (cy : Nat) (y : List Int) (k : Int), e = .returned (.tuple #[.int .i64 G, .slice ax x.length cx, .slice ay y.length cy, .int .i64 k]) ∧ RowAt w' ax (intCells x) ∧ RowAt w' ay (intCells y) ∧ (0 ≤ G ∧ G ≤ 4) ∧ (x.length ≤ 6 ∧ y.length ≤ 6) ∧ (Few x ∧ Few y) ∧ (-21 ≤ k ∧ k ≤ 21) ∧ Below w.heap.size w w'
/-- A number is stored at the head of the first row. -/
theorem bump {w : World} {lo hi : Nat} {a : Option Addr} {L : List (List Int)} {r : List Int} {x0 : Int} (h : GridIn w lo hi a L) (h0 : L[0]? = some r) (hr : r[0]? = some x0) :
    ∃ b o g' o' ci, a = some ⟨b, o, none⟩ ∧ w.cell? ⟨b, o, none⟩ = some (.slice (some ⟨g', o', none⟩) r.length ci) ∧ w.cell? ⟨g', o', none⟩ = some (.int .i64 x0) ∧ w.frozen? ⟨g', o', none⟩ = false ∧ lo ≤ g' ∧
      ∀ x : Int, GridAt (w.setCell ⟨g', o', none⟩ (.int .i64 x)) a (L.set 0 (r.set 0 x)) := by
  obtain ⟨hs, rfl, h2, h3, h4⟩ := h
  cases hs with
  | nil => cases h0
  | cons z hs =>
    have hz : z.l = r := by simpa using h0
    subst hz
    have hpos : 0 < z.l.length := (List.getElem?_eq_some_iff.1 hr).1
    rcases h3 z (List.mem_cons_self ..) with e | ⟨g', o', all, ea, e1, e2, e3, e4⟩
    · have : z.l = [] := by simpa [intCells] using e
      rw [this] at hpos; simp at hpos
    rcases h2 with e | ⟨b, o, allO, eo, f1, f2, f3, f4⟩
    · simp [hdCells] at e
    have hcell : w.cell? ⟨b, o, none⟩ = some (.slice (some ⟨g', o', none⟩) z.l.length z.c) := by
      have := f4 0 z.val (by simp [hdCells])
      rw [Nat.add_zero] at this
      rw [f3.cell o, this]; unfold Hd.val; rw [ea]
    have hv : all[o']? = some (.int .i64 x0) := by
      have := e4 0 (.int .i64 x0) (intCells_some hr)
      rwa [Nat.add_zero] at this
    have hne : b ≠ g' := by
      rintro rfl
      unfold Blk at e3 f3
      rw [f3] at e3
      injection e3 with e3; injection e3 with _ e5 _
      exact absurd e5 (by decide)
    refine ⟨b, o, g', o', z.c, eo, hcell, by rw [e3.cell, hv], e3.frozen _, e1, fun x => ⟨⟨z.a, z.c, z.l.set 0 x⟩ :: hs, by simp, ?_, fun y hy => ?_⟩⟩
    · have hval : hdCells (⟨z.a, z.c, z.l.set 0 x⟩ :: hs) = hdCells (z :: hs) := by simp [hdCells, Hd.val]
      rw [hval]
      exact (show RowIn (w.setCell ⟨g', o', none⟩ (.int .i64 x)) lo hi 24 a (hdCells (z :: hs)) from Or.inr ⟨b, o, allO, eo, f1, f2, f3.far hne _, f4⟩).row
    · rcases List.mem_cons.1 hy with rfl | hy
      · refine (show RowIn (w.setCell ⟨g', o', none⟩ (.int .i64 x)) lo hi 3 z.a (intCells (z.l.set 0 x)) from Or.inr ⟨g', o', _, ea, e1, e2, e3.put o' _, fun t u hu => ?_⟩).row
        rw [Array.getElem?_setIfInBounds]
        simp only [intCells, List.getElem?_map, List.getElem?_set] at hu
        by_cases ht : 0 = t
        · subst ht
          rw [if_pos rfl, if_pos hpos] at hu
          rw [if_pos (by omega), if_pos (Array.getElem?_eq_some_iff.1 hv).1]
          exact hu
        · rw [if_neg ht] at hu
          rw [if_neg (by omega)]
          exact e4 t u (by simp only [intCells, List.getElem?_map]; exact hu)
      · have hym := h3 y (List.mem_cons_of_mem _ hy)
        by_cases hemp : y.l = []
        · exact Or.inl (by rw [hemp]; rfl)
        have hap := (List.pairwise_cons.1 h4.1).1 y hy
        rcases hym with e | ⟨g2, o2, all2, ea2, q1, q2, q3, q4⟩
        · exact absurd (by simpa [intCells] using e) hemp
        refine (show RowIn (w.setCell ⟨g', o', none⟩ (.int .i64 x)) lo hi 3 y.a (intCells y.l) from Or.inr ⟨g2, o2, all2, ea2, q1, q2, q3.far (fun e => ?_) _, q4⟩).row
        rcases hap with h | h | h
        · rw [h] at hpos; simp at hpos
        · exact hemp h
        · exact h g' o' g2 o2 ea ea2 e.symm
def Tab (w : World) (e : Ending) (w' : World) : Prop := ∃ (a : Option Addr) (c : Nat) (T : List (List Int)) (ax : Option Addr) (cx : Nat) (x : List Int), e = .returned (.tuple #[.slice a T.length c, .slice ax x.length cx]) ∧ GridAt w' a T ∧ RowAt w' ax (intCells x) ∧ Tw.Few T ∧ x.length ≤ 6 ∧ Below w.heap.size w w'
def Tabs (w : World) (e : Ending) (w' : World) : Prop := ∃ (a : Option Addr) (c : Nat) (S : List (List Int)) (b : Option Addr) (d : Nat) (T : List (List Int)), e = .returned (.tuple #[.slice a S.length c, .slice b T.length d]) ∧ GridAt w' a S ∧ GridAt w' b T ∧ Tw.Few S ∧ Tw.Few T ∧ Below w.heap.size w w'
def NumTab (w : World) (e : Ending) (w' : World) : Prop := ∃ (G : Int) (a : Option Addr) (c : Nat) (T : List (List Int)), e = .returned (.tuple #[.int .i64 G, .slice a T.length c]) ∧ GridAt w' a T ∧ Tw.Few T ∧ (0 ≤ G ∧ G ≤ 4) ∧ Below w.heap.size w w'
end Dt
set_option maxRecDepth 10000 in
theorem drawFormOf (a : Option Addr) (c : Nat) (l : List Int) (w : World) (ha : RowAt w a (byteCells l)) (hb : ∀ x ∈ l, 0 ≤ x ∧ x ≤ 255) (hsz : l.length ≤ 1048576) :
    Calls Tryd.prog 13 #[.slice a l.length c] w (Dt.Two w) := by
  have HT := Lib.hid (l11Two a c l w ha hb hsz)
  clear ha hb hsz
  go_enter Tryd.func13, Tryd.ntmps13
  go_wp2_with fail
  refine HT.out.mono ?_
  rintro e w1 ⟨G, ax, cx, x, ay, cy, y, rfl, h⟩
  have H := Lib.hid h; clear h
  go_wp2
  go_ret3
  exact ⟨G, ax, cx, x, ay, cy, y, rfl, H.out⟩
set_option maxRecDepth 10000 in
set_option maxHeartbeats 1000000 in
theorem drawTwistClass (a : Option Addr) (c : Nat) (l : List Int) (w : World) (ha : RowAt w a (byteCells l)) (hb : ∀ x ∈ l, 0 ≤ x ∧ x ≤ 255) (hsz : l.length ≤ 1048576) :
    Calls Tryd.prog 14 #[.slice a l.length c] w (Dt.Four w) := by
  have HT := Lib.hid (l11Two a c l w ha hb hsz)
  have HN := Lib.hid (fun W (h : Below w.heap.size w W) => l1New a c l W (ha.below h) hb hsz)
  clear ha hb hsz
  go_enter Tryd.func14, Tryd.ntmps14
  go_wp2_with fail
  refine HT.out.mono ?_
  rintro e w1 ⟨G, ax, cx, x, ay, cy, y, rfl, hx, hy, hG, hl, hF, hb1⟩
  have Hx := Lib.hid hx; have Hy := Lib.hid hy; have HG := Lib.hid hG; have Hl := Lib.hid hl; have HF := Lib.hid hF; have Hb1 := Lib.hid hb1
  clear hx hy hG hl hF hb1
  go_wp2_with fail
  refine (HN.out w1 Hb1.out).mono ?_
  rintro e w2 ⟨g, rfl, hgl, hc, hb2⟩
  have Hb2 := Lib.hid hb2; have Hc := Lib.hid hc; have Hgl := Lib.hid hgl
  clear hb2 hc hgl
  go_wp2_with fail
  refine (l1PickInt g w2.heap.size 7 [1, -1, 2, 0, 20, 21, -20] _ (Hc.out.alloc _) (Blk.new _ _ _) (by have := Hc.out.lt; omega) (by decide) (by decide)).mono ?_
  rintro e w6 ⟨⟨u, hu, rfl⟩, hc6, hg6⟩
  have hz : ∃ z : Int, u = .int .i64 z ∧ -21 ≤ z ∧ z ≤ 21 := by
    simp only [intCells, List.map_cons, List.map_nil, List.mem_cons, List.mem_nil_iff, or_false] at hu
    rcases hu with rfl | rfl | rfl | rfl | rfl | rfl | rfl
    · exact ⟨1, rfl, by omega, by omega⟩
    · exact ⟨-1, rfl, by omega, by omega⟩
    · exact ⟨2, rfl, by omega, by omega⟩
    · exact ⟨0, rfl, by omega, by omega⟩
    · exact ⟨20, rfl, by omega, by omega⟩
    · exact ⟨21, rfl, by omega, by omega⟩
    · exact ⟨-20, rfl, by omega, by omega⟩
  obtain ⟨z, hzu, hz0, hz1⟩ := hz
  subst hzu
  have hbb := Dt.belowM (w := w1) (Hb2.out.alloc Hb2.out.size _) hg6 Hgl.out
  have Hbb := Lib.hid hbb
  clear hu hc6 hg6 hbb
  go_wp2
  (try simp only [Exit.inBlock, Exit.then]); refine bodyPost_ret (Dt.results_tmp4 rfl _ _ _) rfl ?_
  exact ⟨G, ax, cx, x, ay, cy, y, z, rfl, Hx.out.below Hbb.out, Hy.out.below Hbb.out, HG.out, Hl.out, HF.out, ⟨hz0, hz1⟩, Hb1.out.trans (Hbb.out.mono Hb1.out.size)⟩
set_option maxRecDepth 10000 in
set_option maxHeartbeats 1000000 in
theorem drawApplyTable (a : Option Addr) (c : Nat) (l : List Int) (w : World) (ha : RowAt w a (byteCells l)) (hb : ∀ x ∈ l, 0 ≤ x ∧ x ≤ 255) (hsz : l.length ≤ 1048576) :
    Calls Tryd.prog 19 #[.slice a l.length c] w (Dt.Tab w) := by
  have HT := Lib.hid (l11Two a c l w ha hb hsz)
  clear ha hb hsz
  go_enter Tryd.func19, Tryd.ntmps19
  go_wp2_with fail
  refine HT.out.mono ?_
  rintro e w1 ⟨G, ax, cx, x, ay, cy, y, rfl, hx, hy, hG, hl, hF, hb1⟩
  have Hy := Lib.hid hy; have Hl := Lib.hid hl; have Hb1 := Lib.hid hb1
  have HM := Lib.hid (spec_TwistMatrix G ax cx x w1 hx (by omega))
  have Hf := Lib.hid (Tw.mat_few G x)
  generalize Tw.mat G x = M at *
  clear hx hy hG hl hF hb1
  go_wp2_with fail
  refine HM.out.mono ?_
  rintro e w2 ⟨ra, rc, rfl, _, _, hg2, hb2⟩
  have Hg2 := Lib.hid hg2.grid; have Hb2 := Lib.hid hb2; clear hg2 hb2
  go_wp2
  go_ret2
  exact ⟨ra, rc, M, ay, cy, y, rfl, Hg2.out, Hy.out.below Hb2.out, Hf.out, Hl.out.2, Hb1.out.trans (Hb2.out.mono Hb1.out.size)⟩
set_option maxRecDepth 10000 in
set_option maxHeartbeats 1000000 in
theorem drawTimesTable (a : Option Addr) (c : Nat) (l : List Int) (w : World) (ha : RowAt w a (byteCells l)) (hb : ∀ x ∈ l, 0 ≤ x ∧ x ≤ 255) (hsz : l.length ≤ 1048576) :
    Calls Tryd.prog 22 #[.slice a l.length c] w (Dt.Tabs w) := by
  have HT := Lib.hid (l11Two a c l w ha hb hsz)
  clear ha hb hsz
  go_enter Tryd.func22, Tryd.ntmps22
  go_wp2_with fail
  refine HT.out.mono ?_
  rintro e w1 ⟨G, ax, cx, x, ay, cy, y, rfl, hx, hy, hG, hl, hF, hb1⟩
  have Hb1 := Lib.hid hb1
  have HM := Lib.hid (spec_TwistMatrix G ax cx x w1 hx (by omega))
  have HM2 := Lib.hid (fun W (h : Below w1.heap.size w1 W) => spec_TwistMatrix G ay cy y W (hy.below h) (by omega))
  have Hf := Lib.hid (Tw.mat_few G x); have Hf2 := Lib.hid (Tw.mat_few G y)
  generalize decide (Tw.MatOk G x) = o1 at *
  generalize decide (Tw.MatOk G y) = o2 at *
  generalize Tw.mat G x = M at *
  generalize Tw.mat G y = M2 at *
  clear hx hy hG hl hF hb1
  go_wp2_with fail
  refine HM.out.mono ?_
  rintro e w2 ⟨ra, rc, rfl, _, _, hg2, hb2⟩
  have Hg2 := Lib.hid hg2.grid; have Hb2 := Lib.hid hb2; clear hg2 hb2
  go_wp2_with fail
  refine (HM2.out w2 Hb2.out).mono ?_
  rintro e w3 ⟨sa, sc, rfl, _, _, hg3, hb3⟩
  have Hg3 := Lib.hid hg3.grid; have Hb3 := Lib.hid hb3; clear hg3 hb3
  go_wp2
  go_ret2
  exact ⟨ra, rc, M, sa, sc, M2, rfl, Hg2.out.below Hb3.out, Hg3.out, Hf.out, Hf2.out, Hb1.out.trans ((Hb2.out.trans (Hb3.out.mono Hb2.out.size)).mono Hb1.out.size)⟩
set_option maxRecDepth 10000 in
set_option maxHeartbeats 1000000 in
theorem drawIsSymplectic (a : Option Addr) (c : Nat) (l : List Int) (w : World) (ha : RowAt w a (byteCells l)) (hb : ∀ x ∈ l, 0 ≤ x ∧ x ≤ 255) (hsz : l.length ≤ 1048576) :
    Calls Tryd.prog 25 #[.slice a l.length c] w (Dt.NumTab w) := by
  have HT := Lib.hid (l11Two a c l w ha hb hsz)
  have HN := Lib.hid (fun W (h : Below w.heap.size w W) => l1New a c l W (ha.below h) hb hsz)
  clear ha hb hsz
  go_enter Tryd.func25, Tryd.ntmps25
  go_wp2_with fail
  refine HT.out.mono ?_
  rintro e w1 ⟨G, ax, cx, x, ay, cy, y, rfl, hx, hy, hG, hl, hF, hb1⟩
  have Hb1 := Lib.hid hb1; have HG := Lib.hid hG
  have HM := Lib.hid (spec_TwistMatrix G ax cx x w1 hx (by omega))
  have HM2 := Lib.hid (fun W (h : Below w1.heap.size w1 W) => spec_TwistMatrix G ay cy y W (hy.below h) (by omega))
  have Hf := Lib.hid (Tw.mat_few G x); have Hf2 := Lib.hid (Tw.mat_few G y)
  generalize decide (Tw.MatOk G x) = o1 at *
  generalize decide (Tw.MatOk G y) = o2 at *
  generalize Tw.mat G x = M at *
  generalize Tw.mat G y = M2 at *
  have HTt := Lib.hid (fun W (ra sa : Option Addr) (rc sc : Nat) (h1 : GridAt W ra M) (h2 : GridAt W sa M2) => spec_TimesTable ra rc M sa sc M2 W h1 Hf.out.rows.1 Hf.out.rows.2 h2 Hf2.out.rows.1 Hf2.out.rows.2)
  have Hpf := Lib.hid (Tw.times_few M M2)
  clear hx hy hG hl hF hb1
  go_wp2_with fail
  refine HM.out.mono ?_
  rintro e w2 ⟨ra, rc, rfl, _, _, hg2, hb2⟩
  have Hg2 := Lib.hid hg2.grid; have Hb2 := Lib.hid hb2; clear hg2 hb2
  go_wp2_with fail
  refine (HM2.out w2 Hb2.out).mono ?_
  rintro e w3 ⟨sa, sc, rfl, _, _, hg3, hb3⟩
  have Hg3 := Lib.hid hg3.grid; have Hg2b := Lib.hid (Hg2.out.below hb3); have Hb3 := Lib.hid (Hb1.out.trans ((Hb2.out.trans (hb3.mono Hb2.out.size)).mono Hb1.out.size)); clear hg3 hb3
  go_wp2_with fail
  refine (HTt.out w3 ra sa rc sc Hg2b.out Hg3.out).mono ?_
  rintro e w4 ⟨pa, pc, rfl, _, _, hg4, hb4⟩
  have Hp4 := Lib.hid hg4; have Hb4 := Lib.hid (Hb3.out.trans (hb4.mono Hb3.out.size)); clear hg4
  have Hs4 := Lib.hid (Nat.le_trans Hb3.out.size (Nat.le_refl w3.heap.size))
  clear hb4
  go_wp2_with fail
  refine (HN.out w4 Hb4.out).mono ?_
  rintro e w5 ⟨g, rfl, hgl, hc, hb5⟩
  have Hp5 := Lib.hid (Hp4.out.below hb5)
  have Hc := Lib.hid hc; have Hgl := Lib.hid hgl
  have Hb5 := Lib.hid (Hb4.out.trans (hb5.mono Hb4.out.size))
  have Hgw := Lib.hid (Nat.le_trans Hb4.out.size hgl)
  clear hb5 hc hgl
  by_cases hk : Tw.TimesOk M M2
  · have hT := hk.isT
    rw [decide_eq_true hk]
    have h1 : 0 < (Tw.times M M2).length := by have := hT.1.1.1; omega
    obtain ⟨r, hr⟩ := get_some h1
    have hrl := (hT.1.2 r (get_mem hr)).1
    have hrF := (hT.1.2 r (get_mem hr)).2
    obtain ⟨x0, hx0⟩ := get_some (show 0 < r.length by omega)
    have hx1 := hrF x0 (get_mem hx0)
    have Hr := Lib.hid hr; have Hx0 := Lib.hid hx0
    have HRl := Lib.hid (fun q (hq : q ∈ (Tw.times M M2).set 0 (r.set 0 (x0 + 1))) => show q.length ≤ 6 from by
      rcases List.mem_or_eq_of_mem_set hq with h | h
      · exact Hpf.out.2 q h
      · rw [h, List.length_set]; exact Hpf.out.2 r (get_mem hr))
    generalize Tw.times M M2 = R at *
    clear hk hT hr hrl hrF hx0
    go_wp2_with fail
    refine (l1Once g 3 w5 Hc.out (by omega) (by omega)).mono ?_
    rintro e w6 ⟨⟨bb, rfl⟩, hc6, hg6⟩
    have Hp6 := Lib.hid (Hp5.out.only (Only.of_grown hg6) (Or.inl Hgl.out))
    have Hb6 := Lib.hid (Dt.belowM Hb5.out hg6 Hgw.out)
    clear hc6 hg6
    cases bb with
    | false =>
      go_wp2
      go_ret2
      exact ⟨G, pa, pc, R, rfl, Hp6.out.grid, Hpf.out, HG.out, Hb6.out⟩
    | true =>
      have hbd : Below w6.heap.size w6 w6.drew := Below.drew (Below.refl _ _)
      obtain ⟨b, o, g', o', ci, epa, k1, k2, k3, k4, hst⟩ := Dt.bump Hp6.out Hr.out Hx0.out
      subst epa
      have hst2 := hst (x0 + 1)
      have Hst := Lib.hid hst2
      have e1 : IntKind.i64.wrap (x0 + 1) = x0 + 1 := wrap_small (by omega) (by omega)
      have i1 : (0 : Int) < (R.length : Int) := by omega
      have i2 : (0 : Int) < (r.length : Int) := by have := (List.getElem?_eq_some_iff.1 Hx0.out).1; omega
      have i3 : 0 < r.length := by omega
      have Hk4 := Lib.hid (Nat.le_trans Hb3.out.size k4)
      clear hst hst2 k4
      go_wp2
      go_still_tail 10, (by kernel_rfl)
      change wpList _ _ _ _ _ w6.drew
      go_wp2
      go_ret2
      exact ⟨G, _, pc, R.set 0 (r.set 0 (x0 + 1)), by rw [List.length_set]; rfl, Hst.out.below (Below.drew (Below.refl _ _)), ⟨by rw [List.length_set]; exact Hpf.out.1, HRl.out⟩, HG.out, Below.drew (Below.setCell Hb6.out Hk4.out _)⟩
  · rw [decide_eq_false hk]
    generalize Tw.times M M2 = R at *
    clear hk
    go_wp2
    go_ret2
    exact ⟨G, pa, pc, R, rfl, Hp5.out.grid, Hpf.out, HG.out, Hb5.out⟩
end Go.Proofs.YtamgimdjnmcpaaaDoor
