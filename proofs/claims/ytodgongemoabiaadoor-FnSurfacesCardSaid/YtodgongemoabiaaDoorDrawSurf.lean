/-
  The walks of the draws of surfaces.
-/
import Derived.Test.YtodgongemoabiaaDoorBase
import Derived.Test.YtodgongemoabiaaDoorSlice
import Derived.Test.YtodgongemoabiaaDoorInts
import Derived.Test.YtodgongemoabiaaDoorOwn
import Derived.Test.YtodgongemoabiaaDoorSurf
import Derived.Test.YtodgongemoabiaaDoorSurfI
import Derived.Test.YtodgongemoabiaaDoorSurfSum
import Derived.Test.YtodgongemoabiaaDoorGrid
import Derived.Test.YtodgongemoabiaaDoorGridRows
import Derived.Test.YtodgongemoabiaaDoorDraw
import Derived.Test.YtodgongemoabiaaDoorDrawGlue0
import Derived.Test.YtodgongemoabiaaDoorDrawGlue
import Derived.Test.YtodgongemoabiaaDoorBentGlue
namespace Go.Proofs.YtodgongemoabiaaDoor
open Go.RowKit

/-- A surface's box and the result's, while it is drawn. -/
structure SurfBox (w : World) (g M : Nat) (wr : World) (x y z : Int) : Prop where
  res : Blk wr w.heap.size 25 #[.int .i64 0, .int .i64 0, .int .i64 0]
  box : Blk wr M 25 #[.int .i64 x, .int .i64 y, .int .i64 z]
  lo : w.heap.size < M
  gl : g < w.heap.size
  cur : CurAt wr g
  gro : w.grownBy wr (some g)
theorem SurfBox.draw {w wr w2 : World} {g M : Nat} {x y z : Int} (h : SurfBox w g M wr x y z) (hc : CurAt w2 g) (hg : wr.grownBy w2 (some g)) : SurfBox w g M w2 x y z :=
  have hl := h.lo
  have hgl := h.gl
  ⟨h.res.grown hg (by simp; omega), h.box.grown hg (by simp; omega), h.lo, h.gl, hc, h.gro.trans hg⟩
theorem grown_set {w : World} {M i : Nat} (hM : M < w.heap.size) (v : Value) : w.grownBy (w.setCell ⟨M, i, none⟩ v) (some M) :=
  have hb : Below M w (w.setCell ⟨M, i, none⟩ v) := (Below.refl M w).setCell (Nat.le_refl _) v
  ⟨hb.os, hb.tape, hb.output, hb.size, fun k _ hne => Below.heap_setCell w ⟨M, i, none⟩ v k (fun e => hne (by rw [e]))⟩
theorem SurfBox.gset {w wr : World} {g M i : Nat} {x y z : Int} (h : SurfBox w g M wr x y z) (v : Value) : w.grownBy (wr.setCell ⟨M, i, none⟩ v) (some g) := by
  have hg := grown_set (i := i) h.box.lt v
  have hl := h.lo
  refine ⟨hg.os.trans h.gro.os, hg.tape.trans h.gro.tape, hg.output.trans h.gro.output, Nat.le_trans h.gro.size hg.size, fun k hk hne => ?_⟩
  rw [hg.block k (Nat.lt_of_lt_of_le hk h.gro.size) (by simp; omega)]
  exact h.gro.block k hk hne
theorem SurfBox.set0 {w wr : World} {g M : Nat} {x y z : Int} (h : SurfBox w g M wr x y z) (q : Int) : SurfBox w g M (wr.setCell ⟨M, 0, none⟩ (.int .i64 q)) q y z :=
  have hl := h.lo
  have hgl := h.gl
  ⟨h.res.far (p := ⟨M, 0, none⟩) (by show w.heap.size ≠ M; omega) _, h.box.put 0 _, h.lo, h.gl, h.cur.above (grown_set (i := 0) h.box.lt _) (fun k e => by injection e with e; omega), h.gset _⟩
theorem SurfBox.set1 {w wr : World} {g M : Nat} {x y z : Int} (h : SurfBox w g M wr x y z) (q : Int) : SurfBox w g M (wr.setCell ⟨M, 1, none⟩ (.int .i64 q)) x q z :=
  have hl := h.lo
  have hgl := h.gl
  ⟨h.res.far (p := ⟨M, 1, none⟩) (by show w.heap.size ≠ M; omega) _, h.box.put 1 _, h.lo, h.gl, h.cur.above (grown_set (i := 1) h.box.lt _) (fun k e => by injection e with e; omega), h.gset _⟩
theorem SurfBox.set2 {w wr : World} {g M : Nat} {x y z : Int} (h : SurfBox w g M wr x y z) (q : Int) : SurfBox w g M (wr.setCell ⟨M, 2, none⟩ (.int .i64 q)) x y q :=
  have hl := h.lo
  have hgl := h.gl
  ⟨h.res.far (p := ⟨M, 2, none⟩) (by show w.heap.size ≠ M; omega) _, h.box.put 2 _, h.lo, h.gl, h.cur.above (grown_set (i := 2) h.box.lt _) (fun k e => by injection e with e; omega), h.gset _⟩
theorem SurfBox.alloc {w wr : World} {g M : Nat} {x y z : Int} (h : SurfBox w g M wr x y z) (o : Obj) : SurfBox w g M (wr.alloc o) x y z :=
  ⟨h.res.alloc o, h.box.alloc o, h.lo, h.gl, h.cur.alloc o, h.gro.trans (World.grownBy_alloc wr o _)⟩
theorem SurfBox.begin {w w1 : World} {g K : Nat} {z : Int} {o : Obj} (hgl : g < w.heap.size) (hc : CurAt w1 g) (hg : ((w.alloc (.cells #[.int .i64 0, .int .i64 0, .int .i64 0] 25)).alloc o).grownBy w1 (some g)) (hK : w1.heap.size = K) : SurfBox w g K (w1.alloc (.cells #[.int .i64 0, .int .i64 0, .int .i64 z] 25)) 0 0 z := by
  subst hK
  have hs := hg.size
  simp only [World.size_alloc] at hs
  have h0 : Blk w1 w.heap.size 25 #[.int .i64 0, .int .i64 0, .int .i64 0] := ((Blk.new w 25 #[.int .i64 0, .int .i64 0, .int .i64 0]).alloc o).grown hg (by simp; omega)
  exact ⟨h0.alloc _, Blk.new w1 _ _, by omega, hgl, hc.alloc _, (((World.grownBy_alloc w _ _).trans (World.grownBy_alloc _ o _)).trans hg).trans (World.grownBy_alloc w1 _ _)⟩
/-- Rows that were drawn. -/
def DrawnR (w : World) (e : Ending) (w' : World) : Prop := ∃ a c L, e = .returned (.slice a (L : List (List Int)).length c) ∧ GridC w' a L ∧ L.length ≤ 14 ∧ (∀ r ∈ L, r.length ≤ 15) ∧ Below w.heap.size w w'
/-- A surface was drawn; the cursor goes on. -/
def DrawnS (w : World) (g : Nat) (e : Ending) (w' : World) : Prop := ∃ x y z : Int, e = .returned (.agg #[.int .i64 x, .int .i64 y, .int .i64 z]) ∧ (-1 ≤ x ∧ x ≤ 21) ∧ (0 ≤ y ∧ y ≤ 4) ∧ (-1 ≤ z ∧ z ≤ 21) ∧ CurAt w' g ∧ w.grownBy w' (some g)
theorem SurfBox.out {w wr : World} {g M : Nat} {x y z : Int} (h : SurfBox w g M wr x y z) (hx : -1 ≤ x ∧ x ≤ 21) (hy : 0 ≤ y ∧ y ≤ 4) (hz : -1 ≤ z ∧ z ≤ 21) : DrawnS w g (.returned (.agg #[.int .i64 x, .int .i64 y, .int .i64 z])) (((wr.setCell ⟨w.heap.size, 0, none⟩ (.int .i64 x)).setCell ⟨w.heap.size, 1, none⟩ (.int .i64 y)).setCell ⟨w.heap.size, 2, none⟩ (.int .i64 z)) := by
  have hgl := h.gl
  have hb : Below w.heap.size wr (((wr.setCell ⟨w.heap.size, 0, none⟩ (.int .i64 x)).setCell ⟨w.heap.size, 1, none⟩ (.int .i64 y)).setCell ⟨w.heap.size, 2, none⟩ (.int .i64 z)) := below_put3 (Below.refl _ _) (Nat.le_refl _) _ _ _
  refine ⟨x, y, z, rfl, hx, hy, hz, ?_, ?_⟩
  · have hg1 := grown_set (w := wr) (i := 0) h.res.lt (.int .i64 x)
    have hr1 := h.res.put 0 (.int .i64 x)
    have hg2 := grown_set (i := 1) hr1.lt (.int .i64 y)
    have hr2 := hr1.put 1 (.int .i64 y)
    have hg3 := grown_set (i := 2) hr2.lt (.int .i64 z)
    have k : ∀ k, some w.heap.size = some k → g < k := fun k e => by injection e with e; omega
    exact ((h.cur.above hg1 k).above hg2 k).above hg3 k
  · exact ⟨hb.os.trans h.gro.os, hb.tape.trans h.gro.tape, hb.output.trans h.gro.output, Nat.le_trans h.gro.size hb.size, fun i hi hne => by rw [hb.block i hi]; exact h.gro.block i hi hne⟩
set_option maxRecDepth 10000 in
set_option maxHeartbeats 4000000 in
theorem l4Draw (g : Nat) (w : World) (hc : CurAt w g) :
    Calls Tryd.prog 31 #[.pointer (some ⟨g, 0, none⟩)] w (DrawnS w g) := by
  have hgl := hc.lt
  have hz1 : (w.alloc (.cells #[.int .i64 0, .int .i64 0, .int .i64 0] 25)).heap.size = w.heap.size + 1 := by simp
  have Hp := Lib.hid (l1PickInt g (w.heap.size + 1) 5 [0, 0, 1, 2, 3] ((w.alloc (.cells #[.int .i64 0, .int .i64 0, .int .i64 0] 25)).alloc (.cells #[.int .i64 0, .int .i64 0, .int .i64 1, .int .i64 2, .int .i64 3] 3)) ((hc.alloc _).alloc _) (Blk.new' hz1 3 #[.int .i64 0, .int .i64 0, .int .i64 1, .int .i64 2, .int .i64 3]) (by omega) (by simp) (by simp))
  clear hz1
  go_enter Tryd.func31, Tryd.ntmps31
  go_wp2_with fail
  refine Hp.out.mono ?_
  rintro e w1 ⟨⟨u, hu, rfl⟩, hc1, hg1⟩
  obtain ⟨z, hz, rfl⟩ := List.mem_map.1 hu
  have bz : -1 ≤ z ∧ z ≤ 21 := by (simp only [List.mem_cons, List.not_mem_nil, or_false] at hz); omega
  generalize hM : w1.heap.size = M at *
  have S1 := Lib.hid (SurfBox.begin (z := z) hgl hc1 hg1 hM)
  clear hu hz hc1 hg1 Hp hc
  go_wp2_with fail
  refine (l1Once g 2 _ S1.out.cur (by omega) (by omega)).mono ?_
  rintro e w2 ⟨⟨b, rfl⟩, hc2, hg2⟩
  have S2 := Lib.hid (S1.out.draw hc2 hg2)
  clear hc2 hg2 S1 hM
  cases b with
  | false =>
    go_wp2_with fail
    refine (l1Below g 5 _ S2.out.cur (by omega) (by omega)).mono ?_
    rintro e w3 ⟨⟨x3, rfl, x3l, x3h⟩, hc3, hg3⟩
    have S3 := Lib.hid (S2.out.draw hc3 hg3)
    clear hc3 hg3
    obtain ⟨_, _, _, _, _, _⟩ := S3.out.box.six
    have Q0 := Lib.hid (S3.out.set1 x3)
    go_wp2_with fail
    refine (l1Below g 20 _ Q0.out.cur (by omega) (by omega)).mono ?_
    rintro e w4 ⟨⟨x4, rfl, x4l, x4h⟩, hc4, hg4⟩
    have S4 := Lib.hid (Q0.out.draw hc4 hg4)
    clear hc4 hg4
    by_cases k0 : x4 = 0
    · subst k0
      skip
      go_wp2_with fail
      refine (l1PickInt g _ _ [-1, 20, 21, 1] _ (S4.out.alloc (.cells #[.int .i64 (-1), .int .i64 20, .int .i64 21, .int .i64 1] 3)).cur (Blk.new _ 3 #[.int .i64 (-1), .int .i64 20, .int .i64 21, .int .i64 1]) (by have := S4.out.gl; have := S4.out.gro.size; omega) (by simp) (by simp)).mono ?_
      rintro e w5 ⟨⟨u, hu, rfl⟩, hc5, hg5⟩
      obtain ⟨x5, hx5, rfl⟩ := List.mem_map.1 hu
      have bx5 : -1 ≤ x5 ∧ x5 ≤ 21 := by (simp only [List.mem_cons, List.not_mem_nil, or_false] at hx5); omega
      have S5 := Lib.hid ((S4.out.alloc (.cells #[.int .i64 (-1), .int .i64 20, .int .i64 21, .int .i64 1] 3)).draw hc5 hg5)
      clear hc5 hg5 hu hx5
      obtain ⟨_, _, _, _, _, _⟩ := S5.out.box.six
      have Q := S5.out.set0 x5
      obtain ⟨_, _, _, _, _, _⟩ := Q.box.six
      obtain ⟨_, _, _, _, _, _⟩ := Q.res.six
      have hne := Nat.ne_of_lt Q.lo
      go_wp2
      exact bodyPost_ret (results_cell_row rfl _ _ w.heap.size 25 #[.int .i64 x5, .int .i64 x3, .int .i64 z] (0, 0) _ rfl (Q.res.put3 (x := .int .i64 x5) (y := .int .i64 x3) (z := .int .i64 z)) Tryd.underlying25 rfl (by kernel_rfl)) rfl (Q.out bx5 ⟨by omega, by omega⟩ bz)
    · by_cases k1 : x4 = 1
      · subst k1
        skip
        go_wp2_with fail
        refine (l1PickInt g _ _ [-1, 20, 21] _ (S4.out.alloc (.cells #[.int .i64 (-1), .int .i64 20, .int .i64 21] 3)).cur (Blk.new _ 3 #[.int .i64 (-1), .int .i64 20, .int .i64 21]) (by have := S4.out.gl; have := S4.out.gro.size; omega) (by simp) (by simp)).mono ?_
        rintro e w6 ⟨⟨u, hu, rfl⟩, hc6, hg6⟩
        obtain ⟨x6, hx6, rfl⟩ := List.mem_map.1 hu
        have bx6 : -1 ≤ x6 ∧ x6 ≤ 21 := by (simp only [List.mem_cons, List.not_mem_nil, or_false] at hx6); omega
        have S6 := Lib.hid ((S4.out.alloc (.cells #[.int .i64 (-1), .int .i64 20, .int .i64 21] 3)).draw hc6 hg6)
        clear hc6 hg6 hu hx6
        obtain ⟨_, _, _, _, _, _⟩ := S6.out.box.six
        have Q := S6.out.set2 x6
        obtain ⟨_, _, _, _, _, _⟩ := Q.box.six
        obtain ⟨_, _, _, _, _, _⟩ := Q.res.six
        have hne := Nat.ne_of_lt Q.lo
        go_wp2
        exact bodyPost_ret (results_cell_row rfl _ _ w.heap.size 25 #[.int .i64 0, .int .i64 x3, .int .i64 x6] (0, 0) _ rfl (Q.res.put3 (x := .int .i64 0) (y := .int .i64 x3) (z := .int .i64 x6)) Tryd.underlying25 rfl (by kernel_rfl)) rfl (Q.out ⟨by omega, by omega⟩ ⟨by omega, by omega⟩ bx6)
      · have e0 : (x4 == 0) = false := beq_eq_false_iff_ne.2 k0
        have e1 : (x4 == 1) = false := beq_eq_false_iff_ne.2 k1
        clear k0 k1
        have Q := S4.out
        obtain ⟨_, _, _, _, _, _⟩ := Q.box.six
        obtain ⟨_, _, _, _, _, _⟩ := Q.res.six
        have hne := Nat.ne_of_lt Q.lo
        go_wp2
        exact bodyPost_ret (results_cell_row rfl _ _ w.heap.size 25 #[.int .i64 0, .int .i64 x3, .int .i64 z] (0, 0) _ rfl (Q.res.put3 (x := .int .i64 0) (y := .int .i64 x3) (z := .int .i64 z)) Tryd.underlying25 rfl (by kernel_rfl)) rfl (Q.out ⟨by omega, by omega⟩ ⟨by omega, by omega⟩ bz)
  | true =>
    go_wp2_with fail
    refine (l1Below g 4 _ S2.out.cur (by omega) (by omega)).mono ?_
    rintro e w7 ⟨⟨x7, rfl, x7l, x7h⟩, hc7, hg7⟩
    have S7 := Lib.hid (S2.out.draw hc7 hg7)
    clear hc7 hg7
    obtain ⟨_, _, _, _, _, _⟩ := S7.out.box.six
    have Q0 := Lib.hid (S7.out.set0 x7)
    go_wp2_with fail
    refine (l1Below g 20 _ Q0.out.cur (by omega) (by omega)).mono ?_
    rintro e w8 ⟨⟨x8, rfl, x8l, x8h⟩, hc8, hg8⟩
    have S8 := Lib.hid (Q0.out.draw hc8 hg8)
    clear hc8 hg8
    by_cases k0 : x8 = 0
    · subst k0
      skip
      go_wp2_with fail
      refine (l1PickInt g _ _ [-1, 20, 21, 1] _ (S8.out.alloc (.cells #[.int .i64 (-1), .int .i64 20, .int .i64 21, .int .i64 1] 3)).cur (Blk.new _ 3 #[.int .i64 (-1), .int .i64 20, .int .i64 21, .int .i64 1]) (by have := S8.out.gl; have := S8.out.gro.size; omega) (by simp) (by simp)).mono ?_
      rintro e w9 ⟨⟨u, hu, rfl⟩, hc9, hg9⟩
      obtain ⟨x9, hx9, rfl⟩ := List.mem_map.1 hu
      have bx9 : -1 ≤ x9 ∧ x9 ≤ 21 := by (simp only [List.mem_cons, List.not_mem_nil, or_false] at hx9); omega
      have S9 := Lib.hid ((S8.out.alloc (.cells #[.int .i64 (-1), .int .i64 20, .int .i64 21, .int .i64 1] 3)).draw hc9 hg9)
      clear hc9 hg9 hu hx9
      obtain ⟨_, _, _, _, _, _⟩ := S9.out.box.six
      have Q := S9.out.set0 x9
      obtain ⟨_, _, _, _, _, _⟩ := Q.box.six
      obtain ⟨_, _, _, _, _, _⟩ := Q.res.six
      have hne := Nat.ne_of_lt Q.lo
      go_wp2
      exact bodyPost_ret (results_cell_row rfl _ _ w.heap.size 25 #[.int .i64 x9, .int .i64 0, .int .i64 z] (0, 0) _ rfl (Q.res.put3 (x := .int .i64 x9) (y := .int .i64 0) (z := .int .i64 z)) Tryd.underlying25 rfl (by kernel_rfl)) rfl (Q.out bx9 ⟨by omega, by omega⟩ bz)
    · by_cases k1 : x8 = 1
      · subst k1
        skip
        go_wp2_with fail
        refine (l1PickInt g _ _ [-1, 20, 21] _ (S8.out.alloc (.cells #[.int .i64 (-1), .int .i64 20, .int .i64 21] 3)).cur (Blk.new _ 3 #[.int .i64 (-1), .int .i64 20, .int .i64 21]) (by have := S8.out.gl; have := S8.out.gro.size; omega) (by simp) (by simp)).mono ?_
        rintro e w10 ⟨⟨u, hu, rfl⟩, hc10, hg10⟩
        obtain ⟨x10, hx10, rfl⟩ := List.mem_map.1 hu
        have bx10 : -1 ≤ x10 ∧ x10 ≤ 21 := by (simp only [List.mem_cons, List.not_mem_nil, or_false] at hx10); omega
        have S10 := Lib.hid ((S8.out.alloc (.cells #[.int .i64 (-1), .int .i64 20, .int .i64 21] 3)).draw hc10 hg10)
        clear hc10 hg10 hu hx10
        obtain ⟨_, _, _, _, _, _⟩ := S10.out.box.six
        have Q := S10.out.set2 x10
        obtain ⟨_, _, _, _, _, _⟩ := Q.box.six
        obtain ⟨_, _, _, _, _, _⟩ := Q.res.six
        have hne := Nat.ne_of_lt Q.lo
        go_wp2
        exact bodyPost_ret (results_cell_row rfl _ _ w.heap.size 25 #[.int .i64 x7, .int .i64 0, .int .i64 x10] (0, 0) _ rfl (Q.res.put3 (x := .int .i64 x7) (y := .int .i64 0) (z := .int .i64 x10)) Tryd.underlying25 rfl (by kernel_rfl)) rfl (Q.out ⟨by omega, by omega⟩ ⟨by omega, by omega⟩ bx10)
      · have e0 : (x8 == 0) = false := beq_eq_false_iff_ne.2 k0
        have e1 : (x8 == 1) = false := beq_eq_false_iff_ne.2 k1
        clear k0 k1
        have Q := S8.out
        obtain ⟨_, _, _, _, _, _⟩ := Q.box.six
        obtain ⟨_, _, _, _, _, _⟩ := Q.res.six
        have hne := Nat.ne_of_lt Q.lo
        go_wp2
        exact bodyPost_ret (results_cell_row rfl _ _ w.heap.size 25 #[.int .i64 x7, .int .i64 0, .int .i64 z] (0, 0) _ rfl (Q.res.put3 (x := .int .i64 x7) (y := .int .i64 0) (z := .int .i64 z)) Tryd.underlying25 rfl (by kernel_rfl)) rfl (Q.out ⟨by omega, by omega⟩ ⟨by omega, by omega⟩ bz)
/-- A surface was drawn. -/
def NewS (w : World) (e : Ending) (w' : World) : Prop := ∃ x y z : Int, e = .returned (.agg #[.int .i64 x, .int .i64 y, .int .i64 z]) ∧ (-1 ≤ x ∧ x ≤ 21) ∧ (0 ≤ y ∧ y ≤ 4) ∧ (-1 ≤ z ∧ z ≤ 21) ∧ Below w.heap.size w w'
theorem results_cell_cell {P : Program} {fn : Func} {p q : Tmp} {ty : TypeId} (h : fn.results = #[.cell p ty, .cell q ty]) (tmps : Array Value) (w : World) (g g2 : Nat) (t : TypeId) (cs cs2 : Array Value) (fr : Nat × Nat) (d : TypeDesc)
    (hp : tmps.getD p undef = .pointer (some ⟨g, 0, none⟩)) (hg : w.heap[g]? = some (.cells cs t fr)) (hq : tmps.getD q undef = .pointer (some ⟨g2, 0, none⟩)) (hg2 : w.heap[g2]? = some (.cells cs2 t fr))
    (hu : P.underlying ty = some d) (hd : (match d with | .struct _ | .array _ _ => true | _ => false) = true) (hi : (P.info? ty).map (·.size) = some cs.size) (hi2 : (P.info? ty).map (·.size) = some cs2.size) :
    (results fn tmps).run P w = .ok (.tuple #[.agg cs, .agg cs2]) w := by
  have hp' : tmps[p]?.getD undef = .pointer (some ⟨g, 0, none⟩) := by simpa using hp
  have hq' : tmps[q]?.getD undef = .pointer (some ⟨g2, 0, none⟩) := by simpa using hq
  simp [results, h, hp', hq', asAddr, run_loadVar_row w g t ty cs fr d hg hu hd hi, run_loadVar_row w g2 t ty cs2 fr d hg2 hu hd hi2]

set_option maxRecDepth 10000 in
set_option maxHeartbeats 2000000 in
theorem drawStandardGluing (a : Option Addr) (c : Nat) (l : List Int) (w : World) (ha : RowAt w a (byteCells l)) (hb : ∀ x ∈ l, 0 ≤ x ∧ x ≤ 255) (hsz : l.length ≤ 1048576) :
    Calls Tryd.prog 5 #[.slice a l.length c] w (NewS w) := by
  have hl0 : Below w.heap.size w (w.alloc (.cells #[.int .i64 0, .int .i64 0, .int .i64 0] 25)) := (Below.refl w.heap.size w).alloc (Nat.le_refl _) _
  have hz1 : (w.alloc (.cells #[.int .i64 0, .int .i64 0, .int .i64 0] 25)).heap.size = w.heap.size + 1 := by simp
  have hN0 := Blk.new w 25 #[.int .i64 0, .int .i64 0, .int .i64 0]
  have Hn := Lib.hid (l1New a c l (w.alloc (.cells #[.int .i64 0, .int .i64 0, .int .i64 0] 25)) (ha.below hl0) hb hsz)
  have Hz1 := Lib.hid hz1; have HN0 := Lib.hid hN0; have Hl0 := Lib.hid hl0
  clear hz1 hN0 hl0
  go_enter Tryd.func5, Tryd.ntmps5
  go_wp2_with fail
  refine Hn.out.mono ?_
  rintro e w1 ⟨g, rfl, hgl, hc, hb1⟩
  have Hgl := Lib.hid (show w.heap.size < g from by have := Hz1.out; omega)
  have Hr1 := Lib.hid (HN0.out.below hb1 (by have := Hz1.out; omega))
  have Hb1 := Lib.hid hb1
  have HgL := Lib.hid hgl
  clear hb1 hgl
  go_wp2_with fail
  refine (l4Draw g w1 hc).mono ?_
  rintro e w2 ⟨x, y, z, rfl, hx, hy, hz, hc2, hg2⟩
  have Hr2 := Lib.hid (Hr1.out.grown hg2 (by have := Hgl.out; simp; omega))
  have Hbw := Lib.hid (Hl0.out.trans ((below_of_only Hb1.out hg2 HgL.out).mono (by have := Hz1.out; omega)))
  obtain ⟨_, _, _, _, _, _⟩ := Hr2.out.six
  clear hc2 hg2 hc
  go_wp2
  exact bodyPost_ret (results_cell_row rfl _ _ w.heap.size 25 #[.int .i64 x, .int .i64 y, .int .i64 z] (0, 0) _ rfl Hr2.out.put3 Tryd.underlying25 rfl (by kernel_rfl)) rfl ⟨x, y, z, rfl, hx, hy, hz, below_put3 Hbw.out (Nat.le_refl _) _ _ _⟩
/-- Two surfaces were drawn. -/
def NewSS (w : World) (e : Ending) (w' : World) : Prop := ∃ x y z p q r : Int, e = .returned (.tuple #[.agg #[.int .i64 x, .int .i64 y, .int .i64 z], .agg #[.int .i64 p, .int .i64 q, .int .i64 r]]) ∧ (-1 ≤ x ∧ x ≤ 21) ∧ (0 ≤ y ∧ y ≤ 4) ∧ (-1 ≤ z ∧ z ≤ 21) ∧ (-1 ≤ p ∧ p ≤ 21) ∧ (0 ≤ q ∧ q ≤ 4) ∧ (-1 ≤ r ∧ r ≤ 21) ∧ Below w.heap.size w w'
set_option maxRecDepth 10000 in
set_option maxHeartbeats 2000000 in
theorem drawSumSurface (a : Option Addr) (c : Nat) (l : List Int) (w : World) (ha : RowAt w a (byteCells l)) (hb : ∀ x ∈ l, 0 ≤ x ∧ x ≤ 255) (hsz : l.length ≤ 1048576) :
    Calls Tryd.prog 8 #[.slice a l.length c] w (NewSS w) := by
  have hl0 : Below w.heap.size w ((w.alloc (.cells #[.int .i64 0, .int .i64 0, .int .i64 0] 25)).alloc (.cells #[.int .i64 0, .int .i64 0, .int .i64 0] 25)) := ((Below.refl w.heap.size w).alloc (Nat.le_refl _) _).alloc (by simp) _
  have hz0 : (w.alloc (.cells #[.int .i64 0, .int .i64 0, .int .i64 0] 25)).heap.size = w.heap.size + 1 := by simp
  have hz1 : ((w.alloc (.cells #[.int .i64 0, .int .i64 0, .int .i64 0] 25)).alloc (.cells #[.int .i64 0, .int .i64 0, .int .i64 0] 25)).heap.size = w.heap.size + 2 := by simp
  have hN0 := (Blk.new w 25 #[.int .i64 0, .int .i64 0, .int .i64 0]).alloc (.cells #[.int .i64 0, .int .i64 0, .int .i64 0] 25)
  have hN1 := Blk.new' hz0 25 #[.int .i64 0, .int .i64 0, .int .i64 0]
  have Hn := Lib.hid (l1New a c l ((w.alloc (.cells #[.int .i64 0, .int .i64 0, .int .i64 0] 25)).alloc (.cells #[.int .i64 0, .int .i64 0, .int .i64 0] 25)) (ha.below hl0) hb hsz)
  have Hz1 := Lib.hid hz1; have HN0 := Lib.hid hN0; have HN1 := Lib.hid hN1; have Hl0 := Lib.hid hl0
  clear hz1 hN0 hl0 hN1 hz0
  go_enter Tryd.func8, Tryd.ntmps8
  go_wp2_with fail
  refine Hn.out.mono ?_
  rintro e w1 ⟨g, rfl, hgl, hc, hb1⟩
  have Hgl := Lib.hid (show w.heap.size + 1 < g from by have := Hz1.out; omega)
  have Hr1 := Lib.hid (HN0.out.below hb1 (by have := Hz1.out; omega))
  have Hs1 := Lib.hid (HN1.out.below hb1 (by have := Hz1.out; omega))
  have Hb1 := Lib.hid hb1
  have HgL := Lib.hid hgl
  clear hb1 hgl
  go_wp2_with fail
  refine (l4Draw g w1 hc).mono ?_
  rintro e w2 ⟨x, y, z, rfl, hx, hy, hz, hc2, hg2⟩
  have Hg2 := Lib.hid hg2
  clear hg2 hc
  go_wp2_with fail
  refine (l4Draw g w2 hc2).mono ?_
  rintro e w3 ⟨p, q, r, rfl, hp, hq, hr, hc3, hg3⟩
  have Hg3 := Lib.hid (Hg2.out.trans hg3)
  have Hr2 := Lib.hid (Hr1.out.grown Hg3.out (by have := Hgl.out; simp; omega))
  have Hs2 := Lib.hid (Hs1.out.grown Hg3.out (by have := Hgl.out; simp; omega))
  have Hbw := Lib.hid (Hl0.out.trans ((below_of_only Hb1.out Hg3.out HgL.out).mono (by have := Hz1.out; omega)))
  obtain ⟨_, _, _, _, _, _⟩ := Hr2.out.six
  obtain ⟨_, _, _, _, _, _⟩ := Hs2.out.six
  clear hc2 hg3 hc3
  go_wp2
  have Hr3 := Hr2.out.put3 (x := .int .i64 x) (y := .int .i64 y) (z := .int .i64 z)
  have Hs3 := Hs2.out.far3 (k := w.heap.size) (by omega) (.int .i64 x) (.int .i64 y) (.int .i64 z)
  have Hr4 := Hr3.far3 (k := w.heap.size + 1) (by omega) (.int .i64 p) (.int .i64 q) (.int .i64 r)
  have Hs4 := Hs3.put3 (x := .int .i64 p) (y := .int .i64 q) (z := .int .i64 r)
  exact bodyPost_ret (results_cell_cell rfl _ _ w.heap.size (w.heap.size + 1) 25 #[.int .i64 x, .int .i64 y, .int .i64 z] #[.int .i64 p, .int .i64 q, .int .i64 r] (0, 0) _ rfl Hr4 rfl Hs4 Tryd.underlying25 rfl (by kernel_rfl) (by kernel_rfl)) rfl ⟨x, y, z, p, q, r, rfl, hx, hy, hz, hp, hq, hr, below_put3 (below_put3 Hbw.out (Nat.le_refl _) _ _ _) (by omega) _ _ _⟩
set_option maxRecDepth 10000 in
set_option maxHeartbeats 2000000 in
theorem drawSurfaceOf (a : Option Addr) (c : Nat) (l : List Int) (w : World) (ha : RowAt w a (byteCells l)) (hb : ∀ x ∈ l, 0 ≤ x ∧ x ≤ 255) (hsz : l.length ≤ 1048576) :
    Calls Tryd.prog 11 #[.slice a l.length c] w (DrawnR w) := by
  go_enter Tryd.func11, Tryd.ntmps11
  go_wp2_with fail
  refine (l1New a c l w ha hb hsz).mono ?_
  rintro e w1 ⟨g, rfl, hgl, hc, hb1⟩
  have Hb1 := Lib.hid hb1
  go_wp2_with fail
  refine (l3Bent g w1 hc).mono ?_
  rintro e w2 ⟨ra, rc, L, rfl, hG, hn, hr, hc2, hg2⟩
  have Hfin := Lib.hid (show DrawnR w (.returned (.slice ra L.length rc)) w2 from ⟨ra, rc, L, rfl, hG, hn, hr, below_of_only Hb1.out hg2 hgl⟩)
  clear hG hn hr hc2 hg2 hc hb1
  go_wp2
  go_ret
  exact Hfin.out
end Go.Proofs.YtodgongemoabiaaDoor
