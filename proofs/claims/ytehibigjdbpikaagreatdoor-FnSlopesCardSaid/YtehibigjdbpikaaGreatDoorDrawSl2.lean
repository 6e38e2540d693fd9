/-
  The walks of the model's draws of two slopes, of a twist, of numbers and of a text.
-/
import Derived.Test.YtehibigjdbpikaaGreatDoorBase
import Derived.Test.YtehibigjdbpikaaGreatDoorSlice
import Derived.Test.YtehibigjdbpikaaGreatDoorIntRow
import Derived.Test.YtehibigjdbpikaaGreatDoorInts
import Derived.Test.YtehibigjdbpikaaGreatDoorDraw
import Derived.Test.YtehibigjdbpikaaGreatDoorFmt
import Derived.Test.YtehibigjdbpikaaGreatDoorNum
import Derived.Test.YtehibigjdbpikaaGreatDoorRead
import Derived.Test.YtehibigjdbpikaaGreatDoorParse
import Derived.Test.YtehibigjdbpikaaGreatDoorTurned
import Derived.Test.YtehibigjdbpikaaGreatDoorSl
import Derived.Test.YtehibigjdbpikaaGreatDoorSlK
import Derived.Test.YtehibigjdbpikaaGreatDoorSlB
import Derived.Test.YtehibigjdbpikaaGreatDoorSlS
import Derived.Test.YtehibigjdbpikaaGreatDoorSlTx
import Derived.Test.YtehibigjdbpikaaGreatDoorDrawSl
import Derived.Deep.QuietTactic
import Derived.Deep.RegionHeld3
import Derived.Deep.CutRange
import Derived.Deep.RegionWith
import Derived.BigQuiet
import Derived.StillTailTactics
import Derived.OwnWalk
namespace Go.Proofs.YtehibigjdbpikaaGreatDoor
open Go.RowKit

theorem results_cells2 {P : Program} {fn : Func} {p q : Tmp} {ty : TypeId} (h : fn.results = #[.cell p ty, .cell q ty]) (tmps : Array Value) (w : World) (g g' : Nat) (t t' : TypeId) (cs ds : Array Value) (fr fr' : Nat × Nat) (d : TypeDesc)
    (hp : tmps.getD p undef = .pointer (some ⟨g, 0, none⟩)) (hq : tmps.getD q undef = .pointer (some ⟨g', 0, none⟩)) (hg : w.heap[g]? = some (.cells cs t fr)) (hg' : w.heap[g']? = some (.cells ds t' fr'))
    (hu : P.underlying ty = some d) (hd : (match d with | .struct _ | .array _ _ => true | _ => false) = true) (hi : (P.info? ty).map (·.size) = some cs.size) (hi' : (P.info? ty).map (·.size) = some ds.size) :
    (results fn tmps).run P w = .ok (.tuple #[.agg cs, .agg ds]) w := by
  have hp' : tmps[p]?.getD undef = .pointer (some ⟨g, 0, none⟩) := by simpa using hp
  have hq' : tmps[q]?.getD undef = .pointer (some ⟨g', 0, none⟩) := by simpa using hq
  simp [results, h, hp', hq', asAddr, run_loadVar_row w g t ty cs fr d hg hu hd hi, run_loadVar_row w g' t' ty ds fr' d hg' hu hd hi']
theorem results_cells2t {P : Program} {fn : Func} {p q r : Tmp} {ty : TypeId} (h : fn.results = #[.cell p ty, .cell q ty, .tmp r]) (tmps : Array Value) (w : World) (g g' : Nat) (t t' : TypeId) (cs ds : Array Value) (fr fr' : Nat × Nat) (d : TypeDesc)
    (hp : tmps.getD p undef = .pointer (some ⟨g, 0, none⟩)) (hq : tmps.getD q undef = .pointer (some ⟨g', 0, none⟩)) (hg : w.heap[g]? = some (.cells cs t fr)) (hg' : w.heap[g']? = some (.cells ds t' fr'))
    (hu : P.underlying ty = some d) (hd : (match d with | .struct _ | .array _ _ => true | _ => false) = true) (hi : (P.info? ty).map (·.size) = some cs.size) (hi' : (P.info? ty).map (·.size) = some ds.size) :
    (results fn tmps).run P w = .ok (.tuple #[.agg cs, .agg ds, tmps.getD r undef]) w := by
  have hp' : tmps[p]?.getD undef = .pointer (some ⟨g, 0, none⟩) := by simpa using hp
  have hq' : tmps[q]?.getD undef = .pointer (some ⟨g', 0, none⟩) := by simpa using hq
  simp [results, h, hp', hq', asAddr, run_loadVar_row w g t ty cs fr d hg hu hd hi, run_loadVar_row w g' t' ty ds fr' d hg' hu hd hi']
namespace Ds
/-- Two slopes, or numbers that are none. -/
def Two (w : World) (e : Ending) (w' : World) : Prop := ∃ x y p q : Int, e = .returned (.tuple #[.agg #[.int .i64 x, .int .i64 y], .agg #[.int .i64 p, .int .i64 q]]) ∧ Below w.heap.size w w'
/-- What is kept while a second slope is drawn. -/
structure Env (w : World) (A g : Nat) (x y : Int) (W : World) : Prop where
  a : Blk W A 44 #[.int .i64 x, .int .i64 y]
  r0 : Blk W w.heap.size 44 #[.int .i64 0, .int .i64 0]
  r1 : Blk W (w.heap.size + 1) 44 #[.int .i64 0, .int .i64 0]
  cur : CurAt W g
  bel : Below w.heap.size w W
theorem Env.go {w W W1 : World} {A g : Nat} {x y : Int} (h : Env w A g x y W) (hb : Below W.heap.size W W1) : Env w A g x y W1 :=
  ⟨h.a.below hb h.a.lt, h.r0.below hb h.r0.lt, h.r1.below hb h.r1.lt, h.cur.below hb, h.bel.trans (hb.mono h.bel.size)⟩
theorem Env.step {w W W1 : World} {A g : Nat} {x y : Int} (h : Env w A g x y W) (hc : CurAt W1 g) (hg : W.grownBy W1 (some g)) (hA : A ≠ g) (hB : w.heap.size + 1 < g) : Env w A g x y W1 :=
  ⟨h.a.grown hg (by simpa using hA), h.r0.grown hg (by simp; omega), h.r1.grown hg (by simp; omega), hc, h.bel.grown hg h.bel.size (fun k hk => by cases hk; omega)⟩
theorem Env.four {w W : World} {A g : Nat} {x y : Int} (h : Env w A g x y W) : W.cell? ⟨A, 0, none⟩ = some (.int .i64 x) ∧ W.cell? ⟨A, 1, none⟩ = some (.int .i64 y) ∧ Env w A g x y W := ⟨h.a.cell 0, h.a.cell 1, h⟩
theorem env_go {w W W1 : World} {A g : Nat} {x y : Int} (h : W.cell? ⟨A, 0, none⟩ = some (.int .i64 x) ∧ W.cell? ⟨A, 1, none⟩ = some (.int .i64 y) ∧ Env w A g x y W) (hb : Below W.heap.size W W1) :
    W1.cell? ⟨A, 0, none⟩ = some (.int .i64 x) ∧ W1.cell? ⟨A, 1, none⟩ = some (.int .i64 y) ∧ Env w A g x y W1 := (h.2.2.go hb).four
theorem env_cur {w W : World} {A g : Nat} {x y : Int} (h : W.cell? ⟨A, 0, none⟩ = some (.int .i64 x) ∧ W.cell? ⟨A, 1, none⟩ = some (.int .i64 y) ∧ Env w A g x y W) : CurAt W g := h.2.2.cur
theorem env_step {w W W1 : World} {A g : Nat} {x y : Int} (h : W.cell? ⟨A, 0, none⟩ = some (.int .i64 x) ∧ W.cell? ⟨A, 1, none⟩ = some (.int .i64 y) ∧ Env w A g x y W) (hc : CurAt W1 g) (hg : W.grownBy W1 (some g)) (hA : A ≠ g) (hB : w.heap.size + 1 < g) :
    W1.cell? ⟨A, 0, none⟩ = some (.int .i64 x) ∧ W1.cell? ⟨A, 1, none⟩ = some (.int .i64 y) ∧ Env w A g x y W1 := (h.2.2.step hc hg hA hB).four
section
variable {w W W1 : World} {A g M : Nat} {x y : Int}
theorem env_go4 (h : W.cell? ⟨A, 0, none⟩ = some (.int .i64 x) ∧ W.cell? ⟨A, 1, none⟩ = some (.int .i64 y) ∧ Env w A g x y W ∧ M ≤ W.heap.size) (hb : Below W.heap.size W W1) :
    W1.cell? ⟨A, 0, none⟩ = some (.int .i64 x) ∧ W1.cell? ⟨A, 1, none⟩ = some (.int .i64 y) ∧ Env w A g x y W1 ∧ M ≤ W1.heap.size :=
  have k := h.2.2.1.go hb
  ⟨k.a.cell 0, k.a.cell 1, k, Nat.le_trans h.2.2.2 hb.size⟩
theorem env_alloc (h : W.cell? ⟨A, 0, none⟩ = some (.int .i64 x) ∧ W.cell? ⟨A, 1, none⟩ = some (.int .i64 y) ∧ Env w A g x y W ∧ M ≤ W.heap.size) (o : Obj) :
    (W.alloc o).cell? ⟨A, 0, none⟩ = some (.int .i64 x) ∧ (W.alloc o).cell? ⟨A, 1, none⟩ = some (.int .i64 y) ∧ Env w A g x y (W.alloc o) ∧ M ≤ (W.alloc o).heap.size := env_go4 h ((Below.refl _ _).alloc (Nat.le_refl _) _)
theorem env_drew (h : W.cell? ⟨A, 0, none⟩ = some (.int .i64 x) ∧ W.cell? ⟨A, 1, none⟩ = some (.int .i64 y) ∧ Env w A g x y W ∧ M ≤ W.heap.size) :
    W.drew.cell? ⟨A, 0, none⟩ = some (.int .i64 x) ∧ W.drew.cell? ⟨A, 1, none⟩ = some (.int .i64 y) ∧ Env w A g x y W.drew ∧ M ≤ W.drew.heap.size := env_go4 h (Below.drew (Below.refl _ _))
theorem env_drewN (h : W.cell? ⟨A, 0, none⟩ = some (.int .i64 x) ∧ W.cell? ⟨A, 1, none⟩ = some (.int .i64 y) ∧ Env w A g x y W ∧ M ≤ W.heap.size) (n : Nat) :
    (W.drewN n).cell? ⟨A, 0, none⟩ = some (.int .i64 x) ∧ (W.drewN n).cell? ⟨A, 1, none⟩ = some (.int .i64 y) ∧ Env w A g x y (W.drewN n) ∧ M ≤ (W.drewN n).heap.size := env_go4 h (below_drewN (Below.refl _ _) _)
theorem env_cur4 (h : W.cell? ⟨A, 0, none⟩ = some (.int .i64 x) ∧ W.cell? ⟨A, 1, none⟩ = some (.int .i64 y) ∧ Env w A g x y W ∧ M ≤ W.heap.size) : CurAt W g := h.2.2.1.cur
theorem env_step4 (h : W.cell? ⟨A, 0, none⟩ = some (.int .i64 x) ∧ W.cell? ⟨A, 1, none⟩ = some (.int .i64 y) ∧ Env w A g x y W ∧ M ≤ W.heap.size) (hc : CurAt W1 g) (hg : W.grownBy W1 (some g)) (hA : A ≠ g) (hB : w.heap.size + 1 < g) :
    W1.cell? ⟨A, 0, none⟩ = some (.int .i64 x) ∧ W1.cell? ⟨A, 1, none⟩ = some (.int .i64 y) ∧ Env w A g x y W1 ∧ M ≤ W1.heap.size :=
  have k := h.2.2.1.step hc hg hA hB
  ⟨k.a.cell 0, k.a.cell 1, k, Nat.le_trans h.2.2.2 hg.size⟩
theorem env_far {J : Nat} (h : Env w A g x y W) (h1 : w.heap.size + 1 < J) (h2 : A < J) (h3 : g < J) (u v : Value) : Env w A g x y ((W.setCell ⟨J, 0, none⟩ u).setCell ⟨J, 1, none⟩ v) := by
  have k1 : W.grownBy (W.setCell ⟨J, 0, none⟩ u) (some J) := only_setCell (World.grownBy.refl _ _) (Or.inl rfl) _
  have k2 : (W.setCell ⟨J, 0, none⟩ u).grownBy ((W.setCell ⟨J, 0, none⟩ u).setCell ⟨J, 1, none⟩ v) (some J) := only_setCell (World.grownBy.refl _ _) (Or.inl rfl) _
  exact ⟨h.a.far2 (by omega) _ _, h.r0.far2 (by omega) _ _, h.r1.far2 (by omega) _ _, h.cur.above (k1.trans k2) (fun k hk => by cases hk; exact h3), below_put2 h.bel (by omega) _ _⟩
theorem env_put {J : Nat} {u v : Value} (h : W.cell? ⟨A, 0, none⟩ = some (.int .i64 x) ∧ W.cell? ⟨A, 1, none⟩ = some (.int .i64 y) ∧ Env w A g x y W ∧ M ≤ W.heap.size) (hM : w.heap.size + 1 < M ∧ A < M ∧ g < M) (hJ : M ≤ J) :
    ((W.setCell ⟨J, 0, none⟩ u).setCell ⟨J, 1, none⟩ v).cell? ⟨A, 0, none⟩ = some (.int .i64 x) ∧ ((W.setCell ⟨J, 0, none⟩ u).setCell ⟨J, 1, none⟩ v).cell? ⟨A, 1, none⟩ = some (.int .i64 y) ∧ Env w A g x y ((W.setCell ⟨J, 0, none⟩ u).setCell ⟨J, 1, none⟩ v) ∧ M ≤ ((W.setCell ⟨J, 0, none⟩ u).setCell ⟨J, 1, none⟩ v).heap.size :=
  have k := env_far h.2.2.1 (by omega) (by omega) (by omega) u v
  ⟨k.a.cell 0, k.a.cell 1, k, by have := h.2.2.2; simpa [World.setCell] using this⟩
theorem cur_cell (hg : W.grownBy W1 (some g)) : ∀ b i, b < W.heap.size → b ≠ g → W1.cell? ⟨b, i, none⟩ = W.cell? ⟨b, i, none⟩ := fun b i hb hn => by
  have := hg.block b hb (by simpa using hn)
  unfold World.cell?
  simp only [this]
theorem cur_lt (hg : W.grownBy W1 (some g)) : ∀ K, K < W.heap.size → K < W1.heap.size := fun K h => Nat.lt_of_lt_of_le h hg.size
theorem new_cur {N : Nat} {u v : Value} (hg : (W.alloc (.cells #[u, v] 44)).drew.grownBy W1 (some g)) (hN : W.heap.size = N) (hn : N ≠ g) : Blk W1 N 44 #[u, v] :=
  (Blk.at hN _ _).drew.grown hg (by simpa using hn)
theorem keep_cell (hb : Below W.heap.size W W1) : ∀ b i, b < W.heap.size → W1.cell? ⟨b, i, none⟩ = W.cell? ⟨b, i, none⟩ := fun b i h => hb.cell (p := ⟨b, i, none⟩) h
theorem keep_frozen (hb : Below W.heap.size W W1) : ∀ b i, b < W.heap.size → W1.frozen? ⟨b, i, none⟩ = W.frozen? ⟨b, i, none⟩ := fun b i h => hb.frozen (p := ⟨b, i, none⟩) h
theorem keep_lt (hb : Below W.heap.size W W1) : ∀ K, K < W.heap.size → K < W1.heap.size := fun K h => Nat.lt_of_lt_of_le h hb.size
end
/-- What the second slope's statement leaves. -/
def Box (w : World) (A g : Nat) (x y : Int) (s : Int × Int) (W : World) (J : Nat) : Prop := Env w A g x y W ∧ Blk W J 44 #[.int .i64 s.1, .int .i64 s.2] ∧ w.heap.size + 1 < J ∧ J ≠ A ∧ J ≠ g
theorem box_alloc {w W : World} {A g : Nat} {x y : Int} {s : Int × Int} (h : Env w A g x y W) : Box w A g x y s (W.alloc (.cells #[.int .i64 s.1, .int .i64 s.2] 44)) W.heap.size :=
  ⟨h.go ((Below.refl _ _).alloc (Nat.le_refl _) _), Blk.new W _ _, by have := h.r1.lt; omega, by have := h.a.lt; omega, by have := h.cur.lt; omega⟩
theorem box_put {w W : World} {A g J : Nat} {x y : Int} {s : Int × Int} {a b : Value} (h : Env w A g x y W) (hJ : Blk W J 44 #[a, b]) (h1 : w.heap.size + 1 < J) (h2 : J ≠ A) (h3 : g < J) :
    Box w A g x y s ((W.setCell ⟨J, 0, none⟩ (.int .i64 s.1)).setCell ⟨J, 1, none⟩ (.int .i64 s.2)) J := by
  have k1 : W.grownBy (W.setCell ⟨J, 0, none⟩ (.int .i64 s.1)) (some J) := only_setCell (World.grownBy.refl _ _) (Or.inl rfl) _
  have k2 : (W.setCell ⟨J, 0, none⟩ (.int .i64 s.1)).grownBy ((W.setCell ⟨J, 0, none⟩ (.int .i64 s.1)).setCell ⟨J, 1, none⟩ (.int .i64 s.2)) (some J) := only_setCell (World.grownBy.refl _ _) (Or.inl rfl) _
  exact ⟨⟨h.a.far2 (Ne.symm h2) _ _, h.r0.far2 (by omega) _ _, h.r1.far2 (by omega) _ _, h.cur.above (k1.trans k2) (fun k hk => by cases hk; exact h3), below_put2 h.bel (by omega) _ _⟩, hJ.put2, h1, h2, by omega⟩
end Ds
set_option maxRecDepth 10000 in
set_option maxHeartbeats 4000000 in
theorem l12Two (a : Option Addr) (c : Nat) (l : List Int) (w : World) (ha : RowAt w a (byteCells l)) (hb : ∀ x ∈ l, 0 ≤ x ∧ x ≤ 255) (hsz : l.length ≤ 1048576) :
    Calls Tryz.prog 91 #[.slice a l.length c] w (Ds.Two w) := by
  obtain ⟨hA0, hB0, hl0⟩ := two_box w 0 0 0 0
  have hN := l1New a c l _ (ha.below hl0) hb hsz
  have HN := Lib.hid hN; have HA0 := Lib.hid hA0; have HB0 := Lib.hid hB0; have Hl0 := Lib.hid hl0
  clear hN hA0 hB0 hl0 ha hb
  go_enter Tryz.func91, Tryz.ntmps91
  go_wp2_with fail
  refine HN.out.mono ?_
  rintro e w1 ⟨g, rfl, hg1, hc1, hb1⟩
  have hgB : w.heap.size + 1 < g := by simp at hg1; omega
  have HA1 := Lib.hid (HA0.out.below hb1 HA0.out.lt)
  have HB1 := Lib.hid (HB0.out.below hb1 HB0.out.lt)
  have Hl1 := Lib.hid (Hl0.out.trans (hb1.mono Hl0.out.size))
  clear hb1 hg1
  go_wp2_with fail
  refine (l12Draw g _ hc1).mono ?_
  rintro e w2 ⟨x, y, rfl, hfew, hc2, hg2⟩
  obtain ⟨hx, hy⟩ := hfew
  have hAg : w2.heap.size ≠ g := by have := hc1.lt; have := hg2.size; omega
  have hEnv : Ds.Env w w2.heap.size g x y (w2.alloc (.cells #[.int .i64 x, .int .i64 y] 44)) :=
    ⟨Blk.new w2 _ _, (HA1.out.grown hg2 (by simp; omega)).alloc _, (HB1.out.grown hg2 (by simp; omega)).alloc _, hc2.alloc _, (Hl1.out.grown hg2 Hl1.out.size (fun k hk => by cases hk; omega)).alloc (by have := Hl1.out.size; have := hg2.size; omega) _⟩
  obtain ⟨A, hA⟩ : ∃ A, w2.heap.size = A := ⟨_, rfl⟩
  rw [hA] at hEnv hAg
  have HEnv := Lib.hid hEnv
  have HsA := Lib.hid (show w.heap.size + 1 < A ∧ g < A from ⟨by have := HB1.out.lt; have := hg2.size; omega, by have := hc1.lt; have := hg2.size; omega⟩)
  clear hc2 hg2 hc1 hEnv
  have hcE := HEnv.out.cur
  go_wp2_with fail
  refine (l1Once g 2 _ hcE (by omega) (by omega)).mono ?_
  rintro e w3 ⟨⟨b, rfl⟩, hc3, hg3⟩
  have hE3 := HEnv.out.step hc3 hg3 hAg hgB
  obtain ⟨_, _, _, _⟩ := hE3.a.four
  obtain ⟨_, _, _, _⟩ := hE3.r0.four
  obtain ⟨_, _, _, _⟩ := hE3.r1.four
  have HE3 := Lib.hid hE3
  have HA := Lib.hid hA
  clear hc3 hg3 hcE hE3 HEnv
  have n1 : w.heap.size ≠ A := by have := HsA.out; omega
  have n2 : w.heap.size + 1 ≠ A := by have := HsA.out; omega
  have n3 : w.heap.size ≠ g := by omega
  have n4 : w.heap.size + 1 ≠ g := by omega
  cases b with
  | false =>
    go_upto_region 10 with fail
    have HEd := Lib.hid (HE3.out.go (W1 := w3.drew) (Below.drew (Below.refl _ _)))
    go_region_with (go_at_call 98; refine (l12Draw g _ (show CurAt _ g from HEd.out.cur)).mono ?_; rintro e w5 ⟨p, q, rfl, hf5, hc5, hg5⟩; have hE5 := HEd.out.step hc5 hg5 hAg hgB; obtain ⟨_, _, _, _⟩ := hE5.a.four; obtain ⟨_, _, _, _⟩ := hE5.r0.four; obtain ⟨_, _, _, _⟩ := hE5.r1.four; have HE5 := Lib.hid hE5; clear hc5 hg5 hE5 hf5)
    all_goals
      go_wp2
      exact bodyPost_ret (results_cells2 rfl _ _ w.heap.size (w.heap.size + 1) 44 44 #[.int .i64 x, .int .i64 y] #[.int .i64 p, .int .i64 q] (0, 0) (0, 0) _ rfl rfl (HE5.out.r0.put2.far2 (by omega) _ _) (HE5.out.r1.far2 (by omega) _ _).put2 Tryz.underlying44 rfl (by kernel_rfl) (by kernel_rfl)) rfl ⟨x, y, p, q, rfl, below_put2 (below_put2 HE5.out.bel (Nat.le_refl _) _ _) (Nat.le_succ _) _ _⟩
  | true =>
    generalize hM : w3.heap.size = M at *
    have HM := Lib.hid hM
    have hgM : w.heap.size + 1 < M ∧ A < M ∧ g < M := by rw [← hM]; exact ⟨HE3.out.r1.lt, HE3.out.a.lt, HE3.out.cur.lt⟩
    have hS0 : w3.cell? ⟨A, 0, none⟩ = some (.int .i64 x) ∧ w3.cell? ⟨A, 1, none⟩ = some (.int .i64 y) ∧ Ds.Env w A g x y w3 ∧ M ≤ w3.heap.size := ⟨HE3.out.a.cell 0, HE3.out.a.cell 1, HE3.out, by omega⟩
    have hz0 : M ≤ M := Nat.le_refl _
    go_upto_region 4 with fail
    go_cut [6, 7] from 16 to 24 (fun s6 s7 wx => ∃ (J : Nat) (s : Int × Int) (bb : Bool), s6 = .pointer (some ⟨J, 0, none⟩) ∧ s7 = .bool bb ∧ Ds.Box w A g x y s wx J)
    case first =>
      go_region_held3 (fun w' => w'.cell? ⟨A, 0, none⟩ = some (.int .i64 x) ∧ w'.cell? ⟨A, 1, none⟩ = some (.int .i64 y) ∧ Ds.Env w A g x y w' ∧ M ≤ w'.heap.size) (first | (with_reducible assumption) | (with_reducible exact Ds.env_alloc (by assumption) _) | (with_reducible exact Ds.env_put (by assumption) hgM (by first | exact hz4 | exact hz3 | exact hz0)) | (with_reducible exact Ds.env_drew hS0) | (with_reducible exact Ds.env_drew (Ds.env_alloc hS0 _)) | (with_reducible exact Ds.env_drewN (Ds.env_alloc hS0 _) _) | (with_reducible exact Ds.env_drewN hS0 _))
        (first
        | (go_at_call 72; refine (l1Below g 5 _ (Ds.env_cur4 (x := x) (y := y) (by assumption)) (by omega) (by omega)).mono ?_; rintro e w4 ⟨⟨z, rfl, hz0', hz1'⟩, hc4, hg4⟩; have hS4 := Ds.env_step4 (by assumption) hc4 hg4 hAg hgB; have hz3 := hS4.2.2.2; have ez : IntKind.i64.wrap (z - 2) = z - 2 := wrap_small (by omega) (by omega); have hk4 := Ds.cur_cell hg4; have hl4 := Ds.cur_lt hg4; have hng : M ≠ g := (by omega); (try (have hZ4 := Ds.new_cur (N := M) hg4 (by first | exact HM.out | (simp; exact HM.out)) hng; obtain ⟨_, _, _, _⟩ := hZ4.four)); have Hg4 := Lib.hid hg4; clear hg4 hc4)
        | (go_at_call 48; refine (spec_TwistSlope x y 0 1 (z - 2) _).mono ?_; rintro e w5 ⟨rfl, hb5⟩; have hS5 := Ds.env_go4 (by assumption) hb5; have hz4 := hS5.2.2.2; have hk5 := Ds.keep_cell hb5; have hf5 := Ds.keep_frozen hb5; have hl5 := Ds.keep_lt hb5; (try (have hZ5 := hZ4.below hb5 hZ4.lt; obtain ⟨_, _, _, _⟩ := hZ5.four)); have Hb5 := Lib.hid hb5; clear hb5))
      all_goals
        go_wp2_with fail
        go_meet
        first
        | exact ⟨_, Sl.twist x y 0 1 (z - 2), _, rfl, rfl, Ds.box_alloc hS5.2.2.1⟩
        | exact ⟨_, Sl.twist x y 0 1 (z - 2), _, rfl, rfl, Ds.box_put hS5.2.2.1 hZ5 (by omega) (by omega) (by omega)⟩
        | exact ⟨_, Sl.twist x y 0 1 (z - 2), _, rfl, rfl, Ds.box_put hS5.2.2.1 ((Blk.new w4 44 #[.int .i64 0, .int .i64 0]).below Hb5.out (by simp)) (by omega) (by omega) (by omega)⟩
    case rest =>
    obtain ⟨J, s, bb, rfl, rfl, hBox⟩ := hcut
    obtain ⟨hE6, hJ6, hJ1, hJ2, hJ3⟩ := hBox
    have HE6 := Lib.hid hE6; have HJ6 := Lib.hid hJ6
    obtain ⟨_, _, _, _⟩ := hE6.a.four
    obtain ⟨_, _, _, _⟩ := hE6.r0.four
    obtain ⟨_, _, _, _⟩ := hE6.r1.four
    obtain ⟨_, _, _, _⟩ := hJ6.four
    clear hE6 hJ6
    go_upto_region 5 with fail
    go_cut [29] from 25 to 29 (fun s29 wx => ∃ b2 : Bool, s29 = .bool b2 ∧ Ds.Env w A g x y wx ∧ Blk wx J 44 #[.int .i64 s.1, .int .i64 s.2])
    case first =>
      cases bb with
      | false =>
        go_wp2_with fail
        go_meet
        exact ⟨false, rfl, HE6.out, HJ6.out⟩
      | true =>
        go_wp2_with fail
        refine (l1Once g 2 _ HE6.out.cur (by omega) (by omega)).mono ?_
        rintro e w7 ⟨⟨b2, rfl⟩, hc7, hg7⟩
        have hE7 := Lib.hid (HE6.out.step hc7 hg7 hAg hgB)
        have hJ7 := Lib.hid (HJ6.out.grown hg7 (by simpa using hJ3))
        go_wp2_with fail
        go_meet
        exact ⟨b2, rfl, hE7.out, hJ7.out⟩
    case rest =>
    obtain ⟨b2, rfl, hE7, hJ7⟩ := hcut
    have HE7 := Lib.hid hE7; have HJ7 := Lib.hid hJ7
    obtain ⟨_, _, _, _⟩ := hE7.a.four
    obtain ⟨_, _, _, _⟩ := hE7.r0.four
    obtain ⟨_, _, _, _⟩ := hE7.r1.four
    obtain ⟨_, _, _, _⟩ := hJ7.four
    clear hE7 hJ7
    cases b2 with
    | true =>
      have HE7d := Lib.hid (HE7.out.go (W1 := wc.drew) (Below.drew (Below.refl _ _)))
      go_upto_region 6 with fail
      go_region
      all_goals
        go_wp2
        first
        | exact bodyPost_ret (results_cells2 rfl _ _ w.heap.size (w.heap.size + 1) 44 44 #[.int .i64 x, .int .i64 y] #[.int .i64 s.1, .int .i64 s.2] (0, 0) (0, 0) _ rfl rfl (HE7.out.r0.put2.far2 (by omega) _ _) (HE7.out.r1.far2 (by omega) _ _).put2 Tryz.underlying44 rfl (by kernel_rfl) (by kernel_rfl)) rfl ⟨x, y, s.1, s.2, rfl, below_put2 (below_put2 HE7.out.bel (Nat.le_refl _) _ _) (Nat.le_succ _) _ _⟩
        | exact bodyPost_ret (results_cells2 rfl _ _ w.heap.size (w.heap.size + 1) 44 44 #[.int .i64 x, .int .i64 y] #[.int .i64 s.1, .int .i64 s.2] (0, 0) (0, 0) _ rfl rfl (HE7d.out.r0.put2.far2 (by omega) _ _) (HE7d.out.r1.far2 (by omega) _ _).put2 Tryz.underlying44 rfl (by kernel_rfl) (by kernel_rfl)) rfl ⟨x, y, s.1, s.2, rfl, below_put2 (below_put2 HE7d.out.bel (Nat.le_refl _) _ _) (Nat.le_succ _) _ _⟩
    | false =>
      have ey : IntKind.i64.wrap (y + 1) = y + 1 := wrap_small (by omega) (by omega)
      go_wp2_with fail
      refine (spec_SlopeOf x (y + 1) _).mono ?_
      generalize Sl.of x (y + 1) = s2
      generalize decide (Sl.OfOk x (y + 1)) = b3
      rintro e w8 ⟨rfl, hb8⟩
      have hE8 := (HE7.out.go hb8).go ((Below.refl _ _).alloc (Nat.le_refl _) (.cells #[.int .i64 s2.1, .int .i64 s2.2] 44))
      obtain ⟨_, _, _, _⟩ := hE8.a.four
      obtain ⟨_, _, _, _⟩ := hE8.r0.four
      obtain ⟨_, _, _, _⟩ := hE8.r1.four
      have HE8 := Lib.hid hE8
      have h8a : A ≠ w8.heap.size := by have := (HE7.out.go hb8).a.lt; omega
      have h8b : w.heap.size ≠ w8.heap.size := by have := (HE7.out.go hb8).r0.lt; omega
      have h8c : w.heap.size + 1 ≠ w8.heap.size := by have := (HE7.out.go hb8).r1.lt; omega
      clear hE8 hb8
      cases b3 with
      | true =>
        have HE8d := Lib.hid (HE8.out.go (W1 := (w8.alloc (.cells #[.int .i64 s2.1, .int .i64 s2.2] 44)).drew) (Below.drew (Below.refl _ _)))
        go_upto_region 9 with fail
        go_region
        all_goals
          go_wp2
          first
          | exact bodyPost_ret (results_cells2 rfl _ _ w.heap.size (w.heap.size + 1) 44 44 #[.int .i64 x, .int .i64 y] #[.int .i64 s2.1, .int .i64 s2.2] (0, 0) (0, 0) _ rfl rfl (HE8.out.r0.put2.far2 (by omega) _ _) (HE8.out.r1.far2 (by omega) _ _).put2 Tryz.underlying44 rfl (by kernel_rfl) (by kernel_rfl)) rfl ⟨x, y, s2.1, s2.2, rfl, below_put2 (below_put2 HE8.out.bel (Nat.le_refl _) _ _) (Nat.le_succ _) _ _⟩
          | exact bodyPost_ret (results_cells2 rfl _ _ w.heap.size (w.heap.size + 1) 44 44 #[.int .i64 x, .int .i64 y] #[.int .i64 s2.1, .int .i64 s2.2] (0, 0) (0, 0) _ rfl rfl (HE8d.out.r0.put2.far2 (by omega) _ _) (HE8d.out.r1.far2 (by omega) _ _).put2 Tryz.underlying44 rfl (by kernel_rfl) (by kernel_rfl)) rfl ⟨x, y, s2.1, s2.2, rfl, below_put2 (below_put2 HE8d.out.bel (Nat.le_refl _) _ _) (Nat.le_succ _) _ _⟩
      | false =>
        go_upto_region 10 with fail
        have HEd := Lib.hid (HE8.out.go (W1 := (w8.alloc (.cells #[.int .i64 s2.1, .int .i64 s2.2] 44)).drew) (Below.drew (Below.refl _ _)))
        go_region_with (go_at_call 98; refine (l12Draw g _ (show CurAt _ g from HEd.out.cur)).mono ?_; rintro e w5 ⟨p, q, rfl, hf5, hc5, hg5⟩; have hE5 := HEd.out.step hc5 hg5 hAg hgB; obtain ⟨_, _, _, _⟩ := hE5.a.four; obtain ⟨_, _, _, _⟩ := hE5.r0.four; obtain ⟨_, _, _, _⟩ := hE5.r1.four; have HE5 := Lib.hid hE5; clear hc5 hg5 hE5 hf5)
        all_goals
          go_wp2
          exact bodyPost_ret (results_cells2 rfl _ _ w.heap.size (w.heap.size + 1) 44 44 #[.int .i64 x, .int .i64 y] #[.int .i64 p, .int .i64 q] (0, 0) (0, 0) _ rfl rfl (HE5.out.r0.put2.far2 (by omega) _ _) (HE5.out.r1.far2 (by omega) _ _).put2 Tryz.underlying44 rfl (by kernel_rfl) (by kernel_rfl)) rfl ⟨x, y, p, q, rfl, below_put2 (below_put2 HE5.out.bel (Nat.le_refl _) _ _) (Nat.le_succ _) _ _⟩
end Go.Proofs.YtehibigjdbpikaaGreatDoor
