/-
  At every argument the program's SumSurface returns what the model returns, writes into no argument, and its answer owns its memory.
-/
import Derived.Test.YtmopgapeibdpoaaBase
import Derived.Test.YtmopgapeibdpoaaLow
import Derived.Test.YtmopgapeibdpoaaSlice
import Derived.Test.YtmopgapeibdpoaaIntRow
import Derived.Test.YtmopgapeibdpoaaInts
import Derived.Test.YtmopgapeibdpoaaOwn
import Derived.Test.YtmopgapeibdpoaaSurf
import Derived.Test.YtmopgapeibdpoaaSurfI
import Derived.Test.YtmopgapeibdpoaaSurfSum
import Derived.Test.YtmopgapeibdpoaaSurfWith
import Derived.Test.YtmopgapeibdpoaaReadSurf
import Derived.Deep.DeepWitnessRowRef
import Derived.OpenShut
import Derived.Deep.DeepHandedRow
import Derived.LaidMore
import Derived.Deep.RegionHeld3
import Derived.Deep.RegionWith
import Derived.Deep.CutRange
namespace Go.Proofs.Ytmopgapeibdpoaa.fnExactSumSurface
open Go.ChangeShapes Go.WideShapes Go.ChangeAt Go.RowKit Go.Sort
open Go.ChangeMaps (open_string)

/-- Two blocks that are kept, and whatever is kept beside them. -/
theorem pair_go {P : World → Prop} {N : Nat} {x y z p q r : Int} {W W1 : World} (hP : ∀ W W1, P W → Below W.heap.size W W1 → P W1)
    (h : W.cell? ⟨N, 0, none⟩ = some (.int .i64 x) ∧ W.cell? ⟨N, 1, none⟩ = some (.int .i64 y) ∧ W.cell? ⟨N, 2, none⟩ = some (.int .i64 z) ∧ W.cell? ⟨N + 1, 0, none⟩ = some (.int .i64 p) ∧ W.cell? ⟨N + 1, 1, none⟩ = some (.int .i64 q) ∧ W.cell? ⟨N + 1, 2, none⟩ = some (.int .i64 r) ∧ Blk W N 23 #[.int .i64 x, .int .i64 y, .int .i64 z] ∧ Blk W (N + 1) 23 #[.int .i64 p, .int .i64 q, .int .i64 r] ∧ P W) (hb : Below W.heap.size W W1) :
    W1.cell? ⟨N, 0, none⟩ = some (.int .i64 x) ∧ W1.cell? ⟨N, 1, none⟩ = some (.int .i64 y) ∧ W1.cell? ⟨N, 2, none⟩ = some (.int .i64 z) ∧ W1.cell? ⟨N + 1, 0, none⟩ = some (.int .i64 p) ∧ W1.cell? ⟨N + 1, 1, none⟩ = some (.int .i64 q) ∧ W1.cell? ⟨N + 1, 2, none⟩ = some (.int .i64 r) ∧ Blk W1 N 23 #[.int .i64 x, .int .i64 y, .int .i64 z] ∧ Blk W1 (N + 1) 23 #[.int .i64 p, .int .i64 q, .int .i64 r] ∧ P W1 := by
  obtain ⟨_, _, _, _, _, _, hA, hB, hR⟩ := h
  have hA' := hA.below hb hA.lt
  have hB' := hB.below hb hB.lt
  exact ⟨hA'.cell 0, hA'.cell 1, hA'.cell 2, hB'.cell 0, hB'.cell 1, hB'.cell 2, hA', hB', hP _ _ hR hb⟩
theorem pair_put {P : World → Prop} {N M g : Nat} {x y z p q r : Int} {W : World} {a b c : Value} (hP : ∀ W g a b c, P W → M ≤ g → P (((W.setCell ⟨g, 0, none⟩ a).setCell ⟨g, 1, none⟩ b).setCell ⟨g, 2, none⟩ c)) (hM : N + 2 ≤ M)
    (h : W.cell? ⟨N, 0, none⟩ = some (.int .i64 x) ∧ W.cell? ⟨N, 1, none⟩ = some (.int .i64 y) ∧ W.cell? ⟨N, 2, none⟩ = some (.int .i64 z) ∧ W.cell? ⟨N + 1, 0, none⟩ = some (.int .i64 p) ∧ W.cell? ⟨N + 1, 1, none⟩ = some (.int .i64 q) ∧ W.cell? ⟨N + 1, 2, none⟩ = some (.int .i64 r) ∧ Blk W N 23 #[.int .i64 x, .int .i64 y, .int .i64 z] ∧ Blk W (N + 1) 23 #[.int .i64 p, .int .i64 q, .int .i64 r] ∧ P W) (hg : M ≤ g) :
    (((W.setCell ⟨g, 0, none⟩ a).setCell ⟨g, 1, none⟩ b).setCell ⟨g, 2, none⟩ c).cell? ⟨N, 0, none⟩ = some (.int .i64 x) ∧ (((W.setCell ⟨g, 0, none⟩ a).setCell ⟨g, 1, none⟩ b).setCell ⟨g, 2, none⟩ c).cell? ⟨N, 1, none⟩ = some (.int .i64 y) ∧ (((W.setCell ⟨g, 0, none⟩ a).setCell ⟨g, 1, none⟩ b).setCell ⟨g, 2, none⟩ c).cell? ⟨N, 2, none⟩ = some (.int .i64 z) ∧ (((W.setCell ⟨g, 0, none⟩ a).setCell ⟨g, 1, none⟩ b).setCell ⟨g, 2, none⟩ c).cell? ⟨N + 1, 0, none⟩ = some (.int .i64 p) ∧ (((W.setCell ⟨g, 0, none⟩ a).setCell ⟨g, 1, none⟩ b).setCell ⟨g, 2, none⟩ c).cell? ⟨N + 1, 1, none⟩ = some (.int .i64 q) ∧ (((W.setCell ⟨g, 0, none⟩ a).setCell ⟨g, 1, none⟩ b).setCell ⟨g, 2, none⟩ c).cell? ⟨N + 1, 2, none⟩ = some (.int .i64 r) ∧ Blk (((W.setCell ⟨g, 0, none⟩ a).setCell ⟨g, 1, none⟩ b).setCell ⟨g, 2, none⟩ c) N 23 #[.int .i64 x, .int .i64 y, .int .i64 z] ∧ Blk (((W.setCell ⟨g, 0, none⟩ a).setCell ⟨g, 1, none⟩ b).setCell ⟨g, 2, none⟩ c) (N + 1) 23 #[.int .i64 p, .int .i64 q, .int .i64 r] ∧ P (((W.setCell ⟨g, 0, none⟩ a).setCell ⟨g, 1, none⟩ b).setCell ⟨g, 2, none⟩ c) := by
  obtain ⟨_, _, _, _, _, _, hA, hB, hR⟩ := h
  have hA' := hA.far3 (k := g) (by omega) a b c
  have hB' := hB.far3 (k := g) (by omega) a b c
  exact ⟨hA'.cell 0, hA'.cell 1, hA'.cell 2, hB'.cell 0, hB'.cell 1, hB'.cell 2, hA', hB', hP _ _ _ _ _ hR hg⟩
theorem keep_cell {W w1 : World} (hb : Below W.heap.size W w1) : ∀ g i, g < W.heap.size → w1.cell? ⟨g, i, none⟩ = W.cell? ⟨g, i, none⟩ := fun g i h => hb.cell (p := ⟨g, i, none⟩) h
theorem keep_frozen {W w1 : World} (hb : Below W.heap.size W w1) : ∀ g i, g < W.heap.size → w1.frozen? ⟨g, i, none⟩ = W.frozen? ⟨g, i, none⟩ := fun g i h => hb.frozen (p := ⟨g, i, none⟩) h
theorem keep_lt {W w1 : World} (hb : Below W.heap.size W w1) : ∀ K, K < W.heap.size → K < w1.heap.size := fun K h => Nat.lt_of_lt_of_le h hb.size
theorem put_size (W : World) (g : Nat) (a b c : Value) : (((W.setCell ⟨g, 0, none⟩ a).setCell ⟨g, 1, none⟩ b).setCell ⟨g, 2, none⟩ c).heap.size = W.heap.size := by simp
theorem new_below {w0 w1 : World} {N B : Nat} (hb : Below B (w0.alloc (.cells #[.int .i64 0, .int .i64 0, .int .i64 0] 25)).drew w1) (hN : w0.heap.size = N) (hB : N < B) : Blk w1 N 25 #[.int .i64 0, .int .i64 0, .int .i64 0] := (Blk.new' hN _ _).drew.below hb hB
/-- What the first statement leaves. -/
def Mid (w : World) (N : Nat) (x y z p q r : Int) (s : Int × Int × Int) (W : World) (K : Nat) : Prop :=
  Blk W N 23 #[.int .i64 x, .int .i64 y, .int .i64 z] ∧ Blk W (N + 1) 23 #[.int .i64 p, .int .i64 q, .int .i64 r] ∧ Blk W K 25 #[.int .i64 s.1, .int .i64 s.2.1, .int .i64 s.2.2] ∧ Below N w W
theorem mid_alloc {w W : World} {N : Nat} {x y z p q r : Int} {s : Int × Int × Int} (hA : Blk W N 23 #[.int .i64 x, .int .i64 y, .int .i64 z]) (hB : Blk W (N + 1) 23 #[.int .i64 p, .int .i64 q, .int .i64 r]) (hl : Below N w W) :
    Mid w N x y z p q r s (W.alloc (.cells #[.int .i64 s.1, .int .i64 s.2.1, .int .i64 s.2.2] 25)) W.heap.size :=
  ⟨hA.alloc _, hB.alloc _, Blk.new W _ _, hl.alloc (Nat.le_of_lt hA.lt) _⟩
theorem mid_put {w W : World} {N K : Nat} {x y z p q r : Int} {s : Int × Int × Int} {a b c : Value} (hA : Blk W N 23 #[.int .i64 x, .int .i64 y, .int .i64 z]) (hB : Blk W (N + 1) 23 #[.int .i64 p, .int .i64 q, .int .i64 r]) (hl : Below N w W)
    (hK : Blk W K 25 #[a, b, c]) (hle : N + 2 ≤ K) : Mid w N x y z p q r s (((W.setCell ⟨K, 0, none⟩ (.int .i64 s.1)).setCell ⟨K, 1, none⟩ (.int .i64 s.2.1)).setCell ⟨K, 2, none⟩ (.int .i64 s.2.2)) K :=
  ⟨hA.far3 (by omega) _ _ _, hB.far3 (by omega) _ _ _, hK.put3, below_put3 hl (by omega) _ _ _⟩
/-- What the second statement leaves. -/
def Fin (w : World) (N K : Nat) (s : Int × Int × Int) (W : World) (J : Nat) : Prop := Blk W J 25 #[.int .i64 s.1, .int .i64 s.2.1, .int .i64 s.2.2] ∧ Blk W K 25 #[.int .i64 s.1, .int .i64 s.2.1, .int .i64 s.2.2] ∧ Below N w W ∧ N ≤ W.heap.size
theorem fin_alloc {w W : World} {N K : Nat} {s : Int × Int × Int} (hK : Blk W K 25 #[.int .i64 s.1, .int .i64 s.2.1, .int .i64 s.2.2]) (hl : Below N w W) (hN : N ≤ W.heap.size) : Fin w N K s (W.alloc (.cells #[.int .i64 s.1, .int .i64 s.2.1, .int .i64 s.2.2] 25)) W.heap.size :=
  ⟨Blk.new W _ _, hK.alloc _, hl.alloc hN _, by simp; omega⟩
theorem fin_put {w W : World} {N K J : Nat} {s : Int × Int × Int} {a b c : Value} (hK : Blk W K 25 #[.int .i64 s.1, .int .i64 s.2.1, .int .i64 s.2.2]) (hl : Below N w W) (hN : N ≤ W.heap.size) (hJ : Blk W J 25 #[a, b, c]) (hle : K < J) (hNJ : N ≤ J) : Fin w N K s (((W.setCell ⟨J, 0, none⟩ (.int .i64 s.1)).setCell ⟨J, 1, none⟩ (.int .i64 s.2.1)).setCell ⟨J, 2, none⟩ (.int .i64 s.2.2)) J :=
  ⟨hJ.put3, hK.far3 (by omega) _ _ _, below_put3 hl hNJ _ _ _, by rw [put_size]; exact hN⟩
set_option maxRecDepth 10000 in
set_option maxHeartbeats 8000000 in
theorem law (x y z p q r : Int) (w : World) (ha : I64s [x, y, z]) (hb : I64s [p, q, r]) :
    Calls Try.prog 6 #[.agg #[.int .i64 x, .int .i64 y, .int .i64 z], .agg #[.int .i64 p, .int .i64 q, .int .i64 r]] w fun e w' => e = .returned (.bool true) ∧ Below w.heap.size w w' := by
  have hs := fun W => spec_SumSurface x y z p q r W ha hb
  have hi := fun W => impl_SumSurface x y z p q r W ha hb
  generalize Surf.sum x y z p q r = s at *
  generalize decide (Surf.sumOk x y z p q r) = b at *
  have Hs := Lib.hid hs; have Hi := Lib.hid hi; clear hs hi ha hb
  generalize hN : w.heap.size = N at *
  have HN := Lib.hid hN; have hN0 := Lib.hid (Nat.le_of_eq hN.symm)
  go_enter Try.func6, Try.ntmps6
  go_upto_region 1 with fail
  go_cut [5, 6] from 9 to 16 (fun s5 s6 wx => ∃ K, s5 = .pointer (some ⟨K, 0, none⟩) ∧ s6 = .bool b ∧ Mid w N x y z p q r s wx K)
  case first =>
    have hP : ∀ W W1 : World, (N + 2 ≤ W.heap.size ∧ Below N w W) → Below W.heap.size W W1 → (N + 2 ≤ W1.heap.size ∧ Below N w W1) := fun W W1 h hb => ⟨Nat.le_trans h.1 hb.size, h.2.trans (hb.mono (by have := h.1; omega))⟩
    have hPp : ∀ (W : World) (g : Nat) (a b c : Value), (N + 2 ≤ W.heap.size ∧ Below N w W) → N + 2 ≤ g → (N + 2 ≤ (((W.setCell ⟨g, 0, none⟩ a).setCell ⟨g, 1, none⟩ b).setCell ⟨g, 2, none⟩ c).heap.size ∧ Below N w (((W.setCell ⟨g, 0, none⟩ a).setCell ⟨g, 1, none⟩ b).setCell ⟨g, 2, none⟩ c)) := fun W g a b c h hg => ⟨by rw [put_size]; exact h.1, below_put3 h.2 (by omega) a b c⟩
    have hM0 : N + 2 ≤ N + 2 := Nat.le_refl _
    have hg0 : N + 2 ≤ N + 1 + 1 := Nat.le_refl _
    obtain ⟨hA1, hB1, hl1⟩ := Blk.of2 hN (Below.refl (N + 2) ((w.alloc (.cells #[.int .i64 x, .int .i64 y, .int .i64 z] 23)).alloc (.cells #[.int .i64 p, .int .i64 q, .int .i64 r] 23))) rfl
    have hS0 := And.intro (hA1.cell 0) (And.intro (hA1.cell 1) (And.intro (hA1.cell 2) (And.intro (hB1.cell 0) (And.intro (hB1.cell 1) (And.intro (hB1.cell 2) (And.intro hA1 (And.intro hB1 (And.intro (show N + 2 ≤ ((w.alloc (.cells #[.int .i64 x, .int .i64 y, .int .i64 z] 23)).alloc (.cells #[.int .i64 p, .int .i64 q, .int .i64 r] 23)).heap.size by simp; omega) hl1))))))))
    clear hA1 hB1 hl1
    go_region_held3 (fun w' => w'.cell? ⟨N, 0, none⟩ = some (.int .i64 x) ∧ w'.cell? ⟨N, 1, none⟩ = some (.int .i64 y) ∧ w'.cell? ⟨N, 2, none⟩ = some (.int .i64 z) ∧ w'.cell? ⟨N + 1, 0, none⟩ = some (.int .i64 p) ∧ w'.cell? ⟨N + 1, 1, none⟩ = some (.int .i64 q) ∧ w'.cell? ⟨N + 1, 2, none⟩ = some (.int .i64 r) ∧ Blk w' N 23 #[.int .i64 x, .int .i64 y, .int .i64 z] ∧ Blk w' (N + 1) 23 #[.int .i64 p, .int .i64 q, .int .i64 r] ∧ (N + 2 ≤ w'.heap.size ∧ Below N w w')) (first | (with_reducible assumption) | (with_reducible exact pair_go hP (by assumption) ((Below.refl _ _).alloc (Nat.le_refl _) _)) | (with_reducible exact pair_put hPp hM0 (by assumption) (by first | exact hz2 | exact hz1 | exact hg0)) | (with_reducible exact pair_go hP hS0 (Below.drew (Below.refl _ _))) | (with_reducible exact pair_go hP hS0 (below_drewN (Below.refl _ _) _)))
      (first
      | (go_at_call_of 13 x; refine (toSurface x y z _).mono ?_; rintro e w1 ⟨rfl, hb1⟩; have hS1 := pair_go hP (by assumption) hb1; have hz1 := hS1.2.2.2.2.2.2.2.2.1; have hk1 := keep_cell hb1; have hf1 := keep_frozen hb1; have hl1 := keep_lt hb1; (try (have hZ1 := new_below (N := N + 1 + 1) hb1 (by first | omega | (simp; omega)) (by first | (simp; omega) | simp); obtain ⟨_, _, _, _, _, _⟩ := hZ1.six)); have Hb1 := Lib.hid hb1; clear hb1)
      | (go_at_call_of 13 p; refine (toSurface p q r _).mono ?_; rintro e w2 ⟨rfl, hb2⟩; have hS2 := pair_go hP (by assumption) hb2; have hz2 := hS2.2.2.2.2.2.2.2.2.1; have hk2 := keep_cell hb2; have hf2 := keep_frozen hb2; have hl2 := keep_lt hb2; (try (have hZ2 := hZ1.below hb2 hZ1.lt; obtain ⟨_, _, _, _, _, _⟩ := hZ2.six)); have Hb2 := Lib.hid hb2; clear hb2)
      | (go_at_call 23; refine (Hs.out _).mono ?_; rintro e w3 ⟨rfl, hb3⟩; have hS3 := pair_go hP (by assumption) hb3; have hz3 := hS3.2.2.2.2.2.2.2.2.1; have hk3 := keep_cell hb3; have hf3 := keep_frozen hb3; have hl3 := keep_lt hb3; (try (have hZ3 := hZ2.below hb3 hZ2.lt; obtain ⟨_, _, _, _, _, _⟩ := hZ3.six)); have Hb3 := Lib.hid hb3; clear hb3))
    · go_wp2_with fail
      go_meet
      obtain ⟨_, _, _, _, _, _, hA, hB, _, hl⟩ := hS3
      exact ⟨_, rfl, rfl, mid_alloc hA hB hl⟩
    · go_wp2_with fail
      go_meet
      obtain ⟨_, _, _, _, _, _, hA, hB, _, hl⟩ := hS3
      exact ⟨_, rfl, rfl, mid_put hA hB hl ((Blk.new w2 25 #[.int .i64 0, .int .i64 0, .int .i64 0]).below Hb3.out (by simp)) hz2⟩
    · go_wp2_with fail
      go_meet
      obtain ⟨_, _, _, _, _, _, hA, hB, _, hl⟩ := hS3
      exact ⟨_, rfl, rfl, mid_put hA hB hl (((Blk.new w1 25 #[.int .i64 0, .int .i64 0, .int .i64 0]).below Hb2.out (by simp)).below Hb3.out (Nat.lt_of_lt_of_le (by simp) Hb2.out.size)) hz1⟩
    · go_wp2_with fail
      go_meet
      obtain ⟨_, _, _, _, _, _, hA, hB, _, hl⟩ := hS3
      exact ⟨_, rfl, rfl, mid_put hA hB hl hZ3 hg0⟩

  case rest =>
  obtain ⟨K, rfl, rfl, hA1, hB1, hK1, hl1⟩ := hcut
  have HA1 := Lib.hid hA1; have HB1 := Lib.hid hB1; have HK1 := Lib.hid hK1; have Hl1 := Lib.hid hl1
  generalize hM : wc.heap.size = M at *
  have HM := Lib.hid hM
  have hSz := Lib.hid (show N + 2 ≤ M ∧ K < M from ⟨by have := hB1.lt; omega, by have := hK1.lt; omega⟩)
  obtain ⟨_, _, _, _, _, _⟩ := hA1.six
  obtain ⟨_, _, _, _, _, _⟩ := hB1.six
  clear hA1 hB1 hK1 hl1
  go_upto_region 2 with fail
  go_cut [7, 8] from 17 to 24 (fun s7 s8 wx => ∃ J, s7 = .pointer (some ⟨J, 0, none⟩) ∧ s8 = .bool b ∧ Fin w N K s wx J)
  case first =>
    have hP : ∀ W W1 : World, (M ≤ W.heap.size ∧ Below N w W ∧ Blk W K 25 #[.int .i64 s.1, .int .i64 s.2.1, .int .i64 s.2.2]) → Below W.heap.size W W1 → (M ≤ W1.heap.size ∧ Below N w W1 ∧ Blk W1 K 25 #[.int .i64 s.1, .int .i64 s.2.1, .int .i64 s.2.2]) := fun W W1 h hb => ⟨Nat.le_trans h.1 hb.size, h.2.1.trans (hb.mono (by have := h.1; have := hSz.out; omega)), h.2.2.below hb h.2.2.lt⟩
    have hPp : ∀ (W : World) (g : Nat) (a b c : Value), (M ≤ W.heap.size ∧ Below N w W ∧ Blk W K 25 #[.int .i64 s.1, .int .i64 s.2.1, .int .i64 s.2.2]) → M ≤ g → (M ≤ (((W.setCell ⟨g, 0, none⟩ a).setCell ⟨g, 1, none⟩ b).setCell ⟨g, 2, none⟩ c).heap.size ∧ Below N w (((W.setCell ⟨g, 0, none⟩ a).setCell ⟨g, 1, none⟩ b).setCell ⟨g, 2, none⟩ c) ∧ Blk (((W.setCell ⟨g, 0, none⟩ a).setCell ⟨g, 1, none⟩ b).setCell ⟨g, 2, none⟩ c) K 25 #[.int .i64 s.1, .int .i64 s.2.1, .int .i64 s.2.2]) := fun W g a b c h hg => ⟨by rw [put_size]; exact h.1, below_put3 h.2.1 (by have := hSz.out; omega) a b c, h.2.2.far3 (by have := hSz.out; omega) a b c⟩
    have hM0 : N + 2 ≤ M := hSz.out.1
    have hg0 : M ≤ M := Nat.le_refl _
    have hS0 := And.intro (HA1.out.cell 0) (And.intro (HA1.out.cell 1) (And.intro (HA1.out.cell 2) (And.intro (HB1.out.cell 0) (And.intro (HB1.out.cell 1) (And.intro (HB1.out.cell 2) (And.intro HA1.out (And.intro HB1.out (And.intro (show M ≤ wc.heap.size by have := HM.out; omega) (And.intro Hl1.out HK1.out)))))))))
    go_region_held3 (fun w' => w'.cell? ⟨N, 0, none⟩ = some (.int .i64 x) ∧ w'.cell? ⟨N, 1, none⟩ = some (.int .i64 y) ∧ w'.cell? ⟨N, 2, none⟩ = some (.int .i64 z) ∧ w'.cell? ⟨N + 1, 0, none⟩ = some (.int .i64 p) ∧ w'.cell? ⟨N + 1, 1, none⟩ = some (.int .i64 q) ∧ w'.cell? ⟨N + 1, 2, none⟩ = some (.int .i64 r) ∧ Blk w' N 23 #[.int .i64 x, .int .i64 y, .int .i64 z] ∧ Blk w' (N + 1) 23 #[.int .i64 p, .int .i64 q, .int .i64 r] ∧ (M ≤ w'.heap.size ∧ Below N w w' ∧ Blk w' K 25 #[.int .i64 s.1, .int .i64 s.2.1, .int .i64 s.2.2])) (first | (with_reducible assumption) | (with_reducible exact pair_go hP (by assumption) ((Below.refl _ _).alloc (Nat.le_refl _) _)) | (with_reducible exact pair_put hPp hM0 (by assumption) (by first | exact hz2 | exact hz1 | exact hg0)) | (with_reducible exact pair_go hP hS0 (Below.drew (Below.refl _ _))) | (with_reducible exact pair_go hP hS0 (below_drewN (Below.refl _ _) _)))
      (first
      | (go_at_call_of 13 x; refine (toSurface x y z _).mono ?_; rintro e w1 ⟨rfl, hb1⟩; have hS1 := pair_go hP (by assumption) hb1; have hz1 := hS1.2.2.2.2.2.2.2.2.1; have hk1 := keep_cell hb1; have hf1 := keep_frozen hb1; have hl1 := keep_lt hb1; (try (have hZ1 := new_below (N := M) hb1 (by first | omega | (simp; omega)) (by first | (simp; omega) | simp); obtain ⟨_, _, _, _, _, _⟩ := hZ1.six)); have Hb1 := Lib.hid hb1; clear hb1)
      | (go_at_call_of 13 p; refine (toSurface p q r _).mono ?_; rintro e w2 ⟨rfl, hb2⟩; have hS2 := pair_go hP (by assumption) hb2; have hz2 := hS2.2.2.2.2.2.2.2.2.1; have hk2 := keep_cell hb2; have hf2 := keep_frozen hb2; have hl2 := keep_lt hb2; (try (have hZ2 := hZ1.below hb2 hZ1.lt; obtain ⟨_, _, _, _, _, _⟩ := hZ2.six)); have Hb2 := Lib.hid hb2; clear hb2)
      | (go_at_call 24; refine (Hi.out _).mono ?_; rintro e w3 ⟨rfl, hb3⟩; have hS3 := pair_go hP (by assumption) hb3; have hz3 := hS3.2.2.2.2.2.2.2.2.1; have hk3 := keep_cell hb3; have hf3 := keep_frozen hb3; have hl3 := keep_lt hb3; (try (have hZ3 := hZ2.below hb3 hZ2.lt; obtain ⟨_, _, _, _, _, _⟩ := hZ3.six)); have Hb3 := Lib.hid hb3; clear hb3))
    · go_wp2_with fail
      go_meet
      obtain ⟨_, _, _, _, _, _, _, _, hsz, hl, hK⟩ := hS3
      have hN3 : N ≤ w3.heap.size := by have := hSz.out; omega
      have hKM := hSz.out
      exact ⟨_, rfl, rfl, fin_alloc hK hl hN3⟩
    · go_wp2_with fail
      go_meet
      obtain ⟨_, _, _, _, _, _, _, _, hsz, hl, hK⟩ := hS3
      have hN3 : N ≤ w3.heap.size := by have := hSz.out; omega
      have hKM := hSz.out
      exact ⟨_, rfl, rfl, fin_put hK hl hN3 ((Blk.new w2 25 #[.int .i64 0, .int .i64 0, .int .i64 0]).below Hb3.out (by simp)) (by omega) (by omega)⟩
    · go_wp2_with fail
      go_meet
      obtain ⟨_, _, _, _, _, _, _, _, hsz, hl, hK⟩ := hS3
      have hN3 : N ≤ w3.heap.size := by have := hSz.out; omega
      have hKM := hSz.out
      exact ⟨_, rfl, rfl, fin_put hK hl hN3 (((Blk.new w1 25 #[.int .i64 0, .int .i64 0, .int .i64 0]).below Hb2.out (by simp)).below Hb3.out (Nat.lt_of_lt_of_le (by simp) Hb2.out.size)) (by omega) (by omega)⟩
    · go_wp2_with fail
      go_meet
      obtain ⟨_, _, _, _, _, _, _, _, hsz, hl, hK⟩ := hS3
      have hN3 : N ≤ w3.heap.size := by have := hSz.out; omega
      have hKM := hSz.out
      exact ⟨_, rfl, rfl, fin_put hK hl hN3 hZ3 (by omega) (by omega)⟩
  case rest =>
  obtain ⟨J, rfl, rfl, hJ, hK, hl, hN5⟩ := hcut
  have Hl := Lib.hid hl; have HN5 := Lib.hid hN5
  obtain ⟨_, _, _, _, _, _⟩ := hJ.six
  obtain ⟨_, _, _, _, _, _⟩ := hK.six
  clear hJ hK hl hN5
  go_wp2_with fail
  refine (eqSurface s.1 s.2.1 s.2.2 _).mono ?_
  rintro e w9 ⟨rfl, hb9⟩
  have Hl9 := Lib.hid (Hl.out.trans (hb9.mono HN5.out))
  clear hb9
  go_wp2
  go_ret
  exact ⟨rfl, Hl9.out⟩

set_option maxRecDepth 100000 in
theorem contract (H : Type) (enc : TypeId × Value → H) (W : World) (base : Nat) (args : Array Value) (ds gs : List (DataW H)) (before : List MemPlace)
    (hval : ∀ (j : Nat) t v, Try.f6.params[j]? = some t → args[j]? = some v → Value.okWide Try.prog W .any base t v)
    (hW : DataW.Whole enc Try.prog Try.f6.params.toList Rows.fnExactSumSurfaceSpec.vars false W args.toList ds gs before) :
    Calls Try.prog 6 args W fun e W' => ∃ v, e = .returned v ∧ Rows.fnExactSumSurfaceSpec.post enc Try.prog Try.f6 false true false false W args v W' := by
  have hW' := hW
  obtain ⟨p, q, hA0, hV, rfl, hfz, hnd⟩ := hW
  have hA : DataW.TrodAll enc Try.prog W 0 (fun _ => true) true Try.f6.params.toList args.toList ds p := hA0
  rw [Try.params6] at hA hval
  obtain ⟨v0, vs0, d0, ds0, p0, q0, hargs, rfl, rfl, h0, r0⟩ := trodAll_cons hA
  obtain ⟨v1, vs1, d1, ds1, p1, q1, rfl, rfl, rfl, h1, r1⟩ := trodAll_cons r0
  obtain ⟨rfl, rfl, rfl⟩ := trodAll_nil r1
  obtain rfl : args = #[v0, v1] := by cases args; simp_all
  obtain ⟨rfl, rfl⟩ := trodVars_none hV
  have k0 := h0
  have k1 := h1
  obtain ⟨xA, yA, zA, rfl, wA⟩ := Read.surface_of (hval 0 23 v0 rfl rfl) h0
  obtain ⟨xB, yB, zB, rfl, wB⟩ := Read.surface_of (hval 1 23 v1 rfl rfl) h1
  clear hA0
  simp only [List.append_nil] at hW'
  refine (law xA yA zA xB yB zB W wA wB).mono fun e W' ⟨he, hg⟩ => ?_
  subst he
  exact ⟨_, rfl, post_of_below (pv := []) hW' (fun _ _ _ => trodAll_cons_mk (shut_bool Try.underlying4 _) trodAll_mk0)
    (fun sp hs => trodAll_cons_mk (trod_keeps (t := 23) (by kernel_rfl) (by kernel_rfl) (by kernel_rfl) k0 hg (fun x hx => hW'.lt x (by simp_all)) (fun x hx => hs x (by simp_all))) (trodAll_cons_mk (trod_keeps (t := 23) (by kernel_rfl) (by kernel_rfl) (by kernel_rfl) k1 hg (fun x hx => hW'.lt x (by simp_all)) (fun x hx => hs x (by simp_all))) (trodAll_mk0)))
    (fun _ _ => rfl) (by simp) hg (ok_one (by kernel_rfl) rfl (okWide_bool_mk Try.underlying4 _))⟩

theorem reads (os : Os) {H : Type} (enc : TypeId × Value → H) : ∃ places, DataW.whole enc Try.prog ((World.holding Try.prog os ⟨#[], #[], []⟩).forCall (fun _ _ => 0) ⟨#[], #[.agg #[.int .i64 0, .int .i64 0, .int .i64 0], .agg #[.int .i64 0, .int .i64 0, .int .i64 0]], []⟩).memory Try.f6.params.toList Rows.fnExactSumSurfaceSpec.vars false (#[.agg #[.int .i64 0, .int .i64 0, .int .i64 0], .agg #[.int .i64 0, .int .i64 0, .int .i64 0]] : Array Value).toList 8 = some ([.agg [.lit (.int .i64 0), .lit (.int .i64 0), .lit (.int .i64 0)], .agg [.lit (.int .i64 0), .lit (.int .i64 0), .lit (.int .i64 0)]], [], places) :=
  ⟨[], by kernel_rfl⟩

set_option maxRecDepth 100000 in
theorem lifted (os : Os) (started : os.Started) (H : Type) (enc : TypeId × Value → H) (F : Stop.Interp) :
    ReturnsInHanded {} Try.checked os 6 .any ((OpenSpec.ofChange Rows.fnExactSumSurfaceSpec).preRow enc Try.prog Try.f6 Rows.fnExactSumSurfaceRow.domain false Rows.fnExactSumSurfaceRow.laid) (((OpenSpec.ofChange Rows.fnExactSumSurfaceSpec).at F).post enc Try.prog Try.f6 false true false false) := by
  obtain ⟨places, hx⟩ := reads os enc
  refine returnsInHanded_of_row (C := Try.checked) (s := OpenSpec.ofChange Rows.fnExactSumSurfaceSpec) Low.own started (by kernel_rfl) Try.func6
    (witness_row_at (enc := enc) (C := Try.checked) false (World.holding Try.prog os ⟨#[], #[], []⟩) #[.agg #[.int .i64 0, .int .i64 0, .int .i64 0], .agg #[.int .i64 0, .int .i64 0, .int .i64 0]] rfl (by kernel_rfl) (by kernel_rfl) (by kernel_rfl)
      (OpenSpec.preRow_of_cond 8 hx (by kernel_rfl) (fun k hk => by cases hk) (by kernel_rfl) (laidMet_nil _ _))) ?_
  intro W base args ds gs before hval hW _ _ _ hL hShaped _
  exact contract H enc W base args ds gs before hval hW 

theorem said : Rows.FnExactSumSurfaceSaid :=
  OpenClaim.holds_of_cond 6 Try.f6 rfl rfl rfl rfl rfl rfl rfl ⟨rfl, rfl, rfl, rfl, rfl⟩ rfl rfl rfl rfl rfl (by kernel_rfl) Try.func6 (by kernel_rfl)
    (of_decide_eq_true (by kernel_rfl)) (by unfold Func.isWrapper; first | (rw [if_pos (by decide +kernel)]; kernel_rfl) | (rw [if_neg (by decide +kernel)]; exact ⟨rfl, rfl⟩))
    (fun os started H enc _ F => by rw [OpenClaim.pre_eq_preRow]; exact lifted os started H enc F)
end Go.Proofs.Ytmopgapeibdpoaa.fnExactSumSurface
