/-
  At every argument the program's TwistSlope returns what the model returns, writes into no argument, and its answer owns its memory.
-/
import Derived.Test.YtehibigjdbpikaaDoorCards
import Derived.Test.YtehibigjdbpikaaDoorTie
import Derived.Test.YtehibigjdbpikaaDoorBase
import Derived.Test.YtehibigjdbpikaaDoorLow
import Derived.Test.YtehibigjdbpikaaDoorDoorLow
import Derived.Test.YtehibigjdbpikaaDoorSlice
import Derived.Test.YtehibigjdbpikaaDoorIntRow
import Derived.Test.YtehibigjdbpikaaDoorInts
import Derived.Test.YtehibigjdbpikaaDoorOwn
import Derived.Test.YtehibigjdbpikaaDoorTw
import Derived.Test.YtehibigjdbpikaaDoorTwErr
import Derived.Test.YtehibigjdbpikaaDoorSl
import Derived.Test.YtehibigjdbpikaaDoorSlK
import Derived.Test.YtehibigjdbpikaaDoorSlA
import Derived.Test.YtehibigjdbpikaaDoorSlB
import Derived.Test.YtehibigjdbpikaaDoorSlS
import Derived.Deep.DeepWitnessRowRef
import Derived.OpenShut
import Derived.Deep.DeepHandedRow
import Derived.LaidMore
import Derived.Stop.LaidErr
import Derived.Deep.RegionHeld3
import Derived.Deep.RegionWith
import Derived.Deep.CutRange
namespace Go.Proofs.YtehibigjdbpikaaDoor.fnExactTwistSlope
open Go.ChangeShapes Go.WideShapes Go.ChangeAt Go.RowKit Go.Sort
open Go.ChangeMaps (open_string)

/-- Two blocks that are kept, and whatever is kept beside them. -/
theorem pair_go {P : World → Prop} {N : Nat} {x y p q : Int} {W W1 : World} (hP : ∀ W W1, P W → Below W.heap.size W W1 → P W1)
    (h : W.cell? ⟨N, 0, none⟩ = some (.int .i64 x) ∧ W.cell? ⟨N, 1, none⟩ = some (.int .i64 y) ∧ W.cell? ⟨N + 1, 0, none⟩ = some (.int .i64 p) ∧ W.cell? ⟨N + 1, 1, none⟩ = some (.int .i64 q) ∧ Blk W N 23 #[.int .i64 x, .int .i64 y] ∧ Blk W (N + 1) 23 #[.int .i64 p, .int .i64 q] ∧ P W) (hb : Below W.heap.size W W1) :
    W1.cell? ⟨N, 0, none⟩ = some (.int .i64 x) ∧ W1.cell? ⟨N, 1, none⟩ = some (.int .i64 y) ∧ W1.cell? ⟨N + 1, 0, none⟩ = some (.int .i64 p) ∧ W1.cell? ⟨N + 1, 1, none⟩ = some (.int .i64 q) ∧ Blk W1 N 23 #[.int .i64 x, .int .i64 y] ∧ Blk W1 (N + 1) 23 #[.int .i64 p, .int .i64 q] ∧ P W1 := by
  obtain ⟨_, _, _, _, hA, hB, hR⟩ := h
  have hA' := hA.below hb hA.lt
  have hB' := hB.below hb hB.lt
  exact ⟨hA'.cell 0, hA'.cell 1, hB'.cell 0, hB'.cell 1, hA', hB', hP _ _ hR hb⟩
theorem keep_cell {W w1 : World} (hb : Below W.heap.size W w1) : ∀ g i, g < W.heap.size → w1.cell? ⟨g, i, none⟩ = W.cell? ⟨g, i, none⟩ := fun g i h => hb.cell (p := ⟨g, i, none⟩) h
theorem keep_frozen {W w1 : World} (hb : Below W.heap.size W w1) : ∀ g i, g < W.heap.size → w1.frozen? ⟨g, i, none⟩ = W.frozen? ⟨g, i, none⟩ := fun g i h => hb.frozen (p := ⟨g, i, none⟩) h
theorem keep_lt {W w1 : World} (hb : Below W.heap.size W w1) : ∀ K, K < W.heap.size → K < w1.heap.size := fun K h => Nat.lt_of_lt_of_le h hb.size
theorem start (w : World) (x y p q : Int) (N : Nat) (hN : w.heap.size = N) : Blk ((w.alloc (.cells #[.int .i64 x, .int .i64 y] 23)).alloc (.cells #[.int .i64 p, .int .i64 q] 23)) N 23 #[.int .i64 x, .int .i64 y] ∧ Blk ((w.alloc (.cells #[.int .i64 x, .int .i64 y] 23)).alloc (.cells #[.int .i64 p, .int .i64 q] 23)) (N + 1) 23 #[.int .i64 p, .int .i64 q] ∧ N + 2 ≤ ((w.alloc (.cells #[.int .i64 x, .int .i64 y] 23)).alloc (.cells #[.int .i64 p, .int .i64 q] 23)).heap.size ∧ Below N w ((w.alloc (.cells #[.int .i64 x, .int .i64 y] 23)).alloc (.cells #[.int .i64 p, .int .i64 q] 23)) := by
  subst hN
  exact ⟨(Blk.new w _ _).alloc _, Blk.at (size_alloc rfl _) _ _, by simp, ((Below.refl w.heap.size w).alloc (Nat.le_refl _) _).alloc (by simp) _⟩
theorem pair_put {P : World → Prop} {N M g : Nat} {x y p q : Int} {W : World} {a b : Value} (hP : ∀ W g a b, P W → M ≤ g → P ((W.setCell ⟨g, 0, none⟩ a).setCell ⟨g, 1, none⟩ b)) (hM : N + 2 ≤ M)
    (h : W.cell? ⟨N, 0, none⟩ = some (.int .i64 x) ∧ W.cell? ⟨N, 1, none⟩ = some (.int .i64 y) ∧ W.cell? ⟨N + 1, 0, none⟩ = some (.int .i64 p) ∧ W.cell? ⟨N + 1, 1, none⟩ = some (.int .i64 q) ∧ Blk W N 23 #[.int .i64 x, .int .i64 y] ∧ Blk W (N + 1) 23 #[.int .i64 p, .int .i64 q] ∧ P W) (hg : M ≤ g) :
    ((W.setCell ⟨g, 0, none⟩ a).setCell ⟨g, 1, none⟩ b).cell? ⟨N, 0, none⟩ = some (.int .i64 x) ∧ ((W.setCell ⟨g, 0, none⟩ a).setCell ⟨g, 1, none⟩ b).cell? ⟨N, 1, none⟩ = some (.int .i64 y) ∧ ((W.setCell ⟨g, 0, none⟩ a).setCell ⟨g, 1, none⟩ b).cell? ⟨N + 1, 0, none⟩ = some (.int .i64 p) ∧ ((W.setCell ⟨g, 0, none⟩ a).setCell ⟨g, 1, none⟩ b).cell? ⟨N + 1, 1, none⟩ = some (.int .i64 q) ∧ Blk ((W.setCell ⟨g, 0, none⟩ a).setCell ⟨g, 1, none⟩ b) N 23 #[.int .i64 x, .int .i64 y] ∧ Blk ((W.setCell ⟨g, 0, none⟩ a).setCell ⟨g, 1, none⟩ b) (N + 1) 23 #[.int .i64 p, .int .i64 q] ∧ P ((W.setCell ⟨g, 0, none⟩ a).setCell ⟨g, 1, none⟩ b) := by
  obtain ⟨_, _, _, _, hA, hB, hR⟩ := h
  have hA' := hA.far2 (k := g) (by omega) a b
  have hB' := hB.far2 (k := g) (by omega) a b
  exact ⟨hA'.cell 0, hA'.cell 1, hB'.cell 0, hB'.cell 1, hA', hB', hP _ _ _ _ hR hg⟩
theorem put_size (W : World) (g : Nat) (a b : Value) : ((W.setCell ⟨g, 0, none⟩ a).setCell ⟨g, 1, none⟩ b).heap.size = W.heap.size := by simp
theorem new_below {w0 w1 : World} {N B : Nat} (hb : Below B (w0.alloc (.cells #[.int .i64 0, .int .i64 0] 25)).drew w1) (hN : w0.heap.size = N) (hB : N < B) : Blk w1 N 25 #[.int .i64 0, .int .i64 0] := (Blk.at hN _ _).drew.below hb hB
/-- What the first statement leaves. -/
def Mid (w : World) (N : Nat) (x y p q : Int) (s : Int × Int) (W : World) (K : Nat) : Prop :=
  Blk W N 23 #[.int .i64 x, .int .i64 y] ∧ Blk W (N + 1) 23 #[.int .i64 p, .int .i64 q] ∧ Blk W K 25 #[.int .i64 s.1, .int .i64 s.2] ∧ Below N w W
theorem mid_alloc {w W : World} {N : Nat} {x y p q : Int} {s : Int × Int} (hA : Blk W N 23 #[.int .i64 x, .int .i64 y]) (hB : Blk W (N + 1) 23 #[.int .i64 p, .int .i64 q]) (hl : Below N w W) :
    Mid w N x y p q s (W.alloc (.cells #[.int .i64 s.1, .int .i64 s.2] 25)) W.heap.size :=
  ⟨hA.alloc _, hB.alloc _, Blk.new W _ _, hl.alloc (Nat.le_of_lt hA.lt) _⟩
theorem mid_put {w W : World} {N K : Nat} {x y p q : Int} {s : Int × Int} {a b : Value} (hA : Blk W N 23 #[.int .i64 x, .int .i64 y]) (hB : Blk W (N + 1) 23 #[.int .i64 p, .int .i64 q]) (hl : Below N w W)
    (hK : Blk W K 25 #[a, b]) (hle : N + 2 ≤ K) : Mid w N x y p q s ((W.setCell ⟨K, 0, none⟩ (.int .i64 s.1)).setCell ⟨K, 1, none⟩ (.int .i64 s.2)) K :=
  ⟨hA.far2 (by omega) _ _, hB.far2 (by omega) _ _, hK.put2, below_put2 hl (by omega) _ _⟩
/-- What the second statement leaves. -/
def Fin (w : World) (N K : Nat) (s : Int × Int) (W : World) (J : Nat) : Prop := Blk W J 25 #[.int .i64 s.1, .int .i64 s.2] ∧ Blk W K 25 #[.int .i64 s.1, .int .i64 s.2] ∧ Below N w W ∧ N ≤ W.heap.size
theorem fin_alloc {w W : World} {N K : Nat} {s : Int × Int} (hK : Blk W K 25 #[.int .i64 s.1, .int .i64 s.2]) (hl : Below N w W) (hN : N ≤ W.heap.size) : Fin w N K s (W.alloc (.cells #[.int .i64 s.1, .int .i64 s.2] 25)) W.heap.size :=
  ⟨Blk.new W _ _, hK.alloc _, hl.alloc hN _, by simp; omega⟩
theorem fin_put {w W : World} {N K J : Nat} {s : Int × Int} {a b : Value} (hK : Blk W K 25 #[.int .i64 s.1, .int .i64 s.2]) (hl : Below N w W) (hN : N ≤ W.heap.size) (hJ : Blk W J 25 #[a, b]) (hle : K < J) (hNJ : N ≤ J) : Fin w N K s ((W.setCell ⟨J, 0, none⟩ (.int .i64 s.1)).setCell ⟨J, 1, none⟩ (.int .i64 s.2)) J :=
  ⟨hJ.put2, hK.far2 (by omega) _ _, below_put2 hl hNJ _ _, by rw [put_size]; exact hN⟩
set_option maxRecDepth 10000 in
set_option maxHeartbeats 8000000 in
theorem law (x y p q k : Int) (k0 : -9223372036854775808 ≤ k) (k1 : k ≤ 9223372036854775807) (w : World) (_ : I64s [x, y]) (_ : I64s [p, q]) (hE : Errs w) :
    Calls Tryd.prog 9 #[.agg #[.int .i64 x, .int .i64 y], .agg #[.int .i64 p, .int .i64 q], .int .i64 k] w fun e w' => e = .returned (.bool true) ∧ Below w.heap.size w w' := by
  have hs := fun W => spec_TwistSlope x y p q k W
  have hi := fun W (hb : Below w.heap.size w W) => impl_TwistSlope x y p q k W (hE.keeps hb)
  generalize Sl.twist x y p q k = s at *
  generalize decide (Sl.twOk x y p q k) = b at *
  have Hs := Lib.hid hs; have Hi := Lib.hid hi; clear hs hi hE k0 k1
  generalize hN : w.heap.size = N at *
  have HN := Lib.hid hN
  go_enter Tryd.func9, Tryd.ntmps9
  go_upto_region 1 with fail
  go_cut [7, 8] from 11 to 19 (fun s5 s6 wx => ∃ K, s5 = .pointer (some ⟨K, 0, none⟩) ∧ s6 = .bool b ∧ Mid w N x y p q s wx K)
  case first =>
    have hP : ∀ W W1 : World, (N + 2 ≤ W.heap.size ∧ Below N w W) → Below W.heap.size W W1 → (N + 2 ≤ W1.heap.size ∧ Below N w W1) := fun W W1 h hb => ⟨Nat.le_trans h.1 hb.size, h.2.trans (hb.mono (by have := h.1; omega))⟩
    have hPp : ∀ (W : World) (g : Nat) (a b : Value), (N + 2 ≤ W.heap.size ∧ Below N w W) → N + 2 ≤ g → (N + 2 ≤ ((W.setCell ⟨g, 0, none⟩ a).setCell ⟨g, 1, none⟩ b).heap.size ∧ Below N w ((W.setCell ⟨g, 0, none⟩ a).setCell ⟨g, 1, none⟩ b)) := fun W g a b h hg => ⟨by rw [put_size]; exact h.1, below_put2 h.2 (by omega) a b⟩
    have hM0 : N + 2 ≤ N + 2 := Nat.le_refl _
    have hg0 : N + 2 ≤ N + 1 + 1 := Nat.le_refl _
    obtain ⟨hA1, hB1, hz1, hl1⟩ := start w x y p q N HN.out
    have hS0 := And.intro (hA1.cell 0) (And.intro (hA1.cell 1) (And.intro (hB1.cell 0) (And.intro (hB1.cell 1) (And.intro hA1 (And.intro hB1 (And.intro hz1 hl1))))))
    clear hA1 hB1 hl1 hz1
    go_region_held3 (fun w' => w'.cell? ⟨N, 0, none⟩ = some (.int .i64 x) ∧ w'.cell? ⟨N, 1, none⟩ = some (.int .i64 y) ∧ w'.cell? ⟨N + 1, 0, none⟩ = some (.int .i64 p) ∧ w'.cell? ⟨N + 1, 1, none⟩ = some (.int .i64 q) ∧ Blk w' N 23 #[.int .i64 x, .int .i64 y] ∧ Blk w' (N + 1) 23 #[.int .i64 p, .int .i64 q] ∧ (N + 2 ≤ w'.heap.size ∧ Below N w w')) (first | (with_reducible assumption) | (with_reducible exact pair_go hP (by assumption) ((Below.refl _ _).alloc (Nat.le_refl _) _)) | (with_reducible exact pair_put hPp hM0 (by assumption) (by first | exact hz2 | exact hz1 | exact hg0)) | (with_reducible exact pair_go hP hS0 (Below.drew (Below.refl _ _))) | (with_reducible exact pair_go hP hS0 (below_drewN (Below.refl _ _) _)))
      (first
      | (go_at_call_of 13 x; refine (toSlope x y _).mono ?_; rintro e w1 ⟨rfl, hb1⟩; have hS1 := pair_go hP (by assumption) hb1; have hz1 := hS1.2.2.2.2.2.2.1; have hL1 := hS1.2.2.2.2.2.2.2; have hk1 := keep_cell hb1; have hf1 := keep_frozen hb1; have hl1 := keep_lt hb1; (try (have hZ1 := new_below (N := N + 1 + 1) hb1 (by first | omega | (simp; omega)) (by first | (simp; omega) | simp); obtain ⟨_, _, _, _⟩ := hZ1.four)); have Hb1 := Lib.hid hb1; clear hb1)
      | (go_at_call_of 13 p; refine (toSlope p q _).mono ?_; rintro e w2 ⟨rfl, hb2⟩; have hS2 := pair_go hP (by assumption) hb2; have hz2 := hS2.2.2.2.2.2.2.1; have hL2 := hS2.2.2.2.2.2.2.2; have hk2 := keep_cell hb2; have hf2 := keep_frozen hb2; have hl2 := keep_lt hb2; (try (have hZ2 := hZ1.below hb2 hZ1.lt; obtain ⟨_, _, _, _⟩ := hZ2.four)); have Hb2 := Lib.hid hb2; clear hb2)
      | (go_at_call 26; refine (Hs.out _).mono ?_; rintro e w3 ⟨rfl, hb3⟩; have hS3 := pair_go hP (by assumption) hb3; have hz3 := hS3.2.2.2.2.2.2.1; have hL3 := hS3.2.2.2.2.2.2.2; have hk3 := keep_cell hb3; have hf3 := keep_frozen hb3; have hl3 := keep_lt hb3; (try (have hZ3 := hZ2.below hb3 hZ2.lt; obtain ⟨_, _, _, _⟩ := hZ3.four)); have Hb3 := Lib.hid hb3; clear hb3))
    · go_wp2_with fail
      go_meet
      obtain ⟨_, _, _, _, hA, hB, _, hl⟩ := hS3
      exact ⟨_, rfl, rfl, mid_alloc hA hB hl⟩
    · go_wp2_with fail
      go_meet
      obtain ⟨_, _, _, _, hA, hB, _, hl⟩ := hS3
      exact ⟨_, rfl, rfl, mid_put hA hB hl ((Blk.new w2 25 #[.int .i64 0, .int .i64 0]).below Hb3.out (by simp)) hz2⟩
    · go_wp2_with fail
      go_meet
      obtain ⟨_, _, _, _, hA, hB, _, hl⟩ := hS3
      exact ⟨_, rfl, rfl, mid_put hA hB hl (((Blk.new w1 25 #[.int .i64 0, .int .i64 0]).below Hb2.out (by simp)).below Hb3.out (Nat.lt_of_lt_of_le (by simp) Hb2.out.size)) hz1⟩
    · go_wp2_with fail
      go_meet
      obtain ⟨_, _, _, _, hA, hB, _, hl⟩ := hS3
      exact ⟨_, rfl, rfl, mid_put hA hB hl hZ3 hg0⟩
  case rest =>
  obtain ⟨K, rfl, rfl, hA1, hB1, hK1, hl1⟩ := hcut
  have HA1 := Lib.hid hA1; have HB1 := Lib.hid hB1; have HK1 := Lib.hid hK1; have Hl1 := Lib.hid hl1
  generalize hM : wc.heap.size = M at *
  have HM := Lib.hid hM
  have hSz := Lib.hid (show N + 2 ≤ M ∧ K < M from ⟨by have := hB1.lt; omega, by have := hK1.lt; omega⟩)
  obtain ⟨_, _, _, _⟩ := hA1.four
  obtain ⟨_, _, _, _⟩ := hB1.four
  clear hA1 hB1 hK1 hl1
  go_upto_region 2 with fail
  go_cut [9, 10] from 20 to 28 (fun s7 s8 wx => ∃ J, s7 = .pointer (some ⟨J, 0, none⟩) ∧ s8 = .bool b ∧ Fin w N K s wx J)
  case first =>
    have hP : ∀ W W1 : World, (M ≤ W.heap.size ∧ Below N w W ∧ Blk W K 25 #[.int .i64 s.1, .int .i64 s.2]) → Below W.heap.size W W1 → (M ≤ W1.heap.size ∧ Below N w W1 ∧ Blk W1 K 25 #[.int .i64 s.1, .int .i64 s.2]) := fun W W1 h hb => ⟨Nat.le_trans h.1 hb.size, h.2.1.trans (hb.mono (by have := h.1; have := hSz.out; omega)), h.2.2.below hb h.2.2.lt⟩
    have hPp : ∀ (W : World) (g : Nat) (a b : Value), (M ≤ W.heap.size ∧ Below N w W ∧ Blk W K 25 #[.int .i64 s.1, .int .i64 s.2]) → M ≤ g → (M ≤ ((W.setCell ⟨g, 0, none⟩ a).setCell ⟨g, 1, none⟩ b).heap.size ∧ Below N w ((W.setCell ⟨g, 0, none⟩ a).setCell ⟨g, 1, none⟩ b) ∧ Blk ((W.setCell ⟨g, 0, none⟩ a).setCell ⟨g, 1, none⟩ b) K 25 #[.int .i64 s.1, .int .i64 s.2]) := fun W g a b h hg => ⟨by rw [put_size]; exact h.1, below_put2 h.2.1 (by have := hSz.out; omega) a b, h.2.2.far2 (by have := hSz.out; omega) a b⟩
    have hM0 : N + 2 ≤ M := hSz.out.1
    have hg0 : M ≤ M := Nat.le_refl _
    have hS0 := And.intro (HA1.out.cell 0) (And.intro (HA1.out.cell 1) (And.intro (HB1.out.cell 0) (And.intro (HB1.out.cell 1) (And.intro HA1.out (And.intro HB1.out (And.intro (show M ≤ wc.heap.size by have := HM.out; omega) (And.intro Hl1.out HK1.out)))))))
    go_region_held3 (fun w' => w'.cell? ⟨N, 0, none⟩ = some (.int .i64 x) ∧ w'.cell? ⟨N, 1, none⟩ = some (.int .i64 y) ∧ w'.cell? ⟨N + 1, 0, none⟩ = some (.int .i64 p) ∧ w'.cell? ⟨N + 1, 1, none⟩ = some (.int .i64 q) ∧ Blk w' N 23 #[.int .i64 x, .int .i64 y] ∧ Blk w' (N + 1) 23 #[.int .i64 p, .int .i64 q] ∧ (M ≤ w'.heap.size ∧ Below N w w' ∧ Blk w' K 25 #[.int .i64 s.1, .int .i64 s.2])) (first | (with_reducible assumption) | (with_reducible exact pair_go hP (by assumption) ((Below.refl _ _).alloc (Nat.le_refl _) _)) | (with_reducible exact pair_put hPp hM0 (by assumption) (by first | exact hz2 | exact hz1 | exact hg0)) | (with_reducible exact pair_go hP hS0 (Below.drew (Below.refl _ _))) | (with_reducible exact pair_go hP hS0 (below_drewN (Below.refl _ _) _)))
      (first
      | (go_at_call_of 13 x; refine (toSlope x y _).mono ?_; rintro e w1 ⟨rfl, hb1⟩; have hS1 := pair_go hP (by assumption) hb1; have hz1 := hS1.2.2.2.2.2.2.1; have hL1 := hS1.2.2.2.2.2.2.2.1; have hk1 := keep_cell hb1; have hf1 := keep_frozen hb1; have hl1 := keep_lt hb1; (try (have hZ1 := new_below (N := M) hb1 (by first | omega | (simp; omega)) (by first | (simp; omega) | simp); obtain ⟨_, _, _, _⟩ := hZ1.four)); have Hb1 := Lib.hid hb1; clear hb1)
      | (go_at_call_of 13 p; refine (toSlope p q _).mono ?_; rintro e w2 ⟨rfl, hb2⟩; have hS2 := pair_go hP (by assumption) hb2; have hz2 := hS2.2.2.2.2.2.2.1; have hL2 := hS2.2.2.2.2.2.2.2.1; have hk2 := keep_cell hb2; have hf2 := keep_frozen hb2; have hl2 := keep_lt hb2; (try (have hZ2 := hZ1.below hb2 hZ1.lt; obtain ⟨_, _, _, _⟩ := hZ2.four)); have Hb2 := Lib.hid hb2; clear hb2)
      | (go_at_call 27; refine (Hi.out _ (by first | exact hL2 | exact hL2.alloc (by have := hz2; have := hSz.out; omega) _ | exact Below.drew hL2 | exact hL1)).mono ?_; rintro e w3 ⟨rfl, hb3⟩; have hS3 := pair_go hP (by assumption) hb3; have hz3 := hS3.2.2.2.2.2.2.1; have hL3 := hS3.2.2.2.2.2.2.2.1; have hk3 := keep_cell hb3; have hf3 := keep_frozen hb3; have hl3 := keep_lt hb3; (try (have hZ3 := hZ2.below hb3 hZ2.lt; obtain ⟨_, _, _, _⟩ := hZ3.four)); have Hb3 := Lib.hid hb3; clear hb3))
    · go_wp2_with fail
      go_meet
      obtain ⟨_, _, _, _, _, _, hsz, hl, hK⟩ := hS3
      have hN3 : N ≤ w3.heap.size := by have := hSz.out; omega
      have hKM := hSz.out
      exact ⟨_, rfl, rfl, fin_alloc hK hl hN3⟩
    · go_wp2_with fail
      go_meet
      obtain ⟨_, _, _, _, _, _, hsz, hl, hK⟩ := hS3
      have hN3 : N ≤ w3.heap.size := by have := hSz.out; omega
      have hKM := hSz.out
      exact ⟨_, rfl, rfl, fin_put hK hl hN3 ((Blk.new w2 25 #[.int .i64 0, .int .i64 0]).below Hb3.out (by simp)) (by omega) (by omega)⟩
    · go_wp2_with fail
      go_meet
      obtain ⟨_, _, _, _, _, _, hsz, hl, hK⟩ := hS3
      have hN3 : N ≤ w3.heap.size := by have := hSz.out; omega
      have hKM := hSz.out
      exact ⟨_, rfl, rfl, fin_put hK hl hN3 (((Blk.new w1 25 #[.int .i64 0, .int .i64 0]).below Hb2.out (by simp)).below Hb3.out (Nat.lt_of_lt_of_le (by simp) Hb2.out.size)) (by omega) (by omega)⟩
    · go_wp2_with fail
      go_meet
      obtain ⟨_, _, _, _, _, _, hsz, hl, hK⟩ := hS3
      have hN3 : N ≤ w3.heap.size := by have := hSz.out; omega
      have hKM := hSz.out
      exact ⟨_, rfl, rfl, fin_put hK hl hN3 hZ3 (by omega) (by omega)⟩
  case rest =>
  obtain ⟨J, rfl, rfl, hJ, hK, hl, hN5⟩ := hcut
  have Hl := Lib.hid hl; have HN5 := Lib.hid hN5
  obtain ⟨_, _, _, _⟩ := hJ.four
  obtain ⟨_, _, _, _⟩ := hK.four
  clear hJ hK hl hN5
  go_wp2_with fail
  refine (eqSlope s.1 s.2 _).mono ?_
  rintro e w9 ⟨rfl, hb9⟩
  have Hl9 := Lib.hid (Hl.out.trans (hb9.mono HN5.out))
  clear hb9
  go_wp2
  go_ret
  exact ⟨rfl, Hl9.out⟩

set_option maxRecDepth 100000 in
theorem contract (H : Type) (enc : TypeId × Value → H) (W : World) (base : Nat) (args : Array Value) (ds gs : List (DataW H)) (before : List MemPlace)
    (hval : ∀ (j : Nat) t v, Tryd.f9.params[j]? = some t → args[j]? = some v → Value.okWide Tryd.prog W .any base t v)
    (hW : DataW.Whole enc Tryd.prog Tryd.f9.params.toList Rows.fnExactTwistSlopeSpec.vars false W args.toList ds gs before) (hL : laidMetH Tryd.prog Rows.fnExactTwistSlopeRow.laid W) :
    Calls Tryd.prog 9 args W fun e W' => ∃ v, e = .returned v ∧ Rows.fnExactTwistSlopeSpec.post enc Tryd.prog Tryd.f9 false true false false W args v W' := by
  have hW' := hW
  obtain ⟨p, q, hA0, hV, rfl, hfz, hnd⟩ := hW
  have hA : DataW.TrodAll enc Tryd.prog W 0 (fun _ => true) true Tryd.f9.params.toList args.toList ds p := hA0
  rw [Tryd.params9] at hA hval
  obtain ⟨v0, vs0, d0, ds0, p0, q0, hargs, rfl, rfl, h0, r0⟩ := trodAll_cons hA
  obtain ⟨v1, vs1, d1, ds1, p1, q1, rfl, rfl, rfl, h1, r1⟩ := trodAll_cons r0
  obtain ⟨v2, vs2, d2, ds2, p2, q2, rfl, rfl, rfl, h2, r2⟩ := trodAll_cons r1
  obtain ⟨rfl, rfl, rfl⟩ := trodAll_nil r2
  obtain rfl : args = #[v0, v1, v2] := by cases args; simp_all
  have hV : DataW.TrodVars enc Tryd.prog W (fun _ => true) ["loop.example/g03105/impl.errTooGreat"] gs q := hV
  obtain ⟨sa, hsv⟩ := Er.var_of hL (by rfl)
  have hvr : ∀ {X : World}, X.var? Tryd.prog "loop.example/g03105/impl.errTooGreat" = some #[.iface 117 (.pointer (some sa))] → ∀ sp : Nat → Bool, DataW.TrodVars enc Tryd.prog X sp ["loop.example/g03105/impl.errTooGreat"] [tok enc (.iface 117 (.pointer (some sa)))] [.cell 0 0] :=
    fun x0 sp => vars_read1 enc Er.gGreat Er.tGreat Tryd.underlying60 x0 trivial sp
  obtain ⟨rfl, rfl⟩ := hV.unique (hvr hsv _)
  have k0 := h0
  have k1 := h1
  have k2 := h2
  obtain ⟨xA, yA, rfl, wA⟩ := Read.slope_of (hval 0 23 v0 rfl rfl) h0
  obtain ⟨xB, yB, rfl, wB⟩ := Read.slope_of (hval 1 23 v1 rfl rfl) h1
  obtain ⟨k, rfl, rfl, rfl, wk⟩ := open_int Tryd.underlying3 (hval 2 3 v2 rfl rfl) h2
  have bk := bounds_i64 wk
  clear hA0
  simp only [List.append_nil] at hW'
  refine (law xA yA xB yB k bk.1 bk.2 W wA wB (errs_of hL (by rfl))).mono fun e W' ⟨he, hg⟩ => ?_
  subst he
  exact ⟨_, rfl, post_of_below (pv := [.cell 0 0]) hW' (fun _ _ _ => trodAll_cons_mk (shut_bool Tryd.underlying4 _) trodAll_mk0)
    (fun sp hs => trodAll_cons_mk (trod_keeps (t := 23) (by kernel_rfl) (by kernel_rfl) (by kernel_rfl) k0 hg (fun x hx => hW'.lt x (by simp_all)) (fun x hx => hs x (by simp_all))) (trodAll_cons_mk (trod_keeps (t := 23) (by kernel_rfl) (by kernel_rfl) (by kernel_rfl) k1 hg (fun x hx => hW'.lt x (by simp_all)) (fun x hx => hs x (by simp_all))) (trodAll_cons_mk (trod_keeps (t := 3) (by kernel_rfl) (by kernel_rfl) (by kernel_rfl) k2 hg (fun x hx => hW'.lt x (by simp_all)) (fun x hx => hs x (by simp_all))) (trodAll_mk0))))
    (fun sp _ => hvr (Er.var_keeps hg Er.gGreat hsv) sp) (by simp) hg (ok_one (by kernel_rfl) rfl (okWide_bool_mk Tryd.underlying4 _))⟩

theorem laid_met (os : Os) : laidMetH Tryd.prog Rows.fnExactTwistSlopeRow.laid ((World.doorLaid Tryd.prog 81 os).forCall (fun _ _ => 0) ⟨#[], #[.agg #[.int .i64 0, .int .i64 0], .agg #[.int .i64 0, .int .i64 0], .int .i64 0], []⟩).memory :=
  Low.met os #[.agg #[.int .i64 0, .int .i64 0], .agg #[.int .i64 0, .int .i64 0], .int .i64 0] Rows.fnExactTwistSlopeRow.laid (Rows.fnExactTwistSlopeRow.laid.map (·.1)) (by rfl)
set_option maxRecDepth 100000 in
theorem lifted (os : Os) (started : os.Started) (H : Type) (enc : TypeId × Value → H) (F : Stop.Interp) :
    ReturnsInHanded {} Tryd.checked os 9 .any ((OpenSpec.ofChange Rows.fnExactTwistSlopeSpec).preRow enc Tryd.prog Tryd.f9 Rows.fnExactTwistSlopeRow.domain false Rows.fnExactTwistSlopeRow.laid) (((OpenSpec.ofChange Rows.fnExactTwistSlopeSpec).at F).post enc Tryd.prog Tryd.f9 false true false false) := by
  refine returnsInHanded_of_row (C := Tryd.checked) (s := OpenSpec.ofChange Rows.fnExactTwistSlopeSpec) Low.own started (by kernel_rfl) Tryd.func9
    (witness_row_atRef (enc := enc) (C := Tryd.checked) false (World.doorLaid Tryd.prog 81 os) #[.agg #[.int .i64 0, .int .i64 0], .agg #[.int .i64 0, .int .i64 0], .int .i64 0] (by unfold World.doorLaid; rfl) (Low.shapeB os #[.agg #[.int .i64 0, .int .i64 0], .agg #[.int .i64 0, .int .i64 0], .int .i64 0]) (Low.shapeR os #[.agg #[.int .i64 0, .int .i64 0], .agg #[.int .i64 0, .int .i64 0], .int .i64 0]) (by kernel_rfl)
      (OpenSpec.preRow_of_B rfl 8 (by kernel_rfl) (by kernel_rfl) (laid_met os))) ?_
  intro W base args ds gs before hval hW _ _ _ hL hShaped _
  exact contract H enc W base args ds gs before hval hW hL

theorem said : Rows.FnExactTwistSlopeSaid :=
  OpenClaim.holds_of_cond 9 Tryd.f9 rfl rfl rfl rfl rfl rfl rfl ⟨rfl, rfl, rfl, rfl, rfl⟩ rfl rfl rfl rfl rfl (by kernel_rfl) Tryd.func9 (by kernel_rfl)
    (of_decide_eq_true (by kernel_rfl)) (by unfold Func.isWrapper; first | (rw [if_pos (by decide +kernel)]; kernel_rfl) | (rw [if_neg (by decide +kernel)]; exact ⟨rfl, rfl⟩))
    (fun os started H enc _ F => by rw [OpenClaim.pre_eq_preRow]; exact lifted os started H enc F)

theorem looks (f : FuncId) (fn : Func) (hf : Tryd.pinned.checked.prog.funcNamed "loop.example/g03105/laws.FnExactTwistSlope" = some f) (hfn : Tryd.pinned.checked.prog.funcs[f]? = some fn) :
    true = Tryd.pinned.checked.prog.looks [] ∧ ∀ (j : Nat) t, fn.params[j]? = some t → Tryd.pinned.checked.prog.wantsStandIn t = false := by
  obtain rfl : f = 9 := Option.some.inj ((show Tryd.prog.funcNamed "loop.example/g03105/laws.FnExactTwistSlope" = some 9 by kernel_rfl).symm.trans hf) |>.symm
  obtain rfl : fn = Tryd.f9 := (Option.some.inj (Tryd.func9.symm.trans hfn)).symm
  refine ⟨by kernel_rfl, fun j t ht => ?_⟩
  rw [Tryd.params9] at ht
  have hm : t ∈ [23, 23, 3] := by simpa using Array.mem_of_getElem? ht
  have hall : ([23, 23, 3].all fun u => !Tryd.prog.wantsStandIn u) = true := by kernel_rfl
  exact (show Tryd.prog.wantsStandIn t = false by simpa using List.all_eq_true.1 hall t hm)

theorem card : Rows.FnExactTwistSlopeCardSaid :=
  Claim7.holds_tied_plain_at .later [] _ _ _ _ said (fun _ h => by cases h) (by kernel_rfl) (fun _ h => by cases h) fnExactTwistSlope_row_tie rfl ⟨rfl, rfl⟩ (by kernel_rfl) rfl looks (by kernel_rfl)
end Go.Proofs.YtehibigjdbpikaaDoor.fnExactTwistSlope
