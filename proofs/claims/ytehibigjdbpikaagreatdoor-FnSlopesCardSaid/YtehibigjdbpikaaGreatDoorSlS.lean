/-
  The walks of the model's IsSlope, SlopeOf, CrossNumber, IsBasisPair, SumSlope and TwistSlope.
-/
import Derived.Test.YtehibigjdbpikaaGreatDoorBase
import Derived.Test.YtehibigjdbpikaaGreatDoorSlice
import Derived.Test.YtehibigjdbpikaaGreatDoorIntRow
import Derived.Test.YtehibigjdbpikaaGreatDoorInts
import Derived.Test.YtehibigjdbpikaaGreatDoorIsWord
import Derived.Test.YtehibigjdbpikaaGreatDoorTw
import Derived.Test.YtehibigjdbpikaaGreatDoorSl
import Derived.Test.YtehibigjdbpikaaGreatDoorSlK
import Derived.Test.YtehibigjdbpikaaGreatDoorSlB
import Derived.Deep.QuietTactic
import Derived.BigQuiet
import Derived.StillTailTactics
namespace Go.Proofs.YtehibigjdbpikaaGreatDoor
open Go.RowKit

namespace Sp
theorem tmod_lt {d n : Int} (h : n ≠ 0) : (d.tmod n).natAbs < n.natAbs := by
  rw [Int.natAbs_tmod]
  exact Nat.mod_lt _ (by omega)
theorem l1Max (x y : Int) (w : World) : Calls Tryz.prog 133 #[.int .i64 x, .int .i64 y] w fun e w' => e = .returned (.int .i64 (max x y)) ∧ w' = w := by
  by_cases h : x > y
  · rw [show max x y = x from by omega]
    go_enter Tryz.func133, Tryz.ntmps133
    go_wp2
    go_ret
    exact ⟨rfl, rfl⟩
  · rw [show max x y = y from by omega]
    go_enter Tryz.func133, Tryz.ntmps133
    go_wp2
    go_ret
    exact ⟨rfl, rfl⟩
theorem l3Abs (x : Int) (w : World) (h0 : x.natAbs ≤ 1000000000) : Calls Tryz.prog 103 #[.int .i64 x] w fun e w' => e = .returned (.int .i64 ((x.natAbs : Nat) : Int)) ∧ w' = w := by
  have hc := Sp.l1Max x (-x) w
  rw [show max x (-x) = ((x.natAbs : Nat) : Int) from by omega] at hc
  have e1 : IntKind.i64.wrap (-x) = -x := wrap_small (by omega) (by omega)
  generalize ((x.natAbs : Nat) : Int) = v at *
  have Hc := Lib.hid hc
  clear hc h0
  go_enter Tryz.func103, Tryz.ntmps103
  go_wp2_with fail
  refine Hc.out.mono ?_
  rintro e w1 ⟨rfl, hw⟩
  rw [hw]; clear hw w1
  go_wp2
  go_ret
  exact ⟨rfl, rfl⟩
set_option maxRecDepth 10000 in
set_option maxHeartbeats 400000 in
theorem l11Gcd (a b : Int) (w : World) (a0 : -1000 ≤ a) (a1 : a ≤ 1000) (b0 : -1000 ≤ b) (b1 : b ≤ 1000) :
    Calls Tryz.prog 97 #[.int .i64 a, .int .i64 b] w fun e w' => e = .returned (.int .i64 (Sl.g a b)) ∧ w' = w := by
  go_enter Tryz.func97, Tryz.ntmps97
  go_wp2
  go_loopw [0, 1, 5] (fun dv nv _ wr => ∃ d n : Int, dv = .int .i64 d ∧ nv = .int .i64 n ∧ -1000 ≤ d ∧ d ≤ 1000 ∧ -1000 ≤ n ∧ n ≤ 1000 ∧ Hid (Nat.gcd d.natAbs n.natAbs = Nat.gcd a.natAbs b.natAbs) ∧ wr = w) (fun _ nv _ _ => (intOf nv).natAbs)
  case atStart => exact ⟨a, b, rfl, rfl, a0, a1, b0, b1, Lib.hid rfl, rfl⟩
  case round =>
    obtain ⟨d, n, rfl, rfl, k0, k1, k2, k3, hg, hw⟩ := hrel
    rw [hw]; clear hw wr
    by_cases hn : n = 0
    · subst hn
      have t1 : ((0 : Int) != 0) = false := by decide
      have Hc := Lib.hid (Sp.l3Abs d w (by omega))
      have Hg := Lib.hid (show ((d.natAbs : Nat) : Int) = Sl.g a b by unfold Sl.g; rw [← hg.out]; simp)
      go_wp2_with fail
      refine Hc.out.mono ?_
      rintro e w1 ⟨rfl, hw⟩
      rw [hw]; clear hw w1
      go_wp2
      go_ret
      exact ⟨by rw [← Hg.out]; rfl, rfl⟩
    · have t1 : (n != 0) = true := by simp [hn]
      have hlt2 := Sp.tmod_lt (d := d) hn
      have hgs := Tw.gcd_step d n
      obtain ⟨r, hr⟩ : ∃ r, d.tmod n = r := ⟨_, rfl⟩
      rw [hr] at hlt2 hgs
      have e1 : IntKind.i64.wrap (d.tmod n) = r := by rw [hr]; exact wrap_small (by omega) (by omega)
      have Hgs := Lib.hid hgs; have Hlt2 := Lib.hid hlt2
      have r0 : -1000 ≤ r := by omega
      have r1 : r ≤ 1000 := by omega
      clear hgs hlt2
      go_wp2
      go_roundw
      case rel => exact ⟨n, r, rfl, by first | rfl | simp [e1] | (rw [hr]), k2, k3, r0, r1, Lib.hid (by rw [Hgs.out]; exact hg.out), by first | rfl | trivial⟩
      case measure => have := Hlt2.out; simp [intOf]; omega
end Sp
set_option maxRecDepth 10000 in
set_option maxHeartbeats 1000000 in
theorem spec_IsSlope (x y : Int) (w : World) :
    Calls Tryz.prog 55 #[.agg #[.int .i64 x, .int .i64 y]] w fun e w' => e = .returned (.bool (decide (Sl.Is x y))) ∧ Below w.heap.size w w' := by
  have hX := fun W => spec_l1In x (-1000) 1000 W
  have hY := fun W => spec_l1In y 0 1000 W
  have Hl := Lib.hid ((Below.refl w.heap.size w).alloc (Nat.le_refl _) (.cells #[.int .i64 x, .int .i64 y] 44))
  by_cases h1 : -1000 ≤ x ∧ x ≤ 1000
  · rw [decide_eq_true h1] at hX
    by_cases h2 : 0 ≤ y ∧ y ≤ 1000
    · rw [decide_eq_true h2] at hY
      have hG := fun W => Sp.l11Gcd x y W h1.1 h1.2 (by omega) h2.2
      by_cases h3 : y = 0 → x = 1
      · have hd : decide (Sl.Is x y) = (Sl.g x y == 1) := by
          rw [Bool.eq_iff_iff]
          simp only [decide_eq_true_eq, beq_iff_eq]
          unfold Sl.Is Sl.g
          exact ⟨fun h => by have := h.2.2.2; omega, fun h => ⟨h1, h2, h3, by omega⟩⟩
        rw [hd]
        generalize Sl.g x y = g at *
        have ht : (y == 0) = false ∨ ((y == 0) = true ∧ (x != 1) = false) := by
          by_cases h : y = 0
          · right; exact ⟨by simp [h], by simp [h3 h]⟩
          · left; simp [h]
        have HX := Lib.hid hX; have HY := Lib.hid hY; have HG := Lib.hid hG
        clear hX hY hG h1 h2 h3 hd
        rcases ht with ht | ⟨ht, ht2⟩
        all_goals
          go_enter Tryz.func55, Tryz.ntmps55
          go_wp2_with fail
          refine (HX.out _).mono ?_
          rintro e w1 ⟨rfl, hw⟩
          rw [hw]; clear hw w1
          go_wp2_with fail
          refine (HY.out _).mono ?_
          rintro e w1 ⟨rfl, hw⟩
          rw [hw]; clear hw w1
          go_wp2_with fail
          refine (HG.out _).mono ?_
          rintro e w1 ⟨rfl, hw⟩
          rw [hw]; clear hw w1
          go_wp2
          go_ret
          exact ⟨rfl, Hl.out⟩
      · rw [show decide (Sl.Is x y) = false from decide_eq_false fun h => h3 h.2.2.1]
        have ht : (y == 0) = true := by
          by_cases h : y = 0
          · simp [h]
          · exact absurd (fun k => absurd k h) h3
        have ht2 : (x != 1) = true := by
          by_cases h : x = 1
          · exact absurd (fun _ => h) h3
          · simp [h]
        have HX := Lib.hid hX; have HY := Lib.hid hY
        clear hX hY hG h1 h2 h3
        go_enter Tryz.func55, Tryz.ntmps55
        go_wp2_with fail
        refine (HX.out _).mono ?_
        rintro e w1 ⟨rfl, hw⟩
        rw [hw]; clear hw w1
        go_wp2_with fail
        refine (HY.out _).mono ?_
        rintro e w1 ⟨rfl, hw⟩
        rw [hw]; clear hw w1
        go_wp2
        go_ret
        exact ⟨rfl, Hl.out⟩
    · rw [decide_eq_false h2] at hY
      rw [show decide (Sl.Is x y) = false from decide_eq_false fun h => h2 h.2.1]
      have HX := Lib.hid hX; have HY := Lib.hid hY
      clear hX hY h1 h2
      go_enter Tryz.func55, Tryz.ntmps55
      go_wp2_with fail
      refine (HX.out _).mono ?_
      rintro e w1 ⟨rfl, hw⟩
      rw [hw]; clear hw w1
      go_wp2_with fail
      refine (HY.out _).mono ?_
      rintro e w1 ⟨rfl, hw⟩
      rw [hw]; clear hw w1
      go_wp2
      go_ret
      exact ⟨rfl, Hl.out⟩
  · rw [decide_eq_false h1] at hX
    rw [show decide (Sl.Is x y) = false from decide_eq_false fun h => h1 h.1]
    have HX := Lib.hid hX
    clear hX hY h1
    go_enter Tryz.func55, Tryz.ntmps55
    go_wp2_with fail
    refine (HX.out _).mono ?_
    rintro e w1 ⟨rfl, hw⟩
    rw [hw]; clear hw w1
    go_wp2
    go_ret
    exact ⟨rfl, Hl.out⟩
set_option maxRecDepth 10000 in
set_option maxHeartbeats 2000000 in
theorem spec_SlopeOf (p q : Int) (w : World) :
    Calls Tryz.prog 42 #[.int .i64 p, .int .i64 q] w fun e w' => GivesSl w (Sl.of p q) (decide (Sl.OfOk p q)) e w' := by
  have hX := fun W => spec_l1In p (-1000) 1000 W
  have hY := fun W => spec_l1In q (-1000) 1000 W
  have Hl := Lib.hid ((Below.refl w.heap.size w).alloc (Nat.le_refl _) (.cells #[.int .i64 0, .int .i64 0] 44))
  have HR := Lib.hid (Blk.new w 44 #[.int .i64 0, .int .i64 0])
  by_cases h1 : -1000 ≤ p ∧ p ≤ 1000
  · rw [decide_eq_true h1] at hX
    by_cases h2 : -1000 ≤ q ∧ q ≤ 1000
    · rw [decide_eq_true h2] at hY
      by_cases hz : p = 0 ∧ q = 0
      · obtain ⟨rfl, rfl⟩ := hz
        rw [Sl.of_bad (fun h => h.2.2 ⟨rfl, rfl⟩), decide_eq_false (fun h : Sl.OfOk 0 0 => h.2.2 ⟨rfl, rfl⟩)]
        have HX := Lib.hid hX; have HY := Lib.hid hY
        clear hX hY h1 h2
        go_enter Tryz.func42, Tryz.ntmps42
        go_wp2_with fail
        refine (HX.out _).mono ?_
        rintro e w1 ⟨rfl, hw⟩
        rw [hw]; clear hw w1
        go_wp2_with fail
        refine (HY.out _).mono ?_
        rintro e w1 ⟨rfl, hw⟩
        rw [hw]; clear hw w1
        go_wp2
        exact bodyPost_ret (results_cell_slot rfl _ _ w.heap.size 44 #[.int .i64 0, .int .i64 0] (0, 0) _ rfl HR.out Tryz.underlying44 rfl (by kernel_rfl)) rfl ⟨rfl, Hl.out⟩
      · have hok : Sl.OfOk p q := ⟨h1, h2, hz⟩
        have hz2 : (p == 0) = false ∨ ((p == 0) = true ∧ (q == 0) = false) := by
          by_cases h : p = 0
          · right; exact ⟨by simp [h], by simp; exact fun k => hz ⟨h, k⟩⟩
          · left; simp [h]
        have hG := fun W => Sp.l11Gcd p q W h1.1 h1.2 h2.1 h2.2
        have hgp := Sl.g_pos hz
        have hgl := Sl.g_le (p := p) (q := q) (by omega) (by omega)
        rw [decide_eq_true hok, show Sl.of p q = (p.tdiv (Sl.dv p q), q.tdiv (Sl.dv p q)) from if_pos hok]
        have hs : ((q < 0 ∨ (¬ q < 0 ∧ (q == 0) = true ∧ p < 0)) ∧ Sl.dv p q = -Sl.g p q) ∨ (((¬ q < 0 ∧ (q == 0) = false) ∨ (¬ q < 0 ∧ (q == 0) = true ∧ ¬ p < 0)) ∧ Sl.dv p q = Sl.g p q) := by
          unfold Sl.dv
          by_cases a : q < 0
          · left; exact ⟨Or.inl a, if_pos (Or.inl a)⟩
          · by_cases b : q = 0
            · by_cases c : p < 0
              · left; exact ⟨Or.inr ⟨a, by simp [b], c⟩, if_pos (Or.inr ⟨b, c⟩)⟩
              · right; exact ⟨Or.inr ⟨a, by simp [b], c⟩, if_neg fun h => h.elim a fun h => c h.2⟩
            · right; exact ⟨Or.inl ⟨a, by simp [b]⟩, if_neg fun h => h.elim a fun h => b h.1⟩
        generalize Sl.g p q = g at *
        generalize Sl.dv p q = d at *
        have HX := Lib.hid hX; have HY := Lib.hid hY; have HG := Lib.hid hG
        have h3 : p.natAbs ≤ 1000 := by omega
        have h4 : q.natAbs ≤ 1000 := by omega
        have b1 := @Sl.tdiv_small p d 1000 h3
        have b2 := @Sl.tdiv_small q d 1000 h4
        have e1 : IntKind.i64.wrap (p.tdiv d) = p.tdiv d := wrap_small (by omega) (by omega)
        have e2 : IntKind.i64.wrap (q.tdiv d) = q.tdiv d := wrap_small (by omega) (by omega)
        have e3 : IntKind.i64.wrap (-g) = -g := wrap_small (by omega) (by omega)
        have dn : ¬ d = 0 := by rcases hs with h | h <;> omega
        obtain ⟨X, hX1⟩ : ∃ X, p.tdiv d = X := ⟨_, rfl⟩
        obtain ⟨Y, hY1⟩ : ∃ Y, q.tdiv d = Y := ⟨_, rfl⟩
        rw [hX1] at e1 b1; rw [hY1] at e2 b2
        rw [hX1, hY1]
        clear hX hY hG h1 h2 hz hok h3 h4 b1 b2 hgp hgl
        rcases hs with ⟨hs, hd⟩ | ⟨hs, hd⟩
        · subst hd
          rcases hs with hs | ⟨hs, hs2, hs3⟩ <;> rcases hz2 with hz1 | ⟨hz1, hz3⟩
          all_goals
            first
            | (exfalso; rw [hs2] at hz3; exact absurd hz3 (by decide))
            | (go_enter Tryz.func42, Tryz.ntmps42
               go_wp2_with fail
               refine (HX.out _).mono ?_
               rintro e w1 ⟨rfl, hw⟩
               rw [hw]; clear hw w1
               go_wp2_with fail
               refine (HY.out _).mono ?_
               rintro e w1 ⟨rfl, hw⟩
               rw [hw]; clear hw w1
               go_wp2_with fail
               refine (HG.out _).mono ?_
               rintro e w1 ⟨rfl, hw⟩
               rw [hw]; clear hw w1
               go_wp2
               go_still_tail 7, (by kernel_rfl)
               change wpList _ _ _ _ _ (World.drew _)
               go_wp2
               exact bodyPost_ret (results_cell_slot rfl _ _ w.heap.size 44 #[.int .i64 X, .int .i64 Y] (0, 0) _ rfl (Blk.new w _ _).drew Tryz.underlying44 rfl (by kernel_rfl)) rfl ⟨rfl, Below.drew ((Below.refl w.heap.size w).alloc (Nat.le_refl _) _)⟩)
        · subst hd
          rcases hs with ⟨hs, hs2⟩ | ⟨hs, hs2, hs3⟩ <;> rcases hz2 with hz1 | ⟨hz1, hz3⟩
          all_goals
            first
            | (exfalso; rw [hs2] at hz3; exact absurd hz3 (by decide))
            | (go_enter Tryz.func42, Tryz.ntmps42
               go_wp2_with fail
               refine (HX.out _).mono ?_
               rintro e w1 ⟨rfl, hw⟩
               rw [hw]; clear hw w1
               go_wp2_with fail
               refine (HY.out _).mono ?_
               rintro e w1 ⟨rfl, hw⟩
               rw [hw]; clear hw w1
               go_wp2_with fail
               refine (HG.out _).mono ?_
               rintro e w1 ⟨rfl, hw⟩
               rw [hw]; clear hw w1
               go_wp2
               go_still_tail 7, (by kernel_rfl)
               change wpList _ _ _ _ _ (World.drew _)
               go_wp2
               exact bodyPost_ret (results_cell_slot rfl _ _ w.heap.size 44 #[.int .i64 X, .int .i64 Y] (0, 0) _ rfl (Blk.new w _ _).drew Tryz.underlying44 rfl (by kernel_rfl)) rfl ⟨rfl, Below.drew ((Below.refl w.heap.size w).alloc (Nat.le_refl _) _)⟩)
    · rw [decide_eq_false h2] at hY
      have hno : ¬ Sl.OfOk p q := fun h => h2 h.2.1
      rw [Sl.of_bad hno, decide_eq_false hno]
      have HX := Lib.hid hX; have HY := Lib.hid hY
      clear hX hY h1 h2 hno
      go_enter Tryz.func42, Tryz.ntmps42
      go_wp2_with fail
      refine (HX.out _).mono ?_
      rintro e w1 ⟨rfl, hw⟩
      rw [hw]; clear hw w1
      go_wp2_with fail
      refine (HY.out _).mono ?_
      rintro e w1 ⟨rfl, hw⟩
      rw [hw]; clear hw w1
      go_wp2
      exact bodyPost_ret (results_cell_slot rfl _ _ w.heap.size 44 #[.int .i64 0, .int .i64 0] (0, 0) _ rfl HR.out Tryz.underlying44 rfl (by kernel_rfl)) rfl ⟨rfl, Hl.out⟩
  · rw [decide_eq_false h1] at hX
    have hno : ¬ Sl.OfOk p q := fun h => h1 h.1
    rw [Sl.of_bad hno, decide_eq_false hno]
    have HX := Lib.hid hX
    clear hX hY h1 hno
    go_enter Tryz.func42, Tryz.ntmps42
    go_wp2_with fail
    refine (HX.out _).mono ?_
    rintro e w1 ⟨rfl, hw⟩
    rw [hw]; clear hw w1
    go_wp2
    exact bodyPost_ret (results_cell_slot rfl _ _ w.heap.size 44 #[.int .i64 0, .int .i64 0] (0, 0) _ rfl HR.out Tryz.underlying44 rfl (by kernel_rfl)) rfl ⟨rfl, Hl.out⟩
set_option maxRecDepth 10000 in
set_option maxHeartbeats 1000000 in
theorem spec_CrossNumber (x y p q : Int) (w : World) :
    Calls Tryz.prog 53 #[.agg #[.int .i64 x, .int .i64 y], .agg #[.int .i64 p, .int .i64 q]] w fun e w' => e = .returned (.int .i64 (Sl.crossN x y p q)) ∧ Below w.heap.size w w' := by
  obtain ⟨hA, hB, hl⟩ := two_box w x y p q
  have hX := fun W => spec_IsSlope x y W
  have hP := fun W => spec_IsSlope p q W
  have HA := Lib.hid hA; have HB := Lib.hid hB; have Hl := Lib.hid hl
  clear hA hB hl
  by_cases h1 : Sl.Is x y
  · rw [decide_eq_true h1] at hX
    by_cases h2 : Sl.Is p q
    · rw [decide_eq_true h2] at hP
      have hv : Sl.crossN x y p q = (((Sl.det x y p q).natAbs : Nat) : Int) := if_pos ⟨h1, h2⟩
      have hb := Sl.det_abs h1 h2
      have hS := fun W => Sp.l3Abs (Sl.det x y p q) W (by omega)
      rw [hv]
      generalize (((Sl.det x y p q).natAbs : Nat) : Int) = v at *
      unfold Sl.det at hS hb
      obtain ⟨M, hM⟩ : ∃ M, x * q = M := ⟨_, rfl⟩
      obtain ⟨K, hK⟩ : ∃ K, y * p = K := ⟨_, rfl⟩
      rw [hM, hK] at hS hb
      have e1 : IntKind.i64.wrap (x * q) = M := by rw [hM]; exact wrap_small (by omega) (by omega)
      have e2 : IntKind.i64.wrap (y * p) = K := by rw [hK]; exact wrap_small (by omega) (by omega)
      have e3 : IntKind.i64.wrap (M - K) = M - K := wrap_small (by omega) (by omega)
      have HX := Lib.hid hX; have HP := Lib.hid hP; have HS := Lib.hid hS
      clear hX hP hS hv h1 h2 hb hM hK
      go_enter Tryz.func53, Tryz.ntmps53
      go_wp2_with fail
      refine (HX.out _).mono ?_
      rintro e w1 ⟨rfl, hb⟩
      have hA := HA.out.below hb HA.out.lt
      have hB := HB.out.below hb HB.out.lt
      obtain ⟨_, _, _, _⟩ := hA.four
      obtain ⟨_, _, _, _⟩ := hB.four
      have hl := Hl.out.trans (hb.mono Hl.out.size)
      have HA := Lib.hid hA; have HB := Lib.hid hB; have Hl := Lib.hid hl
      clear hb hl hA hB
      go_wp2_with fail
      refine (HP.out _).mono ?_
      rintro e w2 ⟨rfl, hb⟩
      have hA := HA.out.below hb HA.out.lt
      have hB := HB.out.below hb HB.out.lt
      obtain ⟨_, _, _, _⟩ := hA.four
      obtain ⟨_, _, _, _⟩ := hB.four
      have hl := Hl.out.trans (hb.mono Hl.out.size)
      have HA := Lib.hid hA; have HB := Lib.hid hB; have Hl := Lib.hid hl
      clear hb hl hA hB
      go_wp2_with fail
      refine (HS.out _).mono ?_
      rintro e w3 ⟨rfl, hw⟩
      rw [hw]; clear hw w3
      go_wp2
      go_ret
      exact ⟨rfl, Hl.out⟩
    · rw [decide_eq_false h2] at hP
      rw [show Sl.crossN x y p q = -1 from if_neg fun h => h2 h.2]
      have HX := Lib.hid hX; have HP := Lib.hid hP
      clear hX hP h1 h2
      go_enter Tryz.func53, Tryz.ntmps53
      go_wp2_with fail
      refine (HX.out _).mono ?_
      rintro e w1 ⟨rfl, hb⟩
      have hA := HA.out.below hb HA.out.lt
      have hB := HB.out.below hb HB.out.lt
      obtain ⟨_, _, _, _⟩ := hA.four
      obtain ⟨_, _, _, _⟩ := hB.four
      have hl := Hl.out.trans (hb.mono Hl.out.size)
      have HA := Lib.hid hA; have HB := Lib.hid hB; have Hl := Lib.hid hl
      clear hb hl hA hB
      go_wp2_with fail
      refine (HP.out _).mono ?_
      rintro e w2 ⟨rfl, hb⟩
      have Hl3 := Lib.hid (Hl.out.trans (hb.mono Hl.out.size)); clear hb
      go_wp2
      go_ret
      exact ⟨rfl, Hl3.out⟩
  · rw [decide_eq_false h1] at hX
    rw [show Sl.crossN x y p q = -1 from if_neg fun h => h1 h.1]
    have HX := Lib.hid hX
    clear hX hP h1
    go_enter Tryz.func53, Tryz.ntmps53
    go_wp2_with fail
    refine (HX.out _).mono ?_
    rintro e w1 ⟨rfl, hb⟩
    have Hl3 := Lib.hid (Hl.out.trans (hb.mono Hl.out.size)); clear hb
    go_wp2
    go_ret
    exact ⟨rfl, Hl3.out⟩
set_option maxRecDepth 10000 in
set_option maxHeartbeats 1000000 in
theorem spec_SumSlope (x y p q : Int) (w : World) :
    Calls Tryz.prog 50 #[.agg #[.int .i64 x, .int .i64 y], .agg #[.int .i64 p, .int .i64 q]] w fun e w' => GivesSl w (Sl.sum x y p q) (decide (Sl.sumOk x y p q)) e w' := by
  obtain ⟨hA, hB, hR, hl⟩ := three_box w x y p q 0 0
  have hC := fun W => spec_CrossNumber x y p q W
  have hO := fun W => spec_SlopeOf (x + p) (y + q) W
  have HA := Lib.hid hA; have HB := Lib.hid hB; have HR := Lib.hid hR; have Hl := Lib.hid hl
  clear hA hB hR hl
  by_cases hc : Sl.crossN x y p q = 1
  · have hc1 : (Sl.crossN x y p q != 1) = false := by simp [hc]
    have hI : Sl.Is x y ∧ Sl.Is p q := Decidable.byContradiction fun k => by unfold Sl.crossN at hc; rw [if_neg k] at hc; exact absurd hc (by decide)
    have hb1 := hI.1.abs; have hb2 := hI.2.abs
    have e1 : IntKind.i64.wrap (x + p) = x + p := wrap_small (by omega) (by omega)
    have e2 : IntKind.i64.wrap (y + q) = y + q := wrap_small (by omega) (by omega)
    rw [show Sl.sum x y p q = Sl.of (x + p) (y + q) from if_pos hc, show decide (Sl.sumOk x y p q) = decide (Sl.OfOk (x + p) (y + q)) from decide_eq_decide.2 ⟨fun h => h.2, fun h => ⟨hc, h⟩⟩]
    generalize Sl.of (x + p) (y + q) = s at *
    generalize decide (Sl.OfOk (x + p) (y + q)) = b at *
    clear hc hI hb1 hb2
    generalize Sl.crossN x y p q = v at *
    have HC := Lib.hid hC; have HO := Lib.hid hO
    clear hC hO
    go_enter Tryz.func50, Tryz.ntmps50
    go_wp2_with fail
    refine (HC.out _).mono ?_
    rintro e w1 ⟨rfl, hb⟩
    have hA := HA.out.below hb HA.out.lt
    have hB := HB.out.below hb HB.out.lt
    have hR := HR.out.below hb HR.out.lt
    obtain ⟨_, _, _, _⟩ := hA.four
    obtain ⟨_, _, _, _⟩ := hB.four
    obtain ⟨_, _, _, _⟩ := hR.four
    have hl := Hl.out.trans (hb.mono Hl.out.size)
    have HA := Lib.hid hA; have HB := Lib.hid hB; have HR := Lib.hid hR; have Hl := Lib.hid hl
    clear hb hl hA hB hR
    go_wp2_with fail
    refine (HO.out _).mono ?_
    rintro e w2 ⟨rfl, hb⟩
    have hA := HA.out.below hb HA.out.lt
    have hB := HB.out.below hb HB.out.lt
    have hR := HR.out.below hb HR.out.lt
    obtain ⟨_, _, _, _⟩ := hA.four
    obtain ⟨_, _, _, _⟩ := hB.four
    obtain ⟨_, _, _, _⟩ := hR.four
    have hl := Hl.out.trans (hb.mono Hl.out.size)
    have HA := Lib.hid hA; have HB := Lib.hid hB; have HR := Lib.hid hR; have Hl := Lib.hid hl
    clear hb hl hA hB hR
    obtain ⟨_, _, _, _⟩ := (HR.out.alloc (.cells #[.int .i64 s.1, .int .i64 s.2] 44)).four
    go_wp2
    exact bodyPost_ret (results_cell_slot rfl _ _ (w.heap.size + 2) 44 #[.int .i64 s.1, .int .i64 s.2] (0, 0) _ rfl (HR.out.alloc _).put2 Tryz.underlying44 rfl (by kernel_rfl)) rfl ⟨rfl, below_put2 (Hl.out.alloc Hl.out.size _) (by omega) _ _⟩
  · have hc1 : (Sl.crossN x y p q != 1) = true := by simp [hc]
    rw [show Sl.sum x y p q = (0, 0) from if_neg hc, show decide (Sl.sumOk x y p q) = false from decide_eq_false fun h => hc h.1]
    clear hO hc
    generalize Sl.crossN x y p q = v at *
    have HC := Lib.hid hC
    clear hC
    go_enter Tryz.func50, Tryz.ntmps50
    go_wp2_with fail
    refine (HC.out _).mono ?_
    rintro e w1 ⟨rfl, hb⟩
    have hA := HA.out.below hb HA.out.lt
    have hB := HB.out.below hb HB.out.lt
    have hR := HR.out.below hb HR.out.lt
    obtain ⟨_, _, _, _⟩ := hA.four
    obtain ⟨_, _, _, _⟩ := hB.four
    obtain ⟨_, _, _, _⟩ := hR.four
    have hl := Hl.out.trans (hb.mono Hl.out.size)
    have HA := Lib.hid hA; have HB := Lib.hid hB; have HR := Lib.hid hR; have Hl := Lib.hid hl
    clear hb hl hA hB hR
    go_wp2
    exact bodyPost_ret (results_cell_slot rfl _ _ (w.heap.size + 2) 44 #[.int .i64 0, .int .i64 0] (0, 0) _ rfl HR.out.put2 Tryz.underlying44 rfl (by kernel_rfl)) rfl ⟨rfl, below_put2 Hl.out (by omega) _ _⟩
set_option maxRecDepth 10000 in
set_option maxHeartbeats 2000000 in
theorem spec_TwistSlope (x y p q k : Int) (w : World) :
    Calls Tryz.prog 48 #[.agg #[.int .i64 x, .int .i64 y], .agg #[.int .i64 p, .int .i64 q], .int .i64 k] w fun e w' => GivesSl w (Sl.twist x y p q k) (decide (Sl.twOk x y p q k)) e w' := by
  obtain ⟨hA, hB, hR, hl⟩ := three_box w x y p q 0 0
  have hX := fun W => spec_IsSlope x y W
  have hP := fun W => spec_IsSlope p q W
  have hK := fun W => spec_l1In k (-20) 20 W
  have HA := Lib.hid hA; have HB := Lib.hid hB; have HR := Lib.hid hR; have Hl := Lib.hid hl
  clear hA hB hR hl
  by_cases hin : Sl.TwIn x y p q k
  · have hO := fun W => spec_SlopeOf (p + Sl.times x y p q k * x) (q + Sl.times x y p q k * y) W
    have hin2 := hin
    obtain ⟨h1, h2, h3⟩ := hin2
    rw [decide_eq_true h1] at hX
    rw [decide_eq_true h2] at hP
    rw [decide_eq_true h3] at hK
    rw [show Sl.twist x y p q k = Sl.of (p + Sl.times x y p q k * x) (q + Sl.times x y p q k * y) from if_pos hin, show decide (Sl.twOk x y p q k) = decide (Sl.OfOk (p + Sl.times x y p q k * x) (q + Sl.times x y p q k * y)) from decide_eq_decide.2 ⟨fun h => h.2, fun h => ⟨hin, h⟩⟩]
    have hb1 := h1.abs; have hb2 := h2.abs
    have hdb := Sl.det_abs h2 h1
    have hnb := Sl.times_abs hin
    have htm : Sl.times x y p q k = k * Sl.det p q x y := rfl
    generalize Sl.times x y p q k = n at *
    unfold Sl.det at hdb htm
    obtain ⟨E, hE1⟩ : ∃ E, p * y = E := ⟨_, rfl⟩
    obtain ⟨F, hF1⟩ : ∃ F, q * x = F := ⟨_, rfl⟩
    rw [hE1, hF1] at hdb htm
    have f1 : IntKind.i64.wrap (p * y) = E := by rw [hE1]; exact wrap_small (by omega) (by omega)
    have f2 : IntKind.i64.wrap (q * x) = F := by rw [hF1]; exact wrap_small (by omega) (by omega)
    obtain ⟨D, hD⟩ : ∃ D, E - F = D := ⟨_, rfl⟩
    have f3 : IntKind.i64.wrap (E - F) = D := by rw [hD]; exact wrap_small (by omega) (by omega)
    rw [hD] at htm
    obtain ⟨M, hM⟩ : ∃ M, n * x = M := ⟨_, rfl⟩
    obtain ⟨K, hK1⟩ : ∃ K, n * y = K := ⟨_, rfl⟩
    rw [hM, hK1] at hO hnb ⊢
    have e0 : IntKind.i64.wrap (k * D) = n := by rw [← htm]; exact wrap_small (by omega) (by omega)
    have e1 : IntKind.i64.wrap (n * x) = M := by rw [hM]; exact wrap_small (by omega) (by omega)
    have e2 : IntKind.i64.wrap (n * y) = K := by rw [hK1]; exact wrap_small (by omega) (by omega)
    have e3 : IntKind.i64.wrap (p + M) = p + M := wrap_small (by omega) (by omega)
    have e4 : IntKind.i64.wrap (q + K) = q + K := wrap_small (by omega) (by omega)
    generalize Sl.of (p + M) (q + K) = s at *
    generalize decide (Sl.OfOk (p + M) (q + K)) = b at *
    have HX := Lib.hid hX; have HP := Lib.hid hP; have HO := Lib.hid hO; have HK := Lib.hid hK
    clear hX hP hO hK hin h1 h2 h3 hb1 hb2 hdb hnb htm hM hK1 hE1 hF1 hD
    go_enter Tryz.func48, Tryz.ntmps48
    go_wp2_with fail
    refine (HX.out _).mono ?_
    rintro e w1 ⟨rfl, hb⟩
    have hA := HA.out.below hb HA.out.lt
    have hB := HB.out.below hb HB.out.lt
    have hR := HR.out.below hb HR.out.lt
    obtain ⟨_, _, _, _⟩ := hA.four
    obtain ⟨_, _, _, _⟩ := hB.four
    obtain ⟨_, _, _, _⟩ := hR.four
    have hl := Hl.out.trans (hb.mono Hl.out.size)
    have HA := Lib.hid hA; have HB := Lib.hid hB; have HR := Lib.hid hR; have Hl := Lib.hid hl
    clear hb hl hA hB hR
    go_wp2_with fail
    refine (HP.out _).mono ?_
    rintro e w2 ⟨rfl, hb⟩
    have hA := HA.out.below hb HA.out.lt
    have hB := HB.out.below hb HB.out.lt
    have hR := HR.out.below hb HR.out.lt
    obtain ⟨_, _, _, _⟩ := hA.four
    obtain ⟨_, _, _, _⟩ := hB.four
    obtain ⟨_, _, _, _⟩ := hR.four
    have hl := Hl.out.trans (hb.mono Hl.out.size)
    have HA := Lib.hid hA; have HB := Lib.hid hB; have HR := Lib.hid hR; have Hl := Lib.hid hl
    clear hb hl hA hB hR
    go_wp2_with fail
    refine (HK.out _).mono ?_
    rintro e w3 ⟨rfl, hw⟩
    rw [hw]; clear hw w3
    go_wp2_with fail
    refine (HO.out _).mono ?_
    rintro e w4 ⟨rfl, hb⟩
    have hA := HA.out.below hb HA.out.lt
    have hB := HB.out.below hb HB.out.lt
    have hR := HR.out.below hb HR.out.lt
    obtain ⟨_, _, _, _⟩ := hA.four
    obtain ⟨_, _, _, _⟩ := hB.four
    obtain ⟨_, _, _, _⟩ := hR.four
    have hl := Hl.out.trans (hb.mono Hl.out.size)
    have HA := Lib.hid hA; have HB := Lib.hid hB; have HR := Lib.hid hR; have Hl := Lib.hid hl
    clear hb hl hA hB hR
    obtain ⟨_, _, _, _⟩ := (HR.out.alloc (.cells #[.int .i64 s.1, .int .i64 s.2] 44)).four
    go_wp2
    exact bodyPost_ret (results_cell_slot rfl _ _ (w.heap.size + 2) 44 #[.int .i64 s.1, .int .i64 s.2] (0, 0) _ rfl (HR.out.alloc _).put2 Tryz.underlying44 rfl (by kernel_rfl)) rfl ⟨rfl, below_put2 (Hl.out.alloc Hl.out.size _) (by omega) _ _⟩
  · rw [show Sl.twist x y p q k = (0, 0) from if_neg hin, show decide (Sl.twOk x y p q k) = false from decide_eq_false fun h => hin h.1]
    by_cases h1 : Sl.Is x y
    · rw [decide_eq_true h1] at hX
      by_cases h2 : Sl.Is p q
      · rw [decide_eq_true h2] at hP
        rw [decide_eq_false fun h => hin ⟨h1, h2, h⟩] at hK
        have HX := Lib.hid hX; have HP := Lib.hid hP; have HK := Lib.hid hK
        clear hX hP hK hin h1 h2
        go_enter Tryz.func48, Tryz.ntmps48
        go_wp2_with fail
        refine (HX.out _).mono ?_
        rintro e w1 ⟨rfl, hb⟩
        have hA := HA.out.below hb HA.out.lt
        have hB := HB.out.below hb HB.out.lt
        have hR := HR.out.below hb HR.out.lt
        obtain ⟨_, _, _, _⟩ := hA.four
        obtain ⟨_, _, _, _⟩ := hB.four
        obtain ⟨_, _, _, _⟩ := hR.four
        have hl := Hl.out.trans (hb.mono Hl.out.size)
        have HA := Lib.hid hA; have HB := Lib.hid hB; have HR := Lib.hid hR; have Hl := Lib.hid hl
        clear hb hl hA hB hR
        go_wp2_with fail
        refine (HP.out _).mono ?_
        rintro e w2 ⟨rfl, hb⟩
        have hA := HA.out.below hb HA.out.lt
        have hB := HB.out.below hb HB.out.lt
        have hR := HR.out.below hb HR.out.lt
        obtain ⟨_, _, _, _⟩ := hA.four
        obtain ⟨_, _, _, _⟩ := hB.four
        obtain ⟨_, _, _, _⟩ := hR.four
        have hl := Hl.out.trans (hb.mono Hl.out.size)
        have HA := Lib.hid hA; have HB := Lib.hid hB; have HR := Lib.hid hR; have Hl := Lib.hid hl
        clear hb hl hA hB hR
        go_wp2_with fail
        refine (HK.out _).mono ?_
        rintro e w3 ⟨rfl, hw⟩
        rw [hw]; clear hw w3
        go_wp2
        exact bodyPost_ret (results_cell_slot rfl _ _ (w.heap.size + 2) 44 #[.int .i64 0, .int .i64 0] (0, 0) _ rfl HR.out.put2 Tryz.underlying44 rfl (by kernel_rfl)) rfl ⟨rfl, below_put2 Hl.out (by omega) _ _⟩
      · rw [decide_eq_false h2] at hP
        have HX := Lib.hid hX; have HP := Lib.hid hP
        clear hX hP hK hin h1 h2
        go_enter Tryz.func48, Tryz.ntmps48
        go_wp2_with fail
        refine (HX.out _).mono ?_
        rintro e w1 ⟨rfl, hb⟩
        have hA := HA.out.below hb HA.out.lt
        have hB := HB.out.below hb HB.out.lt
        have hR := HR.out.below hb HR.out.lt
        obtain ⟨_, _, _, _⟩ := hA.four
        obtain ⟨_, _, _, _⟩ := hB.four
        obtain ⟨_, _, _, _⟩ := hR.four
        have hl := Hl.out.trans (hb.mono Hl.out.size)
        have HA := Lib.hid hA; have HB := Lib.hid hB; have HR := Lib.hid hR; have Hl := Lib.hid hl
        clear hb hl hA hB hR
        go_wp2_with fail
        refine (HP.out _).mono ?_
        rintro e w2 ⟨rfl, hb⟩
        have hA := HA.out.below hb HA.out.lt
        have hB := HB.out.below hb HB.out.lt
        have hR := HR.out.below hb HR.out.lt
        obtain ⟨_, _, _, _⟩ := hA.four
        obtain ⟨_, _, _, _⟩ := hB.four
        obtain ⟨_, _, _, _⟩ := hR.four
        have hl := Hl.out.trans (hb.mono Hl.out.size)
        have HA := Lib.hid hA; have HB := Lib.hid hB; have HR := Lib.hid hR; have Hl := Lib.hid hl
        clear hb hl hA hB hR
        go_wp2
        exact bodyPost_ret (results_cell_slot rfl _ _ (w.heap.size + 2) 44 #[.int .i64 0, .int .i64 0] (0, 0) _ rfl HR.out.put2 Tryz.underlying44 rfl (by kernel_rfl)) rfl ⟨rfl, below_put2 Hl.out (by omega) _ _⟩
    · rw [decide_eq_false h1] at hX
      have HX := Lib.hid hX
      clear hX hP hK hin h1
      go_enter Tryz.func48, Tryz.ntmps48
      go_wp2_with fail
      refine (HX.out _).mono ?_
      rintro e w1 ⟨rfl, hb⟩
      have hA := HA.out.below hb HA.out.lt
      have hB := HB.out.below hb HB.out.lt
      have hR := HR.out.below hb HR.out.lt
      obtain ⟨_, _, _, _⟩ := hA.four
      obtain ⟨_, _, _, _⟩ := hB.four
      obtain ⟨_, _, _, _⟩ := hR.four
      have hl := Hl.out.trans (hb.mono Hl.out.size)
      have HA := Lib.hid hA; have HB := Lib.hid hB; have HR := Lib.hid hR; have Hl := Lib.hid hl
      clear hb hl hA hB hR
      go_wp2
      exact bodyPost_ret (results_cell_slot rfl _ _ (w.heap.size + 2) 44 #[.int .i64 0, .int .i64 0] (0, 0) _ rfl HR.out.put2 Tryz.underlying44 rfl (by kernel_rfl)) rfl ⟨rfl, below_put2 Hl.out (by omega) _ _⟩
end Go.Proofs.YtehibigjdbpikaaGreatDoor
