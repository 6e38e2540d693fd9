/-
  The walks of the program's divide, lowestTerms, SlopeOf and IsSlope.
-/
import Derived.Test.YtehibigjdbpikaaGreatDoorBase
import Derived.Test.YtehibigjdbpikaaGreatDoorSlice
import Derived.Test.YtehibigjdbpikaaGreatDoorIntRow
import Derived.Test.YtehibigjdbpikaaGreatDoorInts
import Derived.Test.YtehibigjdbpikaaGreatDoorTw
import Derived.Test.YtehibigjdbpikaaGreatDoorTwErr
import Derived.Test.YtehibigjdbpikaaGreatDoorSl
import Derived.Test.YtehibigjdbpikaaGreatDoorSlK
import Derived.Deep.QuietTactic
import Derived.BigQuiet
namespace Go.Proofs.YtehibigjdbpikaaGreatDoor
open Go.RowKit

set_option maxRecDepth 10000 in
set_option maxHeartbeats 400000 in
theorem impl_divide (n d : Int) (w : World) (n0 : n.natAbs ≤ 1000) (d0 : 1 ≤ d) (d1 : d ≤ 1000) :
    Calls Tryz.prog 128 #[.int .i64 n, .int .i64 d] w fun e w' => e = .returned (.tuple #[.int .i64 (Sl.quo n d), .int .i64 (Sl.rem n d)]) ∧ Below w.heap.size w w' := by
  have hs := @Sl.tmod_small n d d0
  have ht := @Sl.tdiv_small n d 1000 n0
  unfold Sl.quo Sl.rem
  obtain ⟨Q, hQ⟩ : ∃ Q, n.tdiv d = Q := ⟨_, rfl⟩
  obtain ⟨R, hR⟩ : ∃ R, n.tmod d = R := ⟨_, rfl⟩
  rw [hR] at hs; rw [hQ] at ht
  have e1 : IntKind.i64.wrap (n.tdiv d) = Q := by rw [hQ]; exact wrap_small (by omega) (by omega)
  have e2 : IntKind.i64.wrap (n.tmod d) = R := by rw [hR]; exact wrap_small (by omega) (by omega)
  have e3 : IntKind.i64.wrap (Q - 1) = Q - 1 := wrap_small (by omega) (by omega)
  have e4 : IntKind.i64.wrap (R + d) = R + d := wrap_small (by omega) (by omega)
  have dn : ¬ d = 0 := by omega
  rw [hQ, hR]
  clear hs ht hQ n0 e2
  by_cases hr : R < 0
  · rw [if_pos hr, if_pos hr]
    go_enter Tryz.func128, Tryz.ntmps128
    go_wp2
    go_quiet (fail)
    all_goals go_wp2
    all_goals
      go_ret2
      exact ⟨rfl, below_drewN (Below.refl _ _) _⟩
  · rw [if_neg hr, if_neg hr]
    go_enter Tryz.func128, Tryz.ntmps128
    go_wp2
    go_quiet (fail)
    all_goals go_wp2
    all_goals
      go_ret2
      exact ⟨rfl, below_drewN (Below.refl _ _) _⟩
set_option maxRecDepth 10000 in
set_option maxHeartbeats 400000 in
theorem impl_lowestTerms (k : Nat) : ∀ (p q : Int) (w : World), p.natAbs ≤ 1000 → 0 ≤ q → q ≤ 1000 → q.toNat ≤ k →
    Calls Tryz.prog 96 #[.int .i64 p, .int .i64 q] w fun e w' => e = .returned (.tuple #[.int .i64 (Sl.low p q).1, .int .i64 (Sl.low p q).2]) ∧ Below w.heap.size w w' := by
  induction k with
  | zero =>
    intro p q w hp h0 h1 hk
    obtain rfl : q = 0 := by omega
    rw [show Sl.low p 0 = (1, 0) from if_pos rfl]
    clear hp h0 h1 hk
    go_enter Tryz.func96, Tryz.ntmps96
    go_wp2
    go_ret2
    exact ⟨rfl, Below.refl _ _⟩
  | succ k ih =>
    intro p q w hp h0 h1 hk
    by_cases hq : q = 0
    · subst hq
      rw [show Sl.low p 0 = (1, 0) from if_pos rfl]
      clear hp h0 h1 hk ih
      go_enter Tryz.func96, Tryz.ntmps96
      go_wp2
      go_ret2
      exact ⟨rfl, Below.refl _ _⟩
    · have q1 : 1 ≤ q := by omega
      have hd := impl_divide p q w hp q1 h1
      have hqr := (Sl.quo_rem (n := p) q1).2
      have hqa := Sl.quo_abs (d := q) hp
      have hlb := Sl.low_bound (p := q) (q := Sl.rem p q) (by omega) hqr.1 (by omega)
      have hb := Sl.low_bound hp h0 h1
      have hi := fun W => ih q (Sl.rem p q) W (by omega) hqr.1 (by omega) (by omega)
      rw [Sl.low_rec q1] at hb ⊢
      generalize Sl.low q (Sl.rem p q) = L at *
      obtain ⟨x, y⟩ := L
      generalize Sl.quo p q = Q at *
      generalize Sl.rem p q = R at *
      dsimp only at hlb hb hi ⊢
      obtain ⟨M, hM⟩ : ∃ M, Q * x = M := ⟨_, rfl⟩
      rw [hM] at hb ⊢
      have e1 : IntKind.i64.wrap (Q * x) = M := by rw [hM]; exact wrap_small (by omega) (by omega)
      have e2 : IntKind.i64.wrap (M + y) = M + y := wrap_small (by omega) (by omega)
      have t0 : (q == 0) = false := by simp [hq]
      have HD := Lib.hid hd; have HI := Lib.hid hi
      clear hd hi ih hM hb hlb hqa hqr hp h0 h1 hk hq
      go_enter Tryz.func96, Tryz.ntmps96
      go_wp2_with fail
      refine HD.out.mono ?_
      rintro e w1 ⟨rfl, hb1⟩
      have Hb1 := Lib.hid hb1; clear hb1
      go_wp2_with fail
      refine (HI.out w1).mono ?_
      rintro e w2 ⟨rfl, hb2⟩
      have Hb2 := Lib.hid (Hb1.out.trans (hb2.mono Hb1.out.size)); clear hb2
      go_wp2
      go_ret2
      exact ⟨rfl, Hb2.out⟩

theorem Sl.fits {p q : Int} : Tw.Fits [p, q] ↔ (-1000 ≤ p ∧ p ≤ 1000) ∧ (-1000 ≤ q ∧ q ≤ 1000) := by
  unfold Tw.Fits
  constructor
  · intro h; exact ⟨h p (by simp), h q (by simp)⟩
  · intro h x hx
    simp only [List.mem_cons, List.not_mem_nil, or_false] at hx
    rcases hx with rfl | rfl
    · exact h.1
    · exact h.2
set_option maxRecDepth 10000 in
set_option maxHeartbeats 1000000 in
theorem impl_SlopeOf (p q : Int) (w : World) (hE : Errs w) :
    Calls Tryz.prog 41 #[.int .i64 p, .int .i64 q] w fun e w' => GivesSl w (Sl.of p q) (decide (Sl.OfOk p q)) e w' := by
  by_cases hz : p = 0 ∧ q = 0
  · obtain ⟨rfl, rfl⟩ := hz
    rw [Sl.of_bad (fun h => h.2.2 ⟨rfl, rfl⟩), decide_eq_false (fun h : Sl.OfOk 0 0 => h.2.2 ⟨rfl, rfl⟩)]
    clear hE
    go_enter Tryz.func41, Tryz.ntmps41
    go_wp2
    exact bodyPost_ret (results_cell_slot rfl _ _ w.heap.size 44 #[.int .i64 0, .int .i64 0] (0, 0) _ rfl (Blk.new w _ _) Tryz.underlying44 rfl (by kernel_rfl)) rfl ⟨rfl, (Below.refl w.heap.size w).alloc (Nat.le_refl _) _⟩
  · have HC := Lib.hid (show ∀ W : World, Below w.heap.size w W → RowAt W (some ⟨w.heap.size + 1, 0, none⟩) (intCells [p, q]) → Calls Tryz.prog 95 #[.slice (some ⟨w.heap.size + 1, 0, none⟩) 2 2] W fun e w' => e = .returned (.bool (!decide (Tw.Fits [p, q]))) ∧ Below W.heap.size W w' from
      fun W hb hr => impl_areTooGreat (some ⟨w.heap.size + 1, 0, none⟩) 2 [p, q] W (hE.keeps hb) hr (show 2 ≤ 9223372036854775807 by decide))
    have hrow : RowAt ((w.alloc (.cells #[.int .i64 0, .int .i64 0] 44)).alloc (.cells #[.int .i64 p, .int .i64 q] 3)) (some ⟨w.heap.size + 1, 0, none⟩) (intCells [p, q]) := by
      have h := Blk.at (size_alloc (rfl : w.heap.size = w.heap.size) (.cells #[.int .i64 0, .int .i64 0] 44)) 3 #[.int .i64 p, .int .i64 q]
      exact (Fresh.of_blk (cs := intCells [p, q]) h (Nat.le_refl _)).row
    have hbw : Below w.heap.size w ((w.alloc (.cells #[.int .i64 0, .int .i64 0] 44)).alloc (.cells #[.int .i64 p, .int .i64 q] 3)) := ((Below.refl w.heap.size w).alloc (Nat.le_refl _) _).alloc (by simp) _
    have hks : Blk ((w.alloc (.cells #[.int .i64 0, .int .i64 0] 44)).alloc (.cells #[.int .i64 p, .int .i64 q] 3)) w.heap.size 44 #[.int .i64 0, .int .i64 0] := (Blk.new w _ _).alloc _
    have Hrow := Lib.hid hrow; have Hbw := Lib.hid hbw; have Hks := Lib.hid hks
    clear hrow hbw hks hE
    have hz2 : (p == 0) = false ∨ ((p == 0) = true ∧ (q == 0) = false) := by
      by_cases h : p = 0
      · right; exact ⟨by simp [h], by simp; exact fun k => hz ⟨h, k⟩⟩
      · left; simp [h]
    by_cases hF : Tw.Fits [p, q]
    · rw [decide_eq_true hF] at HC
      have hb := Sl.fits.1 hF
      have hok : Sl.OfOk p q := ⟨hb.1, hb.2, hz⟩
      rw [decide_eq_true hok]
      by_cases hq : q < 0
      · rw [Sl.low_neg hok hq]
        have HL := Lib.hid (fun W => impl_lowestTerms 1000 (-p) (-q) W (by omega) (by omega) (by omega) (by omega))
        generalize Sl.low (-p) (-q) = L at *
        obtain ⟨x, y⟩ := L
        have e1 : IntKind.i64.wrap (-p) = -p := wrap_small (by omega) (by omega)
        have e2 : IntKind.i64.wrap (-q) = -q := wrap_small (by omega) (by omega)
        clear hb hok hF hz
        rcases hz2 with h1 | ⟨h1, h2⟩
        all_goals
          go_enter Tryz.func41, Tryz.ntmps41
          go_wp2_with fail
          refine (HC.out _ Hbw.out Hrow.out).mono ?_
          rintro e w1 ⟨rfl, hb1⟩
          have hK := Hks.out.below hb1 Hks.out.lt
          obtain ⟨_, _, _, _⟩ := hK.four
          have HK := Lib.hid hK; have Hb1 := Lib.hid (Hbw.out.trans (hb1.mono Hbw.out.size))
          clear hK hb1
          go_wp2_with fail
          refine (HL.out _).mono ?_
          rintro e w2 ⟨rfl, hb2⟩
          have hK := HK.out.below hb2 HK.out.lt
          obtain ⟨_, _, _, _⟩ := hK.four
          have HK := Lib.hid hK; have Hb1 := Lib.hid (Hb1.out.trans (hb2.mono Hb1.out.size))
          clear hK hb2
          go_wp2
          exact bodyPost_ret (results_cell_slot rfl _ _ w.heap.size 44 #[.int .i64 x, .int .i64 y] (0, 0) _ rfl HK.out.put2 Tryz.underlying44 rfl (by kernel_rfl)) rfl ⟨rfl, below_put2 Hb1.out (Nat.le_refl _) _ _⟩
      · rw [Sl.low_of hok (by omega)]
        have HL := Lib.hid (fun W => impl_lowestTerms 1000 p q W (by omega) (by omega) (by omega) (by omega))
        generalize Sl.low p q = L at *
        obtain ⟨x, y⟩ := L
        clear hb hok hF hz
        rcases hz2 with h1 | ⟨h1, h2⟩
        all_goals
          go_enter Tryz.func41, Tryz.ntmps41
          go_wp2_with fail
          refine (HC.out _ Hbw.out Hrow.out).mono ?_
          rintro e w1 ⟨rfl, hb1⟩
          have hK := Hks.out.below hb1 Hks.out.lt
          obtain ⟨_, _, _, _⟩ := hK.four
          have HK := Lib.hid hK; have Hb1 := Lib.hid (Hbw.out.trans (hb1.mono Hbw.out.size))
          clear hK hb1
          go_wp2_with fail
          refine (HL.out _).mono ?_
          rintro e w2 ⟨rfl, hb2⟩
          have hK := HK.out.below hb2 HK.out.lt
          obtain ⟨_, _, _, _⟩ := hK.four
          have HK := Lib.hid hK; have Hb1 := Lib.hid (Hb1.out.trans (hb2.mono Hb1.out.size))
          clear hK hb2
          go_wp2
          exact bodyPost_ret (results_cell_slot rfl _ _ w.heap.size 44 #[.int .i64 x, .int .i64 y] (0, 0) _ rfl HK.out.put2 Tryz.underlying44 rfl (by kernel_rfl)) rfl ⟨rfl, below_put2 Hb1.out (Nat.le_refl _) _ _⟩
    · rw [decide_eq_false hF] at HC
      have hno : ¬ Sl.OfOk p q := fun h => hF (Sl.fits.2 ⟨h.1, h.2.1⟩)
      rw [Sl.of_bad hno, decide_eq_false hno]
      clear hno hF hz
      rcases hz2 with h1 | ⟨h1, h2⟩
      all_goals
        go_enter Tryz.func41, Tryz.ntmps41
        go_wp2_with fail
        refine (HC.out _ Hbw.out Hrow.out).mono ?_
        rintro e w1 ⟨rfl, hb1⟩
        have hK := Hks.out.below hb1 Hks.out.lt
        obtain ⟨_, _, _, _⟩ := hK.four
        have HK := Lib.hid hK; have Hb1 := Lib.hid (Hbw.out.trans (hb1.mono Hbw.out.size))
        clear hK hb1
        go_wp2
        exact bodyPost_ret (results_cell_slot rfl _ _ w.heap.size 44 #[.int .i64 0, .int .i64 0] (0, 0) _ rfl HK.out.put2 Tryz.underlying44 rfl (by kernel_rfl)) rfl ⟨rfl, below_put2 Hb1.out (Nat.le_refl _) _ _⟩
set_option maxRecDepth 10000 in
set_option maxHeartbeats 1000000 in
theorem impl_IsSlope (x y : Int) (w : World) (hE : Errs w) :
    Calls Tryz.prog 54 #[.agg #[.int .i64 x, .int .i64 y]] w fun e w' => e = .returned (.bool (decide (Sl.Is x y))) ∧ Below w.heap.size w w' := by
  have hbw : Below w.heap.size w (w.alloc (.cells #[.int .i64 x, .int .i64 y] 44)) := (Below.refl w.heap.size w).alloc (Nat.le_refl _) _
  have HC := Lib.hid (impl_SlopeOf x y (w.alloc (.cells #[.int .i64 x, .int .i64 y] 44)) (hE.keeps hbw))
  have Hbw := Lib.hid hbw
  have Hks := Lib.hid (Blk.new w 44 #[.int .i64 x, .int .i64 y])
  clear hbw hE
  by_cases hok : Sl.OfOk x y
  · have hd : decide (Sl.Is x y) = ((Sl.of x y).1 == x && (Sl.of x y).2 == y) := by
      rw [Sl.is_dec, decide_eq_true hok, Bool.true_and, Bool.eq_iff_iff]
      simp only [decide_eq_true_eq, Bool.and_eq_true, beq_iff_eq]
      exact ⟨fun h => by rw [h]; exact ⟨rfl, rfl⟩, fun h => Prod.ext h.1 h.2⟩
    rw [decide_eq_true hok] at HC
    rw [hd]
    clear hd hok
    generalize Sl.of x y = L at *
    obtain ⟨p, q⟩ := L
    have hq := fun W => slope_eql p q x y W
    dsimp only
    generalize hv : (p == x && q == y) = v at *
    clear hv
    go_enter Tryz.func54, Tryz.ntmps54
    go_wp2_with fail
    refine HC.out.mono ?_
    rintro e w1 ⟨rfl, hb1⟩
    have hK := Hks.out.below hb1 Hks.out.lt
    have hne : w.heap.size ≠ w1.heap.size := Nat.ne_of_lt hK.lt
    obtain ⟨_, _, _, _⟩ := (hK.alloc (.cells #[.int .i64 p, .int .i64 q] 44)).four
    obtain ⟨_, _, _, _⟩ := hK.four
    have Hb1 := Lib.hid (Hbw.out.trans (hb1.mono Hbw.out.size))
    clear hK hb1
    go_wp2
    go_ret
    exact ⟨rfl, Hb1.out.alloc Hb1.out.size _⟩
  · rw [decide_eq_false hok, Sl.of_bad hok] at HC
    rw [decide_eq_false fun h => hok (Sl.of_self h).1]
    clear hok
    go_enter Tryz.func54, Tryz.ntmps54
    go_wp2_with fail
    refine HC.out.mono ?_
    rintro e w1 ⟨rfl, hb1⟩
    have Hb1 := Lib.hid (Hbw.out.trans (hb1.mono Hbw.out.size))
    clear hb1
    go_wp2
    go_ret
    exact ⟨rfl, Hb1.out.alloc Hb1.out.size _⟩
end Go.Proofs.YtehibigjdbpikaaGreatDoor
