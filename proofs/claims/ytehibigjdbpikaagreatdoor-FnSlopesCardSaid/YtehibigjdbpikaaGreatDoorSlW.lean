/-
  The walks of SlopeWord, the program's and the model's.
-/
import Derived.Test.YtehibigjdbpikaaGreatDoorBase
import Derived.Test.YtehibigjdbpikaaGreatDoorSlice
import Derived.Test.YtehibigjdbpikaaGreatDoorIntRow
import Derived.Test.YtehibigjdbpikaaGreatDoorInts
import Derived.Test.YtehibigjdbpikaaGreatDoorOwn
import Derived.Test.YtehibigjdbpikaaGreatDoorRowI
import Derived.Test.YtehibigjdbpikaaGreatDoorTw
import Derived.Test.YtehibigjdbpikaaGreatDoorTwErr
import Derived.Test.YtehibigjdbpikaaGreatDoorSl
import Derived.Test.YtehibigjdbpikaaGreatDoorSlK
import Derived.Test.YtehibigjdbpikaaGreatDoorSlA
import Derived.Test.YtehibigjdbpikaaGreatDoorSlB
import Derived.Test.YtehibigjdbpikaaGreatDoorSlS
import Derived.Test.YtehibigjdbpikaaGreatDoorHeld
import Derived.Deep.QuietTactic
import Derived.Deep.RegionHeld3
import Derived.Deep.CutRange
import Derived.Deep.RegionWith
import Derived.BigQuiet
namespace Go.Proofs.YtehibigjdbpikaaGreatDoor
open Go.RowKit

theorem Sl.word_next {x y : Int} (h : Sl.WordOk x y) {i : Nat} (hi : i < Sl.len x y) : (Sl.word x y).take (i + 1) = (Sl.word x y).take i ++ [Sl.letter x.natAbs (Sl.len x y) i (Sl.sign x)] := by
  have hl : i < (Sl.word x y).length := by rw [Sl.word_len h]; exact hi
  rw [List.take_succ_eq_append_getElem hl]
  congr 2
  unfold Sl.word
  simp only [if_pos h, List.getElem_map, List.getElem_range]
theorem held_skip {P : Program} {Q : Exit → Act → World → Prop} {md : Region.Mode} {S : World → Prop} {i : Nat} {l0 r : List Oper} {oi : Oper} {f : Nat} {listed : Array Bool} {a : Act} {w : World} (hd : l0.drop i = oi :: r)
    (hb : (Region.noSelect l0.toArray && Region.free md l0.toArray listed i && (Region.ready md l0.toArray listed).contains i) = true)
    (hQ : ∀ c a w, Q (.panic c) (a.put oi.dst undef) w → Q (.panic c) a w) (hw : Region.wanted oi (yielded l0.toArray a.tmps) = false) (hS : S w)
    (h : wpAnyH P md l0.toArray Q S f (listed.setIfInBounds i true) (a.put oi.dst undef) w) : wpAnyH P md l0.toArray Q S (f + 1) listed a w := by
  simp only [Bool.and_eq_true] at hb
  exact wpAnyH_take (drop_at hd) hb.1.1 hb.1.2 hb.2 hQ (Or.inr ⟨hw, rfl⟩) hS h
theorem slot_go {w W W1 : World} {N : Nat} {x y : Int} {t : TypeId} (h : W.cell? ⟨N, 0, none⟩ = some (.int .i64 x) ∧ W.cell? ⟨N, 1, none⟩ = some (.int .i64 y) ∧ Blk W N t #[.int .i64 x, .int .i64 y] ∧ Below N w W) (hb : Below W.heap.size W W1) :
    W1.cell? ⟨N, 0, none⟩ = some (.int .i64 x) ∧ W1.cell? ⟨N, 1, none⟩ = some (.int .i64 y) ∧ Blk W1 N t #[.int .i64 x, .int .i64 y] ∧ Below N w W1 := by
  obtain ⟨_, _, hA, hl⟩ := h
  have hA' := hA.below hb hA.lt
  exact ⟨hA'.cell 0, hA'.cell 1, hA', hl.trans (hb.mono (Nat.le_of_lt hA.lt))⟩
theorem RowI.gives2 {w w1 wr : World} {ov : Value} {l : List Int} {b : Bool} (h : RowI w1 w1.heap.size wr ov l) (hl : Below w.heap.size w w1) : Gives2 w l b (.returned (.tuple #[ov, .bool b])) wr :=
  (own_gives (own_mono h.1 hl.size) rfl (hl.trans (h.2.mono hl.size))).with

set_option maxRecDepth 10000 in
set_option maxHeartbeats 4000000 in
theorem impl_SlopeWord (x y : Int) (w : World) (hE : Errs w) :
    Calls Tryz.prog 51 #[.agg #[.int .i64 x, .int .i64 y]] w fun e w' => Gives2 w (Sl.word x y) (decide (Sl.WordOk x y)) e w' := by
  have hI := fun W (hb : Below w.heap.size w W) => impl_IsSlope x y W (hE.keeps hb)
  have HA := Lib.hid (Blk.new w 44 #[.int .i64 x, .int .i64 y])
  have Hl := Lib.hid ((Below.refl w.heap.size w).alloc (Nat.le_refl _) (.cells #[.int .i64 x, .int .i64 y] 44))
  by_cases hs : Sl.Is x y
  · rw [decide_eq_true hs] at hI
    have HI := Lib.hid hI
    have hb0 := hs.abs
    have hy0 := hs.2.1.1
    obtain ⟨P, hP⟩ : ∃ P : Nat, x.natAbs = P := ⟨_, rfl⟩
    obtain ⟨Q, hQ⟩ : ∃ Q : Nat, y = (Q : Int) := ⟨y.toNat, by omega⟩
    subst hQ
    obtain ⟨n, hn⟩ : ∃ n : Nat, P + Q = n := ⟨_, rfl⟩
    have hlen : Sl.len x (Q : Int) = n := by unfold Sl.len; omega
    have e1 : IntKind.i64.wrap ((P : Int) + (Q : Int)) = (n : Int) := by rw [show (P : Int) + (Q : Int) = (n : Int) by omega]; exact wrap_small (by omega) (by omega)
    have hsg : (x < 0 ∧ IntKind.i64.wrap (-x) = (P : Int) ∧ Sl.sign x = -2) ∨ (¬ x < 0 ∧ x = (P : Int) ∧ Sl.sign x = 2) := by
      unfold Sl.sign
      by_cases h : x < 0
      · left; exact ⟨h, by rw [show -x = (P : Int) by omega]; exact wrap_small (by omega) (by omega), if_pos h⟩
      · right; exact ⟨h, by omega, if_neg h⟩
    clear hI hE
    by_cases h24 : n ≤ 24
    · have hok : Sl.WordOk x (Q : Int) := ⟨hs, by rw [hlen]; exact h24⟩
      have hL := Sl.word_len hok
      have hnx := fun i hi => Sl.word_next (i := i) hok hi
      rw [hlen] at hL hnx
      rw [hP] at hnx
      rw [decide_eq_true hok]
      generalize Sl.word x (Q : Int) = L at *
      generalize Sl.sign x = c at *
      have HL := Lib.hid hL; have HnX := Lib.hid hnx
      have hPn : P ≤ n := by omega
      have hgt : ¬ (n : Int) > 24 := by omega
      obtain ⟨i0, hi0, hz0, hz1, hz2⟩ := info_int_parts
      have Hi0 := Lib.hid hi0; have Hz0 := Lib.hid hz0; have Hz1 := Lib.hid hz1; have Hz2 := Lib.hid hz2
      clear hi0 hz0 hz1 hz2
      clear hL hnx hok hs hb0 hy0 hP hn hlen
      rcases hsg with ⟨hx, hx1, hc⟩ | ⟨hx, hx1, hc⟩
      · subst hc
        go_enter Tryz.func51, Tryz.ntmps51
        go_wp2_with fail
        refine (HI.out _ Hl.out).mono ?_
        rintro e w1 ⟨rfl, hb⟩
        have hA := HA.out.below hb HA.out.lt
        obtain ⟨_, _, _, _⟩ := hA.four
        have hl := Hl.out.trans (hb.mono Hl.out.size)
        have HA := Lib.hid hA; have Hl := Lib.hid hl
        clear hb hA hl
        go_wp2
        obtain ⟨N, hN0⟩ : ∃ N, w1.heap.size = N := ⟨_, rfl⟩
        have HN0 := Lib.hid hN0
        have R0 := Lib.hid (show RowI w1 N w1 (.slice none 0 0) [] from by rw [← hN0]; exact RowI.nil (Below.refl _ _))
        clear hN0
        go_loopw [7, 8, 25] (fun ov _ iv wr => ∃ i : Nat, i ≤ n ∧ iv = .int .i64 i ∧ Hid (RowI w1 N wr ov (L.take i)) ∧ Hid (N ≤ wr.heap.size)) (fun _ _ iv _ => n - (intOf iv).toNat)
        case atStart => exact ⟨0, by omega, rfl, R0, Lib.hid (by have := HN0.out; omega)⟩
        case round =>
          obtain ⟨i, hi, rfl, hR, hNr⟩ := hrel
          have htl : (L.take i).length = i := by rw [List.length_take, HL.out]; omega
          by_cases hlt : i < n
          · have hst := HnX.out i hlt
            obtain ⟨M, hM⟩ : ∃ M : Nat, i * P = M := ⟨_, rfl⟩
            have hMb : M ≤ 576 := by rw [← hM]; exact Nat.mul_le_mul (show i ≤ 24 by omega) (show P ≤ 24 by omega)
            obtain ⟨R, hRm⟩ : ∃ R : Nat, M % n = R := ⟨_, rfl⟩
            obtain ⟨D, hD⟩ : ∃ D : Nat, n - P = D := ⟨_, rfl⟩
            have f1 : IntKind.i64.wrap ((i : Int) * (P : Int)) = (M : Int) := by rw [← hM, ← Int.natCast_mul]; exact wrap_small (by omega) (by rw [hM]; omega)
            have f2 : (M : Int).tmod (n : Int) = (R : Int) := by rw [← hRm]; rfl
            have f2b : (M : Int) % (n : Int) = (R : Int) := by rw [← hRm]; rfl
            have f3 : IntKind.i64.wrap ((n : Int) - (P : Int)) = (D : Int) := by rw [show (n : Int) - (P : Int) = (D : Int) by omega]; exact wrap_small (by omega) (by omega)
            have f4 : ¬ n = 0 := by omega
            have f5 : ¬ (n : Int) = 0 := by omega
            unfold Sl.letter at hst
            rw [hM, hRm, hD] at hst
            have hown := hR.out.1
            rw [htl] at hown
            have hN := hNr.out
            obtain ⟨ova, ovc, hov⟩ := own_len hown
            subst hov
            have hRR := hR.out
            have hm1 : i + 1 ≤ maxLen := by unfold maxLen; omega
            have hm2 : (i + 1) * 8 ≤ 140737488355328 := by omega
            have Hown := Lib.hid hown
            by_cases ht : D ≤ R
            · rw [if_pos ht] at hst
              have ht2 : (R : Int) ≥ (D : Int) := by omega
              have Hmore := Lib.hid (fun (w3 : World) (v3 : Value) (k1 : w3.ownsRow N 3 1 v3 ((L.take i).length + 1) (intCells (L.take i) ++ [.int .i64 (-2)])) (k2 : (wr.alloc (.cells #[.int .i64 (-2)] 3)).grownBy w3 (Value.slice ova i ovc).ownBlock) => hRR.more hN k1 k2)
              rw [htl] at Hmore
              have Hst := Lib.hid hst
              clear hown hRR hst htl hM hRm hD hR
              go_wp2_with (at_builtin; refine append_one rfl (.tmp 37) (.tmp 39) 26 rfl N 3 i0 _ 8 Tryz.underlying26 Hi0.out Hz0.out Hz1.out Hz2.out (by rfl) _ _ _ rfl Hown.out (by rfl) _ rfl hm1 hm2 hN ?_; intro v1 w5 hown5 hg5 _; have Hown5 := Lib.hid hown5; have Hg5 := Lib.hid hg5; clear hown5 hg5)
              go_roundw
              case rel => exact ⟨i + 1, by omega, by go_num, Lib.hid (by rw [Hst.out]; exact Hmore.out w5 v1 Hown5.out Hg5.out), Lib.hid (by have h1 := (Hmore.out w5 v1 Hown5.out Hg5.out).2.size; have := HN0.out; omega)⟩
              case measure => simp [intOf]; omega
            · rw [if_neg ht] at hst
              have ht2 : ¬ (R : Int) ≥ (D : Int) := by omega
              have Hmore := Lib.hid (fun (w3 : World) (v3 : Value) (k1 : w3.ownsRow N 3 1 v3 ((L.take i).length + 1) (intCells (L.take i) ++ [.int .i64 1])) (k2 : (wr.alloc (.cells #[.int .i64 1] 3)).grownBy w3 (Value.slice ova i ovc).ownBlock) => hRR.more hN k1 k2)
              rw [htl] at Hmore
              have Hst := Lib.hid hst
              clear hown hRR hst htl hM hRm hD hR
              go_wp2_with (at_builtin; refine append_one rfl (.tmp 41) (.tmp 42) 26 rfl N 3 i0 _ 8 Tryz.underlying26 Hi0.out Hz0.out Hz1.out Hz2.out (by rfl) _ _ _ rfl Hown.out (by rfl) _ rfl hm1 hm2 hN ?_; intro v1 w5 hown5 hg5 _; have Hown5 := Lib.hid hown5; have Hg5 := Lib.hid hg5; clear hown5 hg5)
              go_roundw
              case rel => exact ⟨i + 1, by omega, by go_num, Lib.hid (by rw [Hst.out]; exact Hmore.out w5 v1 Hown5.out Hg5.out), Lib.hid (by have h1 := (Hmore.out w5 v1 Hown5.out Hg5.out).2.size; have := HN0.out; omega)⟩
              case measure => simp [intOf]; omega
          · obtain rfl : i = n := by omega
            rw [List.take_of_length_le (by rw [HL.out]; exact Nat.le_refl _)] at hR
            have hr2 := hR.out
            rw [← HN0.out] at hr2
            have Hr2 := Lib.hid hr2
            clear hr2 htl
            go_wp2
            go_ret2
            exact RowI.gives2 Hr2.out Hl.out
      · subst hc
        subst hx1
        go_enter Tryz.func51, Tryz.ntmps51
        go_wp2_with fail
        refine (HI.out _ Hl.out).mono ?_
        rintro e w1 ⟨rfl, hb⟩
        have hA := HA.out.below hb HA.out.lt
        obtain ⟨_, _, _, _⟩ := hA.four
        have hl := Hl.out.trans (hb.mono Hl.out.size)
        have HA := Lib.hid hA; have Hl := Lib.hid hl
        clear hb hA hl
        go_wp2
        obtain ⟨N, hN0⟩ : ∃ N, w1.heap.size = N := ⟨_, rfl⟩
        have HN0 := Lib.hid hN0
        have R0 := Lib.hid (show RowI w1 N w1 (.slice none 0 0) [] from by rw [← hN0]; exact RowI.nil (Below.refl _ _))
        clear hN0
        go_loopw [7, 8, 25] (fun ov _ iv wr => ∃ i : Nat, i ≤ n ∧ iv = .int .i64 i ∧ Hid (RowI w1 N wr ov (L.take i)) ∧ Hid (N ≤ wr.heap.size)) (fun _ _ iv _ => n - (intOf iv).toNat)
        case atStart => exact ⟨0, by omega, rfl, R0, Lib.hid (by have := HN0.out; omega)⟩
        case round =>
          obtain ⟨i, hi, rfl, hR, hNr⟩ := hrel
          have htl : (L.take i).length = i := by rw [List.length_take, HL.out]; omega
          by_cases hlt : i < n
          · have hst := HnX.out i hlt
            obtain ⟨M, hM⟩ : ∃ M : Nat, i * P = M := ⟨_, rfl⟩
            have hMb : M ≤ 576 := by rw [← hM]; exact Nat.mul_le_mul (show i ≤ 24 by omega) (show P ≤ 24 by omega)
            obtain ⟨R, hRm⟩ : ∃ R : Nat, M % n = R := ⟨_, rfl⟩
            obtain ⟨D, hD⟩ : ∃ D : Nat, n - P = D := ⟨_, rfl⟩
            have f1 : IntKind.i64.wrap ((i : Int) * (P : Int)) = (M : Int) := by rw [← hM, ← Int.natCast_mul]; exact wrap_small (by omega) (by rw [hM]; omega)
            have f2 : (M : Int).tmod (n : Int) = (R : Int) := by rw [← hRm]; rfl
            have f2b : (M : Int) % (n : Int) = (R : Int) := by rw [← hRm]; rfl
            have f3 : IntKind.i64.wrap ((n : Int) - (P : Int)) = (D : Int) := by rw [show (n : Int) - (P : Int) = (D : Int) by omega]; exact wrap_small (by omega) (by omega)
            have f4 : ¬ n = 0 := by omega
            have f5 : ¬ (n : Int) = 0 := by omega
            unfold Sl.letter at hst
            rw [hM, hRm, hD] at hst
            have hown := hR.out.1
            rw [htl] at hown
            have hN := hNr.out
            obtain ⟨ova, ovc, hov⟩ := own_len hown
            subst hov
            have hRR := hR.out
            have hm1 : i + 1 ≤ maxLen := by unfold maxLen; omega
            have hm2 : (i + 1) * 8 ≤ 140737488355328 := by omega
            have Hown := Lib.hid hown
            by_cases ht : D ≤ R
            · rw [if_pos ht] at hst
              have ht2 : (R : Int) ≥ (D : Int) := by omega
              have Hmore := Lib.hid (fun (w3 : World) (v3 : Value) (k1 : w3.ownsRow N 3 1 v3 ((L.take i).length + 1) (intCells (L.take i) ++ [.int .i64 (2)])) (k2 : (wr.alloc (.cells #[.int .i64 (2)] 3)).grownBy w3 (Value.slice ova i ovc).ownBlock) => hRR.more hN k1 k2)
              rw [htl] at Hmore
              have Hst := Lib.hid hst
              clear hown hRR hst htl hM hRm hD hR
              go_wp2_with (at_builtin; refine append_one rfl (.tmp 37) (.tmp 39) 26 rfl N 3 i0 _ 8 Tryz.underlying26 Hi0.out Hz0.out Hz1.out Hz2.out (by rfl) _ _ _ rfl Hown.out (by rfl) _ rfl hm1 hm2 hN ?_; intro v1 w5 hown5 hg5 _; have Hown5 := Lib.hid hown5; have Hg5 := Lib.hid hg5; clear hown5 hg5)
              go_roundw
              case rel => exact ⟨i + 1, by omega, by go_num, Lib.hid (by rw [Hst.out]; exact Hmore.out w5 v1 Hown5.out Hg5.out), Lib.hid (by have h1 := (Hmore.out w5 v1 Hown5.out Hg5.out).2.size; have := HN0.out; omega)⟩
              case measure => simp [intOf]; omega
            · rw [if_neg ht] at hst
              have ht2 : ¬ (R : Int) ≥ (D : Int) := by omega
              have Hmore := Lib.hid (fun (w3 : World) (v3 : Value) (k1 : w3.ownsRow N 3 1 v3 ((L.take i).length + 1) (intCells (L.take i) ++ [.int .i64 1])) (k2 : (wr.alloc (.cells #[.int .i64 1] 3)).grownBy w3 (Value.slice ova i ovc).ownBlock) => hRR.more hN k1 k2)
              rw [htl] at Hmore
              have Hst := Lib.hid hst
              clear hown hRR hst htl hM hRm hD hR
              go_wp2_with (at_builtin; refine append_one rfl (.tmp 41) (.tmp 42) 26 rfl N 3 i0 _ 8 Tryz.underlying26 Hi0.out Hz0.out Hz1.out Hz2.out (by rfl) _ _ _ rfl Hown.out (by rfl) _ rfl hm1 hm2 hN ?_; intro v1 w5 hown5 hg5 _; have Hown5 := Lib.hid hown5; have Hg5 := Lib.hid hg5; clear hown5 hg5)
              go_roundw
              case rel => exact ⟨i + 1, by omega, by go_num, Lib.hid (by rw [Hst.out]; exact Hmore.out w5 v1 Hown5.out Hg5.out), Lib.hid (by have h1 := (Hmore.out w5 v1 Hown5.out Hg5.out).2.size; have := HN0.out; omega)⟩
              case measure => simp [intOf]; omega
          · obtain rfl : i = n := by omega
            rw [List.take_of_length_le (by rw [HL.out]; exact Nat.le_refl _)] at hR
            have hr2 := hR.out
            rw [← HN0.out] at hr2
            have Hr2 := Lib.hid hr2
            clear hr2 htl
            go_wp2
            go_ret2
            exact RowI.gives2 Hr2.out Hl.out
    · have hno : ¬ Sl.WordOk x (Q : Int) := fun h => h24 (by have := h.2; rw [hlen] at this; exact this)
      rw [show Sl.word x (Q : Int) = [] from if_neg hno, decide_eq_false hno]
      have hgt : (n : Int) > 24 := by omega
      clear hno hs hb0 hy0 hP hn hlen
      generalize Sl.sign x = c at *
      rcases hsg with ⟨hx, hx1, hc⟩ | ⟨hx, hx1, hc⟩
      all_goals
        try subst hx1
        go_enter Tryz.func51, Tryz.ntmps51
        go_wp2_with fail
        refine (HI.out _ Hl.out).mono ?_
        rintro e w1 ⟨rfl, hb⟩
        have hA := HA.out.below hb HA.out.lt
        obtain ⟨_, _, _, _⟩ := hA.four
        have hl := Hl.out.trans (hb.mono Hl.out.size)
        have HA := Lib.hid hA; have Hl := Lib.hid hl
        clear hb hA hl
        go_wp2
        go_ret2
        exact Gives2.none Hl.out
  · rw [decide_eq_false hs] at hI
    have hno : ¬ Sl.WordOk x y := fun h => hs h.1
    rw [show Sl.word x y = [] from if_neg hno, decide_eq_false hno]
    have HI := Lib.hid hI
    clear hI hno hs hE
    go_enter Tryz.func51, Tryz.ntmps51
    go_wp2_with fail
    refine (HI.out _ Hl.out).mono ?_
    rintro e w1 ⟨rfl, hb⟩
    have hA := HA.out.below hb HA.out.lt
    obtain ⟨_, _, _, _⟩ := hA.four
    have hl := Hl.out.trans (hb.mono Hl.out.size)
    have HA := Lib.hid hA; have Hl := Lib.hid hl
    clear hb hA hl
    go_wp2
    go_ret2
    exact Gives2.none Hl.out
theorem Gives2.nilAt2 {w w' : World} {b : Bool} {a : Option Addr} (hb : Below w.heap.size w w') : Gives2 w [] b (.returned (.tuple #[.slice a 0 0, .bool b])) w' := ⟨_, _, rfl, Nat.le_refl _, Nat.zero_le _, Or.inl rfl, hb⟩
set_option maxRecDepth 10000 in
set_option maxHeartbeats 4000000 in
theorem spec_SlopeWord (x y : Int) (w : World) :
    Calls Tryz.prog 52 #[.agg #[.int .i64 x, .int .i64 y]] w fun e w' => Gives2 w (Sl.word x y) (decide (Sl.WordOk x y)) e w' := by
  have hI := fun W (hb : Below w.heap.size w W) => spec_IsSlope x y W
  have HA := Lib.hid (Blk.new w 44 #[.int .i64 x, .int .i64 y])
  have Hl := Lib.hid ((Below.refl w.heap.size w).alloc (Nat.le_refl _) (.cells #[.int .i64 x, .int .i64 y] 44))
  by_cases hs : Sl.Is x y
  · rw [decide_eq_true hs] at hI
    have HI := Lib.hid hI
    have hb0 := hs.abs
    have hy0 := hs.2.1.1
    obtain ⟨P, hP⟩ : ∃ P : Nat, x.natAbs = P := ⟨_, rfl⟩
    obtain ⟨Q, hQ⟩ : ∃ Q : Nat, y = (Q : Int) := ⟨y.toNat, by omega⟩
    subst hQ
    obtain ⟨n, hn⟩ : ∃ n : Nat, P + Q = n := ⟨_, rfl⟩
    have hlen : Sl.len x (Q : Int) = n := by unfold Sl.len; omega
    have hab := fun W => Sp.l3Abs x W (by omega)
    rw [hP] at hab
    have e1 : IntKind.i64.wrap ((P : Int) + (Q : Int)) = (n : Int) := by rw [show (P : Int) + (Q : Int) = (n : Int) by omega]; exact wrap_small (by omega) (by omega)
    have Hab := Lib.hid hab
    clear hI hab
    generalize hNb : w.heap.size = B at *
    have HNb := Lib.hid hNb
    have hS0 := And.intro (HA.out.cell 0) (And.intro (HA.out.cell 1) (And.intro HA.out Hl.out))
    by_cases h24 : n ≤ 24
    · have hok : Sl.WordOk x (Q : Int) := ⟨hs, by rw [hlen]; exact h24⟩
      have hL := Sl.word_len hok
      have hnx := fun i hi => Sl.word_next (i := i) hok hi
      rw [hlen] at hL hnx
      rw [hP] at hnx
      rw [decide_eq_true hok]
      generalize Sl.word x (Q : Int) = L at *
      have HL := Lib.hid hL; have HnX := Lib.hid hnx
      have hPn : P ≤ n := by omega
      have hgt : ¬ (n : Int) > 24 := by omega
      obtain ⟨i0, hi0, hz0, hz1, hz2⟩ := info_int_parts
      have Hi0 := Lib.hid hi0; have Hz0 := Lib.hid hz0; have Hz1 := Lib.hid hz1; have Hz2 := Lib.hid hz2
      clear hi0 hz0 hz1 hz2
      clear hL hnx hok hs hb0 hy0 hP hn hlen
      go_enter Tryz.func52, Tryz.ntmps52
      go_upto_region 1 with fail
      go_cut [19] from 8 to 19 (fun s19 wx => s19 = .bool false ∧ wx.cell? ⟨B, 0, none⟩ = some (.int .i64 x) ∧ wx.cell? ⟨B, 1, none⟩ = some (.int .i64 (Q : Int)) ∧ Blk wx B 44 #[.int .i64 x, .int .i64 (Q : Int)] ∧ Below B w wx)
      case first =>
        go_region_held3 (fun w' => w'.cell? ⟨B, 0, none⟩ = some (.int .i64 x) ∧ w'.cell? ⟨B, 1, none⟩ = some (.int .i64 (Q : Int)) ∧ Blk w' B 44 #[.int .i64 x, .int .i64 (Q : Int)] ∧ Below B w w') (first | (with_reducible assumption) | (with_reducible exact slot_go hS0 (Below.drew (Below.refl _ _))) | (with_reducible exact slot_go hS0 (below_drewN (Below.refl _ _) _)))
          (first
          | (go_at_call 55; refine (HI.out _ (And.right (And.right (And.right (by assumption))))).mono ?_; rintro e w3 ⟨rfl, hb3⟩; have hS3 := slot_go (by assumption) hb3)
          | (go_at_call 103; refine (Hab.out _).mono ?_; rintro e w4 ⟨rfl, hw4⟩; rw [hw4]; clear hw4 w4))
        all_goals
          go_wp2_with fail
          go_meet
          exact ⟨by first | rfl | exact congrArg Value.bool (decide_eq_false (by omega)), by assumption⟩
      case rest =>
      obtain ⟨rfl, c0, c1, hA, hl⟩ := hcut
      have HA := Lib.hid hA; have Hl := Lib.hid hl
      clear hA hl hS0
      go_wp2_with fail
      refine (Hab.out _).mono ?_
      rintro e w4 ⟨rfl, hw4⟩
      rw [hw4]; clear hw4 w4
      go_wp2
      obtain ⟨N, hN0⟩ : ∃ N, wc.heap.size = N := ⟨_, rfl⟩
      have HN0 := Lib.hid hN0
      have R0 := Lib.hid (show RowI wc N (wc.alloc (.cells #[] 3)) (.slice (some ⟨wc.heap.size, 0, none⟩) 0 0) [] from by rw [← hN0]; exact RowI.made (Below.refl _ _) (Nat.le_refl _))
      have HBN := Lib.hid (show B < N by have := HA.out.lt; omega)
      have HA0 := Lib.hid (HA.out.alloc (.cells #[] 3))
      clear hN0
      go_loopw [6, 7] (fun ov iv wr => ∃ i : Nat, i ≤ n ∧ iv = .int .i64 i ∧ Hid (RowI wc N wr ov (L.take i)) ∧ Hid (N ≤ wr.heap.size) ∧ Hid (Blk wr B 44 #[.int .i64 x, .int .i64 (Q : Int)])) (fun _ iv _ => n - (intOf iv).toNat)
      case atStart => exact ⟨0, by omega, rfl, R0, Lib.hid (by have := HN0.out; simp; omega), HA0⟩
      case round =>
        obtain ⟨i, hi, rfl, hR, hNr, hAr⟩ := hrel
        have htl : (L.take i).length = i := by rw [List.length_take, HL.out]; omega
        obtain ⟨_, _, _, _⟩ := hAr.out.four
        by_cases hlt : i < n
        · have hst := HnX.out i hlt
          obtain ⟨M, hM⟩ : ∃ M : Nat, i * P = M := ⟨_, rfl⟩
          have hMb : M ≤ 576 := by rw [← hM]; exact Nat.mul_le_mul (show i ≤ 24 by omega) (show P ≤ 24 by omega)
          obtain ⟨R, hRm⟩ : ∃ R : Nat, M % n = R := ⟨_, rfl⟩
          obtain ⟨D, hD⟩ : ∃ D : Nat, n - P = D := ⟨_, rfl⟩
          have f1 : IntKind.i64.wrap ((i : Int) * (P : Int)) = (M : Int) := by rw [← hM, ← Int.natCast_mul]; exact wrap_small (by omega) (by rw [hM]; omega)
          have f2 : (M : Int).tmod (n : Int) = (R : Int) := by rw [← hRm]; rfl
          have f2b : (M : Int) % (n : Int) = (R : Int) := by rw [← hRm]; rfl
          have f3 : IntKind.i64.wrap ((n : Int) - (P : Int)) = (D : Int) := by rw [show (n : Int) - (P : Int) = (D : Int) by omega]; exact wrap_small (by omega) (by omega)
          have f4 : ¬ n = 0 := by omega
          have f5 : ¬ (n : Int) = 0 := by omega
          unfold Sl.letter at hst
          rw [hM, hRm, hD] at hst
          have hown := hR.out.1
          rw [htl] at hown
          have hN := hNr.out
          obtain ⟨ova, ovc, hov⟩ := own_len hown
          subst hov
          have hRR := hR.out
          have hm1 : i + 1 ≤ maxLen := by unfold maxLen; omega
          have hm2 : (i + 1) * 8 ≤ 140737488355328 := by omega
          have Hown := Lib.hid hown
          have Hkeep := Lib.hid (fun (o : Obj) (w3 : World) (k2 : (wr.alloc o).grownBy w3 (Value.slice ova i ovc).ownBlock) => (hAr.out.alloc o).grown k2 (fun e => by have h1 := (hown.lt _ e.symm).1; have h2 := HBN.out; omega))
          by_cases ht : D ≤ R
          · have ht2 : ¬ (R : Int) < (D : Int) := by omega
            by_cases hx : x < 0
            · rw [if_pos ht, show Sl.sign x = -2 from if_pos hx] at hst
              have Hmore := Lib.hid (fun (w3 : World) (v3 : Value) (k1 : w3.ownsRow N 3 1 v3 ((L.take i).length + 1) (intCells (L.take i) ++ [.int .i64 (-2)])) (k2 : (wr.alloc (.cells #[.int .i64 (-2)] 3)).grownBy w3 (Value.slice ova i ovc).ownBlock) => hRR.more hN k1 k2)
              rw [htl] at Hmore
              have Hst := Lib.hid hst
              clear hown hRR hst htl hM hRm hD hR
              go_wp2_with (at_builtin; refine append_one rfl (.tmp 54) (.tmp 55) 26 rfl N 3 i0 _ 8 Tryz.underlying26 Hi0.out Hz0.out Hz1.out Hz2.out (by rfl) _ _ _ rfl Hown.out (by rfl) _ rfl hm1 hm2 hN ?_; intro v1 w5 hown5 hg5 _; have Hown5 := Lib.hid hown5; have Hg5 := Lib.hid hg5; clear hown5 hg5)
              go_roundw
              case rel => exact ⟨i + 1, by omega, by go_num, Lib.hid (by rw [Hst.out]; exact Hmore.out w5 v1 Hown5.out Hg5.out), Lib.hid (by have h1 := (Hmore.out w5 v1 Hown5.out Hg5.out).2.size; have := HN0.out; omega), Lib.hid (Hkeep.out _ w5 Hg5.out)⟩
              case measure => simp [intOf]; omega
            · rw [if_pos ht, show Sl.sign x = 2 from if_neg hx] at hst
              have Hmore := Lib.hid (fun (w3 : World) (v3 : Value) (k1 : w3.ownsRow N 3 1 v3 ((L.take i).length + 1) (intCells (L.take i) ++ [.int .i64 2])) (k2 : (wr.alloc (.cells #[.int .i64 2] 3)).grownBy w3 (Value.slice ova i ovc).ownBlock) => hRR.more hN k1 k2)
              rw [htl] at Hmore
              have Hst := Lib.hid hst
              clear hown hRR hst htl hM hRm hD hR
              go_wp2_with (at_builtin; refine append_one rfl (.tmp 34) (.tmp 35) 26 rfl N 3 i0 _ 8 Tryz.underlying26 Hi0.out Hz0.out Hz1.out Hz2.out (by rfl) _ _ _ rfl Hown.out (by rfl) _ rfl hm1 hm2 hN ?_; intro v1 w5 hown5 hg5 _; have Hown5 := Lib.hid hown5; have Hg5 := Lib.hid hg5; clear hown5 hg5)
              go_roundw
              case rel => exact ⟨i + 1, by omega, by go_num, Lib.hid (by rw [Hst.out]; exact Hmore.out w5 v1 Hown5.out Hg5.out), Lib.hid (by have h1 := (Hmore.out w5 v1 Hown5.out Hg5.out).2.size; have := HN0.out; omega), Lib.hid (Hkeep.out _ w5 Hg5.out)⟩
              case measure => simp [intOf]; omega
          · have ht2 : (R : Int) < (D : Int) := by omega
            rw [if_neg ht] at hst
            have Hmore := Lib.hid (fun (w3 : World) (v3 : Value) (k1 : w3.ownsRow N 3 1 v3 ((L.take i).length + 1) (intCells (L.take i) ++ [.int .i64 1])) (k2 : (wr.alloc (.cells #[.int .i64 1] 3)).grownBy w3 (Value.slice ova i ovc).ownBlock) => hRR.more hN k1 k2)
            rw [htl] at Hmore
            have Hst := Lib.hid hst
            clear hown hRR hst htl hM hRm hD hR
            go_wp2_with (at_builtin; refine append_one rfl (.tmp 47) (.tmp 48) 26 rfl N 3 i0 _ 8 Tryz.underlying26 Hi0.out Hz0.out Hz1.out Hz2.out (by rfl) _ _ _ rfl Hown.out (by rfl) _ rfl hm1 hm2 hN ?_; intro v1 w5 hown5 hg5 _; have Hown5 := Lib.hid hown5; have Hg5 := Lib.hid hg5; clear hown5 hg5)
            go_roundw
            case rel => exact ⟨i + 1, by omega, by go_num, Lib.hid (by rw [Hst.out]; exact Hmore.out w5 v1 Hown5.out Hg5.out), Lib.hid (by have h1 := (Hmore.out w5 v1 Hown5.out Hg5.out).2.size; have := HN0.out; omega), Lib.hid (Hkeep.out _ w5 Hg5.out)⟩
            case measure => simp [intOf]; omega
        · obtain rfl : i = n := by omega
          rw [List.take_of_length_le (by rw [HL.out]; exact Nat.le_refl _)] at hR
          have hr2 := hR.out
          rw [← HN0.out] at hr2
          have Hr2 := Lib.hid hr2
          clear hr2 htl
          go_wp2
          go_ret2
          exact RowI.gives2 Hr2.out (by rw [HNb.out]; exact Hl.out)
    · have hno : ¬ Sl.WordOk x (Q : Int) := fun h => h24 (by have := h.2; rw [hlen] at this; exact this)
      rw [show Sl.word x (Q : Int) = [] from if_neg hno, decide_eq_false hno]
      have hgt : (n : Int) > 24 := by omega
      clear hno hs hb0 hy0 hP hn hlen
      go_enter Tryz.func52, Tryz.ntmps52
      go_upto_region 1 with fail
      go_cut [19] from 8 to 19 (fun s19 wx => s19 = .bool true ∧ Below B w wx)
      case first =>
        go_region_held3 (fun w' => w'.cell? ⟨B, 0, none⟩ = some (.int .i64 x) ∧ w'.cell? ⟨B, 1, none⟩ = some (.int .i64 (Q : Int)) ∧ Blk w' B 44 #[.int .i64 x, .int .i64 (Q : Int)] ∧ Below B w w') (first | (with_reducible assumption) | (with_reducible exact slot_go hS0 (Below.drew (Below.refl _ _))) | (with_reducible exact slot_go hS0 (below_drewN (Below.refl _ _) _)))
          (first
          | (go_at_call 55; refine (HI.out _ (And.right (And.right (And.right (by assumption))))).mono ?_; rintro e w3 ⟨rfl, hb3⟩; have hS3 := slot_go (by assumption) hb3)
          | (go_at_call 103; refine (Hab.out _).mono ?_; rintro e w4 ⟨rfl, hw4⟩; rw [hw4]; clear hw4 w4))
        all_goals
          go_wp2_with fail
          go_meet
          exact ⟨by first | rfl | exact congrArg Value.bool (decide_eq_true (by omega)), hS3.2.2.2⟩
      case rest =>
      obtain ⟨rfl, hl⟩ := hcut
      have Hl := Lib.hid hl
      clear hl hS0
      go_wp2
      go_ret2
      exact Gives2.nilAt2 (by rw [HNb.out]; exact Hl.out.alloc (by have := Hl.out.size; have := HNb.out; omega) _)
  · rw [decide_eq_false hs] at hI
    have hno : ¬ Sl.WordOk x y := fun h => hs h.1
    rw [show Sl.word x y = [] from if_neg hno, decide_eq_false hno]
    have HI := Lib.hid hI
    have hS0 := And.intro (HA.out.cell 0) (And.intro (HA.out.cell 1) (And.intro HA.out Hl.out))
    generalize hNb : w.heap.size = B at *
    have HNb := Lib.hid hNb
    clear hI hno hs
    go_enter Tryz.func52, Tryz.ntmps52
    go_upto_region 1 with fail
    go_cut [19] from 8 to 19 (fun s19 wx => s19 = .bool true ∧ Below B w wx)
    case first =>
      refine held_begin (S := fun w' => w'.cell? ⟨B, 0, none⟩ = some (.int .i64 x) ∧ w'.cell? ⟨B, 1, none⟩ = some (.int .i64 y) ∧ Blk w' B 44 #[.int .i64 x, .int .i64 y] ∧ Below B w w') 12 (by kernel_rfl) rfl ?_ (fun hHeld => ?_)
      · exact slot_go hS0 (Below.drew (Below.refl _ _))
      try simp only [Array.replicate]
      first | (refine held_take (i := 0) (v := ?_) rfl (by as_aux_lemma => kernel_rfl) (fun _ _ _ h => h) (by rfl) ?_ hHeld ?_; rotate_left; · (intro w' hSw; go_split_ands; go_simp; try with_reducible rfl)) | (refine held_skip (i := 0) rfl (by as_aux_lemma => kernel_rfl) (fun _ _ _ h => h) (by rfl) hHeld ?_)
      try simp only [Act.put, List.setIfInBounds_toArray, List.set_cons_zero, List.set_cons_succ]
      refine held_one (i := 1) rfl (by as_aux_lemma => kernel_rfl) (fun K hK => ?_)
      go_simp
      go_at_call 55
      refine (HI.out _ hHeld.2.2.2).mono ?_
      rintro e v1 ⟨rfl, hb1⟩
      have hS1 := slot_go hHeld hb1
      clear hb1 hHeld
      go_simp
      refine hK.out _ _ hS1 (fun hHeld1 => ?_)
      clear hK K hS1
      try simp only [Act.put, List.setIfInBounds_toArray, List.set_cons_zero, List.set_cons_succ]
      first | (refine held_take (i := 2) (v := ?_) rfl (by as_aux_lemma => kernel_rfl) (fun _ _ _ h => h) (by rfl) ?_ hHeld1 ?_; rotate_left; · (intro w' hSw; go_split_ands; go_simp; try with_reducible rfl)) | (refine held_skip (i := 2) rfl (by as_aux_lemma => kernel_rfl) (fun _ _ _ h => h) (by rfl) hHeld1 ?_)
      try simp only [Act.put, List.setIfInBounds_toArray, List.set_cons_zero, List.set_cons_succ]
      first | (refine held_take (i := 3) (v := ?_) rfl (by as_aux_lemma => kernel_rfl) (fun _ _ _ h => h) (by rfl) ?_ hHeld1 ?_; rotate_left; · (intro w' hSw; go_split_ands; go_simp; try with_reducible rfl)) | (refine held_skip (i := 3) rfl (by as_aux_lemma => kernel_rfl) (fun _ _ _ h => h) (by rfl) hHeld1 ?_)
      try simp only [Act.put, List.setIfInBounds_toArray, List.set_cons_zero, List.set_cons_succ]
      first | (refine held_take (i := 4) (v := ?_) rfl (by as_aux_lemma => kernel_rfl) (fun _ _ _ h => h) (by rfl) ?_ hHeld1 ?_; rotate_left; · (intro w' hSw; go_split_ands; go_simp; try with_reducible rfl)) | (refine held_skip (i := 4) rfl (by as_aux_lemma => kernel_rfl) (fun _ _ _ h => h) (by rfl) hHeld1 ?_)
      try simp only [Act.put, List.setIfInBounds_toArray, List.set_cons_zero, List.set_cons_succ]
      first | (refine held_take (i := 5) (v := ?_) rfl (by as_aux_lemma => kernel_rfl) (fun _ _ _ h => h) (by rfl) ?_ hHeld1 ?_; rotate_left; · (intro w' hSw; go_split_ands; go_simp; try with_reducible rfl)) | (refine held_skip (i := 5) rfl (by as_aux_lemma => kernel_rfl) (fun _ _ _ h => h) (by rfl) hHeld1 ?_)
      try simp only [Act.put, List.setIfInBounds_toArray, List.set_cons_zero, List.set_cons_succ]
      first | (refine held_take (i := 7) (v := ?_) rfl (by as_aux_lemma => kernel_rfl) (fun _ _ _ h => h) (by rfl) ?_ hHeld1 ?_; rotate_left; · (intro w' hSw; go_split_ands; go_simp; try with_reducible rfl)) | (refine held_skip (i := 7) rfl (by as_aux_lemma => kernel_rfl) (fun _ _ _ h => h) (by rfl) hHeld1 ?_)
      try simp only [Act.put, List.setIfInBounds_toArray, List.set_cons_zero, List.set_cons_succ]
      first | (refine held_take (i := 8) (v := ?_) rfl (by as_aux_lemma => kernel_rfl) (fun _ _ _ h => h) (by rfl) ?_ hHeld1 ?_; rotate_left; · (intro w' hSw; go_split_ands; go_simp; try with_reducible rfl)) | (refine held_skip (i := 8) rfl (by as_aux_lemma => kernel_rfl) (fun _ _ _ h => h) (by rfl) hHeld1 ?_)
      try simp only [Act.put, List.setIfInBounds_toArray, List.set_cons_zero, List.set_cons_succ]
      refine held_one (i := 6) rfl (by as_aux_lemma => kernel_rfl) (fun K hK => ?_)
      have hS6 := hHeld1
      clear hHeld1
      go_simp
      refine hK.out _ _ hS6 (fun hHeld6 => ?_)
      clear hK K hS6
      try simp only [Act.put, List.setIfInBounds_toArray, List.set_cons_zero, List.set_cons_succ]
      first | (refine held_take (i := 9) (v := ?_) rfl (by as_aux_lemma => kernel_rfl) (fun _ _ _ h => h) (by rfl) ?_ hHeld6 ?_; rotate_left; · (intro w' hSw; go_split_ands; go_simp; try with_reducible rfl)) | (refine held_skip (i := 9) rfl (by as_aux_lemma => kernel_rfl) (fun _ _ _ h => h) (by rfl) hHeld6 ?_)
      try simp only [Act.put, List.setIfInBounds_toArray, List.set_cons_zero, List.set_cons_succ]
      first | (refine held_take (i := 10) (v := ?_) rfl (by as_aux_lemma => kernel_rfl) (fun _ _ _ h => h) (by rfl) ?_ hHeld6 ?_; rotate_left; · (intro w' hSw; go_split_ands; go_simp; try with_reducible rfl)) | (refine held_skip (i := 10) rfl (by as_aux_lemma => kernel_rfl) (fun _ _ _ h => h) (by rfl) hHeld6 ?_)
      try simp only [Act.put, List.setIfInBounds_toArray, List.set_cons_zero, List.set_cons_succ]
      first | (refine held_take (i := 11) (v := ?_) rfl (by as_aux_lemma => kernel_rfl) (fun _ _ _ h => h) (by rfl) ?_ hHeld6 ?_; rotate_left; · (intro w' hSw; go_split_ands; go_simp; try with_reducible rfl)) | (refine held_skip (i := 11) rfl (by as_aux_lemma => kernel_rfl) (fun _ _ _ h => h) (by rfl) hHeld6 ?_)
      try simp only [Act.put, List.setIfInBounds_toArray, List.set_cons_zero, List.set_cons_succ]
      refine held_done (by as_aux_lemma => kernel_rfl) ?_
      go_wp2_with fail
      go_meet
      exact ⟨rfl, hHeld6.2.2.2⟩
    case rest =>
    obtain ⟨rfl, hl⟩ := hcut
    have Hl := Lib.hid hl
    clear hl hS0
    go_wp2
    go_ret2
    exact Gives2.nilAt2 (by rw [HNb.out]; exact Hl.out.alloc (by have := Hl.out.size; have := HNb.out; omega) _)
end Go.Proofs.YtehibigjdbpikaaGreatDoor
