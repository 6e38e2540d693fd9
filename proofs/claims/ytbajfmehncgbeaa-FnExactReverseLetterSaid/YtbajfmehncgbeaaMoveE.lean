/-
  The walks of the program's and the model's SwapLetters and ReverseLetter.
-/
import Derived.Test.YtbajfmehncgbeaaBase
import Derived.Test.YtbajfmehncgbeaaSlice
import Derived.Test.YtbajfmehncgbeaaIntRow
import Derived.Test.YtbajfmehncgbeaaInts
import Derived.Test.YtbajfmehncgbeaaOwn
import Derived.Test.YtbajfmehncgbeaaGrid
import Derived.Test.YtbajfmehncgbeaaGridWalk
import Derived.Test.YtbajfmehncgbeaaGridMark
import Derived.Test.YtbajfmehncgbeaaGridRows
import Derived.Test.YtbajfmehncgbeaaWord
import Derived.Test.YtbajfmehncgbeaaGlue
import Derived.Test.YtbajfmehncgbeaaIsWord
import Derived.Test.YtbajfmehncgbeaaUses
import Derived.Test.YtbajfmehncgbeaaIsGluing
import Derived.Test.YtbajfmehncgbeaaClass
import Derived.Test.YtbajfmehncgbeaaLab
import Derived.Test.YtbajfmehncgbeaaEnds
import Derived.Test.YtbajfmehncgbeaaMove
import Derived.Test.YtbajfmehncgbeaaMoveA
import Derived.Test.YtbajfmehncgbeaaMoveB
import Derived.Test.YtbajfmehncgbeaaMoveC
import Derived.Test.YtbajfmehncgbeaaMoveD
import Derived.Deep.QuietTactic
import Derived.BigQuiet
namespace Go.Proofs.Ytbajfmehncgbeaa
open Go.RowKit

theorem set_same {α : Type} {l : List α} {j : Nat} {x : α} (h : l[j]? = some x) : l.set j x = l := by
  obtain ⟨hj, rfl⟩ := List.getElem?_eq_some_iff.1 h
  exact List.set_getElem_self hj
theorem grid_letters {L : List (List Int)} (h : Glue.IsG L) : ∀ r ∈ L, ∀ s ∈ r, Word.Letter s := fun r hr s hs => (h.w r hr).1 s hs
theorem GridIn.gives {w w0 w' : World} {v : Value} {L : List (List Int)} {b : Bool} (hv : ∃ a c, v = .slice a L.length c ∧ L.length ≤ c ∧ c ≤ maxLen ∧ GridIn w' w0.heap.size w'.heap.size a L) (hs : w.heap.size ≤ w0.heap.size) (hb : Below w.heap.size w w') : GivesRows2 w L b (.returned (.tuple #[v, .bool b])) w' := by
  obtain ⟨a, c, rfl, h1, h2, h3⟩ := hv
  exact ⟨a, c, rfl, h1, h2, h3.mono hs (Nat.le_refl _), hb⟩
set_option maxRecDepth 10000 in
set_option maxHeartbeats 1000000 in
theorem impl_SwapLetters (a : Option Addr) (c : Nat) (L : List (List Int)) (x y : Int) (w : World) (ha : GridC w a L) (hl : tot L ≤ 1048576) (_hx0 : -9223372036854775808 ≤ x) (_hx1 : x ≤ 9223372036854775807) (_hy0 : -9223372036854775808 ≤ y) (_hy1 : y ≤ 9223372036854775807) :
    Calls Try.prog 26 #[.slice a L.length c, .int .i64 x, .int .i64 y] w fun e w' => GivesRows2 w (Mv.swap L x y) (decide (Mv.SwapOk L x y)) e w' := by
  have hB0 : Below w.heap.size w ((w.alloc (.cells #[.int .i64 x] 3)).alloc (.cells #[.int .i64 y] 3)) := ((Below.refl w.heap.size w).alloc (Nat.le_refl _) _).alloc (by simp) _
  have hK0 : Blk ((w.alloc (.cells #[.int .i64 x] 3)).alloc (.cells #[.int .i64 y] 3)) w.heap.size 3 #[.int .i64 x] := (Blk.new w _ _).alloc _
  have hK1 : Blk ((w.alloc (.cells #[.int .i64 x] 3)).alloc (.cells #[.int .i64 y] 3)) (w.heap.size + 1) 3 #[.int .i64 y] := by
    have h := Blk.new (w.alloc (.cells #[.int .i64 x] 3)) 3 #[.int .i64 y]
    rwa [show (w.alloc (.cells #[.int .i64 x] 3)).heap.size = w.heap.size + 1 by simp] at h

  have hG := impl_IsGluing a c L ((w.alloc (.cells #[.int .i64 x] 3)).alloc (.cells #[.int .i64 y] 3)) (ha.grid.below hB0) hl
  by_cases hg : Glue.IsG L
  · rw [decide_eq_true hg] at hG
    have hE0 := fun W => impl_isEdgeLetter x W
    by_cases e0 : Mv.EdgeLetter x
    · rw [decide_eq_true e0] at hE0
      have hE1 := fun W => impl_isEdgeLetter y W
      by_cases e1 : Mv.EdgeLetter y
      · rw [decide_eq_true e1] at hE1
        have hok : Mv.SwapOk L x y := ⟨hg, e0, e1⟩
        have hval : Mv.swap L x y = L.map (List.map (Mv.swp x y y x)) := if_pos hok
        rw [hval, decide_eq_true hok]
        have hC := fun W hW h0 h1 c0 c1 => impl_changeSides_swap a c L x y w.heap.size (w.heap.size + 1) W (ha.grid.below hW) hl (grid_letters hg) e0 e1 h0 h1 c0 c1
        generalize Mv.swp x y y x = f at *
        have HC := Lib.hid hC; clear hC hval hok
        have HG := Lib.hid hG; clear hG
        go_enter Try.func26, Try.ntmps26
        go_wp2_with fail
        refine HG.out.mono ?_
        rintro e w1 ⟨rfl, hb1⟩
        have hk0 := hK0.below hb1 hK0.lt
        have hc0 : w1.cell? ⟨w.heap.size, 0, none⟩ = some (.int .i64 x) := by rw [hk0.cell 0]; rfl
        have hk1 := hK1.below hb1 hK1.lt
        have hc1 : w1.cell? ⟨w.heap.size + 1, 0, none⟩ = some (.int .i64 y) := by rw [hk1.cell 0]; rfl
        go_wp2_with fail
        refine (hE0 _).mono ?_
        rintro e w9 ⟨rfl, hw9⟩
        rw [hw9]; clear hw9
        go_wp2_with fail
        refine (hE1 _).mono ?_
        rintro e w9 ⟨rfl, hw9⟩
        rw [hw9]; clear hw9
        go_wp2_with fail
        refine (HC.out w1 (hB0.trans (hb1.mono hB0.size)) hk0.lt hk1.lt hc0 hc1).mono ?_
        rintro e w2 ⟨v, rfl, hv, hb2⟩
        have Hv := Lib.hid hv; clear hv
        have hb3 := hB0.trans (hb1.mono hB0.size)
        have hb4 := hb3.trans (hb2.mono hb3.size)
        go_wp2
        go_ret2
        exact GridIn.gives Hv.out hb3.size hb4
      · rw [decide_eq_false e1] at hE1
        have hn : ¬ (Mv.SwapOk L x y) := fun h => e1 h.2.2
        have hval : Mv.swap L x y = [] := if_neg hn
        rw [hval, decide_eq_false hn]
        clear hval hn
        have HG := Lib.hid hG; clear hG
        go_enter Try.func26, Try.ntmps26
        go_wp2_with fail
        refine HG.out.mono ?_
        rintro e w1 ⟨rfl, hb1⟩
        have hk0 := hK0.below hb1 hK0.lt
        have hc0 : w1.cell? ⟨w.heap.size, 0, none⟩ = some (.int .i64 x) := by rw [hk0.cell 0]; rfl
        have hk1 := hK1.below hb1 hK1.lt
        have hc1 : w1.cell? ⟨w.heap.size + 1, 0, none⟩ = some (.int .i64 y) := by rw [hk1.cell 0]; rfl
        go_wp2_with fail
        refine (hE0 _).mono ?_
        rintro e w9 ⟨rfl, hw9⟩
        rw [hw9]; clear hw9
        go_wp2_with fail
        refine (hE1 _).mono ?_
        rintro e w9 ⟨rfl, hw9⟩
        rw [hw9]; clear hw9
        go_wp2
        go_ret2
        exact GivesRows2.none (hB0.trans (hb1.mono hB0.size)) (Nat.zero_le _)
    · rw [decide_eq_false e0] at hE0
      have hn : ¬ (Mv.SwapOk L x y) := fun h => e0 h.2.1
      have hval : Mv.swap L x y = [] := if_neg hn
      rw [hval, decide_eq_false hn]
      clear hval hn
      have HG := Lib.hid hG; clear hG
      go_enter Try.func26, Try.ntmps26
      go_wp2_with fail
      refine HG.out.mono ?_
      rintro e w1 ⟨rfl, hb1⟩
      have hk0 := hK0.below hb1 hK0.lt
      have hc0 : w1.cell? ⟨w.heap.size, 0, none⟩ = some (.int .i64 x) := by rw [hk0.cell 0]; rfl
      have hk1 := hK1.below hb1 hK1.lt
      have hc1 : w1.cell? ⟨w.heap.size + 1, 0, none⟩ = some (.int .i64 y) := by rw [hk1.cell 0]; rfl
      go_wp2_with fail
      refine (hE0 _).mono ?_
      rintro e w9 ⟨rfl, hw9⟩
      rw [hw9]; clear hw9
      go_wp2
      go_ret2
      exact GivesRows2.none (hB0.trans (hb1.mono hB0.size)) (Nat.zero_le _)
  · rw [decide_eq_false hg] at hG
    have hn : ¬ (Mv.SwapOk L x y) := fun h => hg h.1
    have hval : Mv.swap L x y = [] := if_neg hn
    rw [hval, decide_eq_false hn]
    clear hval hn
    have HG := Lib.hid hG; clear hG
    go_enter Try.func26, Try.ntmps26
    go_wp2_with fail
    refine HG.out.mono ?_
    rintro e w1 ⟨rfl, hb1⟩
    have hk0 := hK0.below hb1 hK0.lt
    have hc0 : w1.cell? ⟨w.heap.size, 0, none⟩ = some (.int .i64 x) := by rw [hk0.cell 0]; rfl
    have hk1 := hK1.below hb1 hK1.lt
    have hc1 : w1.cell? ⟨w.heap.size + 1, 0, none⟩ = some (.int .i64 y) := by rw [hk1.cell 0]; rfl
    go_wp2
    go_ret2
    exact GivesRows2.none (hB0.trans (hb1.mono hB0.size)) (Nat.zero_le _)
set_option maxRecDepth 10000 in
set_option maxHeartbeats 1000000 in
theorem impl_ReverseLetter (a : Option Addr) (c : Nat) (L : List (List Int)) (x : Int) (w : World) (ha : GridC w a L) (hl : tot L ≤ 1048576) (_hx0 : -9223372036854775808 ≤ x) (_hx1 : x ≤ 9223372036854775807) :
    Calls Try.prog 29 #[.slice a L.length c, .int .i64 x] w fun e w' => GivesRows2 w (Mv.rev L x) (decide (Mv.RevOk L x)) e w' := by
  have hB0 : Below w.heap.size w (w.alloc (.cells #[.int .i64 x] 3)) := (Below.refl w.heap.size w).alloc (Nat.le_refl _) _
  have hK0 : Blk (w.alloc (.cells #[.int .i64 x] 3)) w.heap.size 3 #[.int .i64 x] := Blk.new w _ _

  have hG := impl_IsGluing a c L (w.alloc (.cells #[.int .i64 x] 3)) (ha.grid.below hB0) hl
  by_cases hg : Glue.IsG L
  · rw [decide_eq_true hg] at hG
    have hE0 := fun W => impl_isEdgeLetter x W
    by_cases e0 : Mv.EdgeLetter x
    · rw [decide_eq_true e0] at hE0
      have hok : Mv.RevOk L x := ⟨hg, e0⟩
      have hval : Mv.rev L x = L.map (List.map (Mv.swp x (-x) x (-x))) := if_pos hok
      rw [hval, decide_eq_true hok]
      have hC := fun W hW h0 c0 => impl_changeSides_rev a c L x w.heap.size W (ha.grid.below hW) hl (grid_letters hg) e0 h0 c0
      generalize Mv.swp x (-x) x (-x) = f at *
      have HC := Lib.hid hC; clear hC hval hok
      have HG := Lib.hid hG; clear hG
      go_enter Try.func29, Try.ntmps29
      go_wp2_with fail
      refine HG.out.mono ?_
      rintro e w1 ⟨rfl, hb1⟩
      have hk0 := hK0.below hb1 hK0.lt
      have hc0 : w1.cell? ⟨w.heap.size, 0, none⟩ = some (.int .i64 x) := by rw [hk0.cell 0]; rfl
      go_wp2_with fail
      refine (hE0 _).mono ?_
      rintro e w9 ⟨rfl, hw9⟩
      rw [hw9]; clear hw9
      go_wp2_with fail
      refine (HC.out w1 (hB0.trans (hb1.mono hB0.size)) hk0.lt hc0).mono ?_
      rintro e w2 ⟨v, rfl, hv, hb2⟩
      have Hv := Lib.hid hv; clear hv
      have hb3 := hB0.trans (hb1.mono hB0.size)
      have hb4 := hb3.trans (hb2.mono hb3.size)
      go_wp2
      go_ret2
      exact GridIn.gives Hv.out hb3.size hb4
    · rw [decide_eq_false e0] at hE0
      have hn : ¬ (Mv.RevOk L x) := fun h => e0 h.2
      have hval : Mv.rev L x = [] := if_neg hn
      rw [hval, decide_eq_false hn]
      clear hval hn
      have HG := Lib.hid hG; clear hG
      go_enter Try.func29, Try.ntmps29
      go_wp2_with fail
      refine HG.out.mono ?_
      rintro e w1 ⟨rfl, hb1⟩
      have hk0 := hK0.below hb1 hK0.lt
      have hc0 : w1.cell? ⟨w.heap.size, 0, none⟩ = some (.int .i64 x) := by rw [hk0.cell 0]; rfl
      go_wp2_with fail
      refine (hE0 _).mono ?_
      rintro e w9 ⟨rfl, hw9⟩
      rw [hw9]; clear hw9
      go_wp2
      go_ret2
      exact GivesRows2.none (hB0.trans (hb1.mono hB0.size)) (Nat.zero_le _)
  · rw [decide_eq_false hg] at hG
    have hn : ¬ (Mv.RevOk L x) := fun h => hg h.1
    have hval : Mv.rev L x = [] := if_neg hn
    rw [hval, decide_eq_false hn]
    clear hval hn
    have HG := Lib.hid hG; clear hG
    go_enter Try.func29, Try.ntmps29
    go_wp2_with fail
    refine HG.out.mono ?_
    rintro e w1 ⟨rfl, hb1⟩
    have hk0 := hK0.below hb1 hK0.lt
    have hc0 : w1.cell? ⟨w.heap.size, 0, none⟩ = some (.int .i64 x) := by rw [hk0.cell 0]; rfl
    go_wp2
    go_ret2
    exact GivesRows2.none (hB0.trans (hb1.mono hB0.size)) (Nat.zero_le _)
theorem bit_true (W : World) : Calls Try.prog 54 #[.bool true] W fun e w' => e = .returned (.int .i64 1) ∧ w' = W := spec_l1Bit true W
theorem bit_false (W : World) : Calls Try.prog 54 #[.bool false] W fun e w' => e = .returned (.int .i64 0) ∧ w' = W := spec_l1Bit false W
theorem grid_none {w w1 : World} {L : List (List Int)} {b : Bool} (hb : Below w.heap.size w w1) (hL : L = []) : ∃ v, (Ending.returned (.tuple #[.slice (some ⟨w1.heap.size, 0, none⟩) 0 0, .bool b]) = .returned (.tuple #[v, .bool b])) ∧ (∃ a c, v = .slice a L.length c ∧ L.length ≤ c ∧ c ≤ maxLen ∧ GridIn (w1.alloc (.cells #[] 42)) w.heap.size (w1.alloc (.cells #[] 42)).heap.size a L) ∧ Below w.heap.size w (w1.alloc (.cells #[] 42)) := by
  subst hL
  exact ⟨_, rfl, ⟨_, _, rfl, Nat.le_refl _, Nat.zero_le _, GridIn.nil _ _ _ _⟩, hb.alloc hb.size _⟩
set_option maxRecDepth 10000 in
set_option maxHeartbeats 2000000 in
theorem spec_l5Swap (a : Option Addr) (c : Nat) (L : List (List Int)) (x A y B : Int) (w : World) (ha : GridAt w a L) (hl : tot L ≤ 1048576) (hA0 : -8 ≤ A) (hA1 : A ≤ 8) (hB0 : -8 ≤ B) (hB1 : B ≤ 8) (hok : Mv.SwapOk L x y) :
    Calls Try.prog 82 #[.slice a L.length c, .int .i64 x, .int .i64 A, .int .i64 y, .int .i64 B] w fun e w' => ∃ v, e = .returned (.tuple #[v, .bool true]) ∧ (∃ a c, v = .slice a (L.map (List.map (Mv.swp x A y B))).length c ∧ (L.map (List.map (Mv.swp x A y B))).length ≤ c ∧ c ≤ maxLen ∧ GridIn w' w.heap.size w'.heap.size a (L.map (List.map (Mv.swp x A y B)))) ∧ Below w.heap.size w w' := by
  have hG := spec_IsGluing a c L w ha hl
  obtain ⟨hg, hx, hy⟩ := hok
  have hX := fun W => spec_l1In x 1 8 W
  have hY := fun W => spec_l1In y 1 8 W
  rw [decide_eq_true hg] at hG
  rw [decide_eq_true (show 1 ≤ x ∧ x ≤ 8 from hx)] at hX
  rw [decide_eq_true (show 1 ≤ y ∧ y ≤ 8 from hy)] at hY
  have hC := fun W hW => spec_l5Copy a c L W (ha.below hW) hl
  have hln : L.length ≤ 4 := hg.2.1
  have h0L : 0 < L.length := hg.1
  have HG := Lib.hid hG; have HX := Lib.hid hX; have HY := Lib.hid hY; have HC := Lib.hid hC; have HL := Lib.hid (grid_letters hg); have HA := Lib.hid ha
  have HW := Lib.hid hg.w
  have Hf : Hid (∀ s, Mv.swp x A y B s = if (s.natAbs : Int) = x then Mv.sgn s * A else if (s.natAbs : Int) = y then Mv.sgn s * B else s) := Lib.hid (fun s => rfl)
  generalize Mv.swp x A y B = f at *
  generalize hN : w.heap.size = N at *
  have HN := Lib.hid hN
  clear hG hX hY hC ha hl hg hx hy hN
  go_enter Try.func82, Try.ntmps82
  go_wp2_with fail
  refine HG.out.mono ?_
  rintro e w1 ⟨rfl, hb1⟩
  have Hb1 := Lib.hid hb1; clear hb1
  go_wp2_with fail
  refine (HX.out _).mono ?_
  rintro e w9 ⟨rfl, hw9⟩
  rw [hw9]; clear hw9
  go_wp2_with fail
  refine (HY.out _).mono ?_
  rintro e w9 ⟨rfl, hw9⟩
  rw [hw9]; clear hw9
  go_wp2_with fail
  refine (HC.out _ Hb1.out).mono ?_
  rintro e w2 ⟨v, rfl, hh, hb2⟩
  have hN1 : N ≤ w1.heap.size := by have := Hb1.out.size; rw [HN.out] at this; exact this
  obtain ⟨G, cap, rfl, hG1, hG2, hcap, hcm⟩ := hh.form h0L
  obtain ⟨hs0, hm0, hd0⟩ := hh.hds
  have Hb2 := Lib.hid (Hb1.out.trans (hb2.mono hN1))
  have Hd0 := Lib.hid (show HdsIn w2 N w2.heap.size _ _ from ⟨hd0.1.mono hN1 (Nat.le_refl _), fun y hy => (hd0.2.1 y hy).mono hN1 (Nat.le_refl _), hd0.2.2⟩); have Hm0 := Lib.hid hm0; have Hcap := Lib.hid (And.intro hcap hcm)
  generalize hM : w2.heap.size = M at *
  have HM := Lib.hid hM
  clear hh hb2 hd0 hm0 hG1 hG2 hcap hcm hM
  go_wp2
  go_loopw [13, 14, 15] (fun iv _ _ wr => ∃ i : Nat, i ≤ L.length ∧ iv = .int .i64 i ∧ Hid (Below N w wr ∧ M ≤ wr.heap.size) ∧ ∃ hs, Hid (hs.map Hd.l = part (List.map f) L i ∧ HdsIn wr N M (some ⟨G, 0, none⟩) hs)) (fun iv _ _ _ => L.length - (intOf iv).toNat)
  case atStart => exact ⟨0, by omega, rfl, Lib.hid ⟨Hb2.out, Nat.le_of_eq HM.out.symm⟩, hs0, Lib.hid ⟨by rw [part_zero]; exact Hm0.out, Hd0.out⟩⟩
  case round =>
    obtain ⟨i, hi, rfl, hb, hs, hp⟩ := hrel
    by_cases hlt : i < L.length
    · obtain ⟨r, hr⟩ := get_some hlt
      obtain ⟨p, q, xa, xc, hsp, hpl, hxg⟩ := hds_split hp.out.1 (part_get (f := List.map f) hr)
      have Hr := Lib.hid hr; have Hsp := Lib.hid hsp; have Hpl := Lib.hid hpl
      have HLr := Lib.hid (HL.out r (get_mem hr))
      have hr24 : r.length ≤ 24 := (HW.out r (get_mem hr)).2
      obtain ⟨b, o, ai, ci, rfl, hbw, hcell0, hrow0⟩ := HA.out.get hr
      have Hcell0 := Lib.hid hcell0; have Hrow0 := Lib.hid hrow0
      have hbN : b < N := by rw [← HN.out]; exact hbw
      have hi0 : (0 : Int) ≤ (i : Int) := by omega
      have hi1 : (i : Int) < (L.length : Int) := by omega
      have Hp := Lib.hid (show HdsIn wr N M (some ⟨G, 0, none⟩) (p ++ ⟨xa, xc, part f r 0⟩ :: q) by rw [part_zero, ← Hsp.out]; exact hp.out.2)
      have H1 := Lib.hid hp.out.1
      clear hr hsp hpl hxg hcell0 hrow0 hp hbw
      go_wp2
      go_loopw [14, 15] (fun jv _ w3 => ∃ j : Nat, j ≤ r.length ∧ jv = .int .i64 j ∧ Hid (Below N w w3 ∧ M ≤ w3.heap.size) ∧ Hid (HdsIn w3 N M (some ⟨G, 0, none⟩) (p ++ ⟨xa, xc, part f r j⟩ :: q))) (fun jv _ _ => r.length - (intOf jv).toNat)
      case atStart => exact ⟨0, by omega, rfl, hb, Hp⟩
      case round =>
        obtain ⟨j, hj, rfl, hb2, hd⟩ := hrel
        have hcell : wr.cell? ⟨b, o + i, none⟩ = some (.slice ai r.length ci) := by rw [hb2.out.1.cell hbN]; exact Hcell0.out
        by_cases hjt : j < r.length
        · obtain ⟨s, hs⟩ := get_some hjt
          have hls := HLr.out s (get_mem hs)
          obtain ⟨rb, ro, hai, _, hrc⟩ := intCells_get? (Hrow0.out.below (by rw [HN.out]; exact hb2.out.1)) hs
          subst hai
          obtain ⟨hs0', hs1', hs2'⟩ := hls
          have hj0 : (0 : Int) ≤ (j : Int) := by omega
          have hj1 : (j : Int) < (r.length : Int) := by omega
          obtain ⟨g, o2, hxa, hg1, hg2, hcs, hfz, hput⟩ := hd.out.put (i := j) (by show j < (part f r j).length; rw [part_len]; exact hjt)
          have hxa : xa = some ⟨g, o2, none⟩ := hxa
          subst hxa
          have hold := hcs j s (part_get hs)
          have hput := hput (f s)
          rw [show (part f r j).set j (f s) = part f r (j + 1) from part_set hs] at hput
          have hcellG : wr.cell? ⟨G, i, none⟩ = some (.slice (some ⟨g, o2, none⟩) r.length xc) := by
            have := hd.out.cell (i := i) (x := ⟨some ⟨g, o2, none⟩, xc, part f r j⟩) (by rw [← Hpl.out]; simp)
            rw [part_len, Nat.zero_add] at this; exact this
          have Habs := Lib.hid (fun W => spec_l3Abs s W (by omega) (by omega))
          have Hput := Lib.hid hput
          have hfs := Hf.out s
          have hsame : f s = s → HdsIn wr N M (some ⟨G, 0, none⟩) (p ++ ⟨some ⟨g, o2, none⟩, xc, part f r (j + 1)⟩ :: q) := fun e => by
            rw [← part_set hs, e, set_same (part_get hs)]; exact hd.out
          have Hsame := Lib.hid hsame
          have Hfs := Lib.hid hfs
          have Hb2 := hb2
          clear hcs hput hs hfs hsame hd hb2
          rcases (show 0 < s ∨ s < 0 by omega) with hsg | hsg
          · have sg := Lib.hid (sgn_pos hsg)
            have dp : decide (0 < s) = true := decide_eq_true hsg
            have dn : decide (s < 0) = false := decide_eq_false (by omega)
            by_cases e1 : (s.natAbs : Int) = x
            · have b1 : ((s.natAbs : Int) == x) = true := beq_iff_eq.2 e1
              have hv : f s = A := by rw [Hfs.out, if_pos e1, sg.out, Int.one_mul]
              have Hv := Lib.hid hv; have He1 := Lib.hid e1
              clear e1 hv
              go_wp2
              go_quiet (first | exact Calls.quiet_of_same (bit_true _) | exact Calls.quiet_of_same (bit_false _))
              go_wp2_with fail
              refine (Habs.out _).mono ?_
              rintro e w9 ⟨rfl, hw9⟩
              rw [hw9]; clear hw9
              go_wp2
              go_roundw
              case rel => exact ⟨j + 1, by omega, by go_num, Lib.hid ⟨(below_drewN Hb2.out.1 _).setCell hg1 _, by have := Hb2.out.2; simpa [World.setCell] using this⟩, Lib.hid (by have h := Hput.out; rw [Hv.out] at h; exact h)⟩
              case measure => simp [intOf]; omega
            · have b1 : ((s.natAbs : Int) == x) = false := beq_eq_false_iff_ne.2 e1
              by_cases e2 : (s.natAbs : Int) = y
              · have b2 : ((s.natAbs : Int) == y) = true := beq_iff_eq.2 e2
                have hv : f s = B := by rw [Hfs.out, if_neg e1, if_pos e2, sg.out, Int.one_mul]
                have Hv := Lib.hid hv; have He1 := Lib.hid e1; have He2 := Lib.hid e2
                clear e1 e2 hv
                go_wp2
                go_quiet (first | exact Calls.quiet_of_same (bit_true _) | exact Calls.quiet_of_same (bit_false _))
                go_wp2_with fail
                refine (Habs.out _).mono ?_
                rintro e w9 ⟨rfl, hw9⟩
                rw [hw9]; clear hw9
                go_wp2
                go_roundw
                case rel => exact ⟨j + 1, by omega, by go_num, Lib.hid ⟨(below_drewN Hb2.out.1 _).setCell hg1 _, by have := Hb2.out.2; simpa [World.setCell] using this⟩, Lib.hid (by have h := Hput.out; rw [Hv.out] at h; exact h)⟩
                case measure => simp [intOf]; omega
              · have b2 : ((s.natAbs : Int) == y) = false := beq_eq_false_iff_ne.2 e2
                have hv : f s = s := by rw [Hfs.out, if_neg e1, if_neg e2]
                have Hv := Lib.hid hv; have He1 := Lib.hid e1; have He2 := Lib.hid e2
                clear e1 e2 hv
                go_wp2
                go_quiet (first | exact Calls.quiet_of_same (bit_true _) | exact Calls.quiet_of_same (bit_false _))
                go_wp2_with fail
                refine (Habs.out _).mono ?_
                rintro e w9 ⟨rfl, hw9⟩
                rw [hw9]; clear hw9
                go_wp2
                go_roundw
                case rel => exact ⟨j + 1, by omega, by go_num, Lib.hid ⟨below_drewN Hb2.out.1 _, Hb2.out.2⟩, Lib.hid (Hsame.out Hv.out)⟩
                case measure => simp [intOf]; omega
          · have sg := Lib.hid (sgn_neg hsg)
            have dp : decide (0 < s) = false := decide_eq_false (by omega)
            have dn : decide (s < 0) = true := decide_eq_true hsg
            by_cases e1 : (s.natAbs : Int) = x
            · have b1 : ((s.natAbs : Int) == x) = true := beq_iff_eq.2 e1
              have hv : f s = -A := by rw [Hfs.out, if_pos e1, sg.out]; omega
              have Hv := Lib.hid hv; have He1 := Lib.hid e1
              clear e1 hv
              go_wp2
              go_quiet (first | exact Calls.quiet_of_same (bit_true _) | exact Calls.quiet_of_same (bit_false _))
              go_wp2_with fail
              refine (Habs.out _).mono ?_
              rintro e w9 ⟨rfl, hw9⟩
              rw [hw9]; clear hw9
              go_wp2
              go_roundw
              case rel => exact ⟨j + 1, by omega, by go_num, Lib.hid ⟨(below_drewN Hb2.out.1 _).setCell hg1 _, by have := Hb2.out.2; simpa [World.setCell] using this⟩, Lib.hid (by have h := Hput.out; rw [Hv.out] at h; exact h)⟩
              case measure => simp [intOf]; omega
            · have b1 : ((s.natAbs : Int) == x) = false := beq_eq_false_iff_ne.2 e1
              by_cases e2 : (s.natAbs : Int) = y
              · have b2 : ((s.natAbs : Int) == y) = true := beq_iff_eq.2 e2
                have hv : f s = -B := by rw [Hfs.out, if_neg e1, if_pos e2, sg.out]; omega
                have Hv := Lib.hid hv; have He1 := Lib.hid e1; have He2 := Lib.hid e2
                clear e1 e2 hv
                go_wp2
                go_quiet (first | exact Calls.quiet_of_same (bit_true _) | exact Calls.quiet_of_same (bit_false _))
                go_wp2_with fail
                refine (Habs.out _).mono ?_
                rintro e w9 ⟨rfl, hw9⟩
                rw [hw9]; clear hw9
                go_wp2
                go_roundw
                case rel => exact ⟨j + 1, by omega, by go_num, Lib.hid ⟨(below_drewN Hb2.out.1 _).setCell hg1 _, by have := Hb2.out.2; simpa [World.setCell] using this⟩, Lib.hid (by have h := Hput.out; rw [Hv.out] at h; exact h)⟩
                case measure => simp [intOf]; omega
              · have b2 : ((s.natAbs : Int) == y) = false := beq_eq_false_iff_ne.2 e2
                have hv : f s = s := by rw [Hfs.out, if_neg e1, if_neg e2]
                have Hv := Lib.hid hv; have He1 := Lib.hid e1; have He2 := Lib.hid e2
                clear e1 e2 hv
                go_wp2
                go_quiet (first | exact Calls.quiet_of_same (bit_true _) | exact Calls.quiet_of_same (bit_false _))
                go_wp2_with fail
                refine (Habs.out _).mono ?_
                rintro e w9 ⟨rfl, hw9⟩
                rw [hw9]; clear hw9
                go_wp2
                go_roundw
                case rel => exact ⟨j + 1, by omega, by go_num, Lib.hid ⟨below_drewN Hb2.out.1 _, Hb2.out.2⟩, Lib.hid (Hsame.out Hv.out)⟩
                case measure => simp [intOf]; omega
        · obtain rfl : j = r.length := by omega
          go_wp2
          go_roundw
          case rel =>
            refine ⟨i + 1, by omega, by go_num, hb2, _, Lib.hid ⟨?_, hd.out⟩⟩
            have h1 := H1.out
            rw [Hsp.out] at h1
            rw [← part_set Hr.out, ← h1, part_all]
            simp [← Hpl.out]
          case measure => simp [intOf]; omega
    · obtain rfl : i = L.length := by omega
      go_wp2
      go_ret2
      have h1 := hp.out.1
      rw [part_all] at h1
      refine ⟨_, rfl, ⟨some ⟨G, 0, none⟩, cap, by rw [List.length_map]; rfl, by rw [List.length_map]; exact Hcap.out.1, Hcap.out.2, ?_⟩, hb.out.1⟩
      have h2 := hp.out.2.grid
      rw [h1] at h2
      exact h2.mono (Nat.le_refl _) hb.out.2
set_option maxRecDepth 10000 in
set_option maxHeartbeats 2000000 in
theorem spec_l5Swap_no (a : Option Addr) (c : Nat) (L : List (List Int)) (x A y B : Int) (w : World) (ha : GridAt w a L) (hl : tot L ≤ 1048576) (hok : ¬ Mv.SwapOk L x y) :
    Calls Try.prog 82 #[.slice a L.length c, .int .i64 x, .int .i64 A, .int .i64 y, .int .i64 B] w fun e w' => GivesRows2 w [] false e w' := by
  have hG := spec_IsGluing a c L w ha hl
  have hX := fun W => spec_l1In x 1 8 W
  have hY := fun W => spec_l1In y 1 8 W
  by_cases hg : Glue.IsG L
  · rw [decide_eq_true hg] at hG
    by_cases hx : 1 ≤ x ∧ x ≤ 8
    · rw [decide_eq_true hx] at hX
      have hy : ¬ (1 ≤ y ∧ y ≤ 8) := fun hy => hok ⟨hg, hx, hy⟩
      rw [decide_eq_false hy] at hY
      have HG := Lib.hid hG; have HX := Lib.hid hX; have HY := Lib.hid hY
      clear hG hX hY hg hx hy hok
      go_enter Try.func82, Try.ntmps82
      go_wp2_with fail
      refine HG.out.mono ?_
      rintro e w1 ⟨rfl, hb1⟩
      go_wp2_with fail
      refine (HX.out _).mono ?_
      rintro e w9 ⟨rfl, hw9⟩
      rw [hw9]; clear hw9
      go_wp2_with fail
      refine (HY.out _).mono ?_
      rintro e w8 ⟨rfl, hw9⟩
      rw [hw9]; clear hw9
      go_wp2
      go_ret2
      exact GivesRows2.none (hb1.alloc hb1.size _) (Nat.zero_le _)
    · rw [decide_eq_false hx] at hX
      have HG := Lib.hid hG; have HX := Lib.hid hX
      clear hG hX hY hg hx hok
      go_enter Try.func82, Try.ntmps82
      go_wp2_with fail
      refine HG.out.mono ?_
      rintro e w1 ⟨rfl, hb1⟩
      go_wp2_with fail
      refine (HX.out _).mono ?_
      rintro e w9 ⟨rfl, hw9⟩
      rw [hw9]; clear hw9
      go_wp2
      go_ret2
      exact GivesRows2.none (hb1.alloc hb1.size _) (Nat.zero_le _)
  · rw [decide_eq_false hg] at hG
    have HG := Lib.hid hG
    clear hG hX hY hg hok
    go_enter Try.func82, Try.ntmps82
    go_wp2_with fail
    refine HG.out.mono ?_
    rintro e w1 ⟨rfl, hb1⟩
    go_wp2
    go_ret2
    exact GivesRows2.none (hb1.alloc hb1.size _) (Nat.zero_le _)
set_option maxRecDepth 10000 in
set_option maxHeartbeats 1000000 in
theorem spec_SwapLetters (a : Option Addr) (c : Nat) (L : List (List Int)) (x y : Int) (w : World) (ha : GridC w a L) (hl : tot L ≤ 1048576) (_hx0 : -9223372036854775808 ≤ x) (_hx1 : x ≤ 9223372036854775807) (_hy0 : -9223372036854775808 ≤ y) (_hy1 : y ≤ 9223372036854775807) :
    Calls Try.prog 27 #[.slice a L.length c, .int .i64 x, .int .i64 y] w fun e w' => GivesRows2 w (Mv.swap L x y) (decide (Mv.SwapOk L x y)) e w' := by
  by_cases hok : Mv.SwapOk L x y
  · have h := spec_l5Swap a c L x y y x w ha.grid hl (by have := hok.2.2.1; omega) hok.2.2.2 (by have := hok.2.1.1; omega) hok.2.1.2 hok
    have hval : Mv.swap L x y = L.map (List.map (Mv.swp x y y x)) := if_pos hok
    rw [hval, decide_eq_true hok]
    have H := Lib.hid h
    clear h hval
    go_enter Try.func27, Try.ntmps27
    go_wp2_with fail
    refine H.out.mono ?_
    rintro e w1 ⟨v, rfl, hv, hb⟩
    have Hv := Lib.hid hv; clear hv
    go_wp2
    go_ret2
    exact GridIn.gives Hv.out (Nat.le_refl _) hb
  · have h := spec_l5Swap_no a c L x y y x w ha.grid hl hok
    have hval : Mv.swap L x y = [] := if_neg hok
    rw [hval, decide_eq_false hok]
    have H := Lib.hid h
    clear h hval
    go_enter Try.func27, Try.ntmps27
    go_wp2_with fail
    refine H.out.mono ?_
    rintro e w1 ⟨ra, rc, rfl, h1, h2, h3, hb⟩
    go_wp2
    go_ret2
    exact ⟨ra, rc, rfl, h1, h2, h3, hb⟩
set_option maxRecDepth 10000 in
set_option maxHeartbeats 1000000 in
theorem spec_ReverseLetter (a : Option Addr) (c : Nat) (L : List (List Int)) (x : Int) (w : World) (ha : GridC w a L) (hl : tot L ≤ 1048576) (_hx0 : -9223372036854775808 ≤ x) (_hx1 : x ≤ 9223372036854775807) :
    Calls Try.prog 30 #[.slice a L.length c, .int .i64 x] w fun e w' => GivesRows2 w (Mv.rev L x) (decide (Mv.RevOk L x)) e w' := by
  have hX := fun W => spec_l1In x 1 8 W
  by_cases hx : 1 ≤ x ∧ x ≤ 8
  · rw [decide_eq_true hx] at hX
    obtain ⟨hx0, hx1⟩ := hx
    by_cases hg : Glue.IsG L
    · have hok : Mv.SwapOk L x x := ⟨hg, ⟨hx0, hx1⟩, hx0, hx1⟩
      have hok2 : Mv.RevOk L x := ⟨hg, hx0, hx1⟩
      have h := fun W hW => spec_l5Swap a c L x (-x) x (-x) W (ha.grid.below hW) hl (by omega) (by omega) (by omega) (by omega) hok
      have hval : Mv.rev L x = L.map (List.map (Mv.swp x (-x) x (-x))) := if_pos hok2
      rw [hval, decide_eq_true hok2]
      have H := Lib.hid h; have HX := Lib.hid hX
      clear h hval hX
      go_enter Try.func30, Try.ntmps30
      go_wp2_with fail
      refine (HX.out _).mono ?_
      rintro e w9 ⟨rfl, hw9⟩
      rw [hw9]; clear hw9
      go_wp2_with fail
      refine (H.out w (Below.refl _ _)).mono ?_
      rintro e w1 ⟨v, rfl, hv, hb⟩
      have Hv := Lib.hid hv; clear hv
      go_wp2
      go_ret2
      exact GridIn.gives Hv.out (Nat.le_refl _) hb
    · have hok : ¬ Mv.SwapOk L x x := fun h => hg h.1
      have hok2 : ¬ Mv.RevOk L x := fun h => hg h.1
      have h := fun W hW => spec_l5Swap_no a c L x (-x) x (-x) W (ha.grid.below hW) hl hok
      have hval : Mv.rev L x = [] := if_neg hok2
      rw [hval, decide_eq_false hok2]
      have H := Lib.hid h; have HX := Lib.hid hX
      clear h hval hX
      go_enter Try.func30, Try.ntmps30
      go_wp2_with fail
      refine (HX.out _).mono ?_
      rintro e w9 ⟨rfl, hw9⟩
      rw [hw9]; clear hw9
      go_wp2_with fail
      refine (H.out w (Below.refl _ _)).mono ?_
      rintro e w1 ⟨ra, rc, rfl, h1, h2, h3, hb⟩
      go_wp2
      go_ret2
      exact ⟨ra, rc, rfl, h1, h2, h3, hb⟩
  · rw [decide_eq_false hx] at hX
    have hok2 : ¬ Mv.RevOk L x := fun h => hx h.2
    have hval : Mv.rev L x = [] := if_neg hok2
    rw [hval, decide_eq_false hok2]
    have HX := Lib.hid hX
    clear hval hX hx hok2
    go_enter Try.func30, Try.ntmps30
    go_wp2_with fail
    refine (HX.out _).mono ?_
    rintro e w9 ⟨rfl, hw9⟩
    rw [hw9]; clear hw9
    go_wp2
    go_ret2
    exact GivesRows2.none ((Below.refl _ _).alloc (Nat.le_refl _) _) (Nat.zero_le _)
end Go.Proofs.Ytbajfmehncgbeaa
