/-
  The walks of the program's and the model's StandardGluing.
-/
import Derived.Test.YtodgongemoabiaaDoorBase
import Derived.Test.YtodgongemoabiaaDoorSlice
import Derived.Test.YtodgongemoabiaaDoorIntRow
import Derived.Test.YtodgongemoabiaaDoorInts
import Derived.Test.YtodgongemoabiaaDoorOwn
import Derived.Test.YtodgongemoabiaaDoorWord
import Derived.Test.YtodgongemoabiaaDoorGrid
import Derived.Test.YtodgongemoabiaaDoorGridRows
import Derived.Test.YtodgongemoabiaaDoorGlue
import Derived.Test.YtodgongemoabiaaDoorIsGluing
import Derived.Test.YtodgongemoabiaaDoorSurf
import Derived.Test.YtodgongemoabiaaDoorSurfI
import Derived.Test.YtodgongemoabiaaDoorSurfSum
import Derived.Test.YtodgongemoabiaaDoorStd
import Derived.Laws.Rows
namespace Go.Proofs.YtodgongemoabiaaDoor
open Go.RowKit

namespace Surf
set_option maxRecDepth 100000 in
theorem poly_smallB : ((List.range 5).all fun h => (List.range 9).all fun c => (List.range 5).all fun b => !(h == 0 || c == 0) || !(decide (2 * h + c + 2 * b ≤ 8)) || (h == 0 && c == 0 && b == 0) || decide (Glue.IsG [poly h c b])) = true := by decide +kernel
theorem poly_small {h c b : Nat} (h1 : h = 0 ∨ c = 0) (h2 : 2 * h + c + 2 * b ≤ 8) (h0 : ¬ (h = 0 ∧ c = 0 ∧ b = 0)) : Glue.IsG [poly h c b] := by
  have := List.all_eq_true.1 (List.all_eq_true.1 (List.all_eq_true.1 poly_smallB h (List.mem_range.2 (by omega))) c (List.mem_range.2 (by omega))) b (List.mem_range.2 (by omega))
  simp only [Bool.or_eq_true, Bool.not_eq_true', Bool.or_eq_false_iff, beq_eq_false_iff_ne, decide_eq_false_iff_not, Bool.and_eq_true, beq_iff_eq, decide_eq_true_eq] at this
  rcases this with ((⟨h3, h4⟩ | h3) | ⟨⟨h3, h4⟩, h5⟩) | h3
  · exact absurd h1 (fun h => h.elim h3 h4)
  · exact absurd h2 h3
  · exact absurd ⟨h3, h4, h5⟩ h0
  · exact h3
/-- The last letter of the standard polygon. -/
theorem poly_last (h c b : Nat) (h0 : ¬ (h = 0 ∧ c = 0 ∧ b = 0)) : ((2 * h + c + 2 * b : Nat) : Int) ∈ poly h c b ∨ -((2 * h + c + 2 * b : Nat) : Int) ∈ poly h c b := by
  unfold poly
  cases b with
  | succ b =>
    left
    rw [bs_snoc]
    refine List.mem_append.2 (Or.inr (List.mem_append.2 (Or.inr ?_)))
    simp only [List.mem_cons, List.not_mem_nil, or_false]
    right; left; omega
  | zero =>
    cases c with
    | succ c =>
      left
      rw [cs_snoc]
      refine List.mem_append.2 (Or.inl (List.mem_append.2 (Or.inr (List.mem_append.2 (Or.inr ?_)))))
      simp only [List.mem_cons, List.not_mem_nil, or_false]
      left; omega
    | zero =>
      cases h with
      | zero => exact absurd ⟨rfl, rfl, rfl⟩ h0
      | succ h =>
        left
        rw [hs_snoc]
        refine List.mem_append.2 (Or.inl (List.mem_append.2 (Or.inl (List.mem_append.2 (Or.inr ?_)))))
        simp only [List.mem_cons, List.not_mem_nil, or_false]
        right; left; omega
theorem poly_is {h c b : Nat} (h1 : h = 0 ∨ c = 0) (h0 : ¬ (h = 0 ∧ c = 0 ∧ b = 0)) : Glue.IsG [poly h c b] ↔ 2 * h + c + 2 * b ≤ 8 := by
  constructor
  · intro hg
    have hw := hg.w (poly h c b) (List.mem_singleton.2 rfl)
    rcases poly_last h c b h0 with hm | hm
    · obtain ⟨_, _, h3⟩ := hw.1 _ hm; omega
    · obtain ⟨_, h2, h3⟩ := hw.1 _ hm; omega
  · intro hl
    exact poly_small h1 hl h0
theorem nat0 {x y z : Int} (h : Is x y z) (h0 : ¬ (x = 0 ∧ y = 0 ∧ z = 0)) : ¬ (x.toNat = 0 ∧ y.toNat = 0 ∧ z.toNat = 0) ∧ (x.toNat = 0 ∨ y.toNat = 0) ∧ (2 * x.toNat + y.toNat + 2 * z.toNat ≤ 8 ↔ 2 * x + y + 2 * z ≤ 8) ∧ x.toNat ≤ 20 ∧ y.toNat ≤ 20 ∧ z.toNat ≤ 20 := by
  obtain ⟨⟨h1, h2⟩, ⟨h3, h4⟩, ⟨h5, h6⟩, h7⟩ := h
  omega
theorem nats {x y z : Int} (h : Is x y z) : ∃ a b c : Nat, x = a ∧ y = b ∧ z = c ∧ a ≤ 20 ∧ b ≤ 20 ∧ c ≤ 20 ∧ (a = 0 ∨ b = 0) := by
  obtain ⟨⟨h1, h2⟩, ⟨h3, h4⟩, ⟨h5, h6⟩, h7⟩ := h
  exact ⟨x.toNat, y.toNat, z.toNat, by omega, by omega, by omega, by omega, by omega, by omega, by omega⟩
end Surf

set_option maxRecDepth 10000 in
set_option maxHeartbeats 4000000 in
theorem impl_StandardGluing (x y z : Int) (w : World) (ha : I64s [x, y, z]) :
    Calls Tryd.prog 6 #[.agg #[.int .i64 x, .int .i64 y, .int .i64 z]] w fun e w' => GivesRows2 w (Surf.std x y z) (decide (Surf.stdOk x y z)) e w' := by
  have hI := fun W => impl_IsSurface x y z W ha
  generalize hN : w.heap.size = N at *
  have HN := Lib.hid hN
  by_cases hs : Surf.Is x y z
  · rw [decide_eq_true hs] at hI
    have HI := Lib.hid hI; clear hI ha
    by_cases h0 : x = 0 ∧ y = 0 ∧ z = 0
    · obtain ⟨rfl, rfl, rfl⟩ := h0
      have hst : Surf.std 0 0 0 = [[1, -1]] := by rfl
      have hok : Surf.stdOk 0 0 0 := by decide
      have Hst := Lib.hid hst; have Hok := Lib.hid hok
      clear hst hok hs
      go_enter Tryd.func6, Tryd.ntmps6
      go_wp2_with fail
      refine (HI.out _).mono ?_
      rintro e w1 ⟨rfl, hb1⟩
      obtain ⟨hA1, hl1⟩ := Blk.of1 HN.out hb1 (by have := HN.out; simp; omega)
      have Hl1 := Lib.hid hl1; have HA1 := Lib.hid hA1
      obtain ⟨_, _, _, _, _, _⟩ := hA1.six
      clear hb1 hA1 hl1
      go_wp2
      go_ret2
      rw [Hst.out, decide_eq_true Hok.out]
      have hNle : N ≤ w1.heap.size := Nat.le_of_lt HA1.out.lt
      refine ⟨_, _, rfl, Nat.le_refl _, by unfold maxLen; decide, ?_, ?_⟩
      · rw [HN.out]
        exact grid_one (w := w1.alloc (.cells #[.int .i64 1, .int .i64 (-1)] 3)) (l := [1, -1]) (RowIn.of_blk (hi := w1.heap.size + 1) (Blk.new w1 _ _) hNle (by omega)).fresh (by simp; omega) rfl (by simp) (Nat.le_refl _)
      · rw [HN.out]; exact (Hl1.out.alloc hNle _).alloc (by simp; omega) _
    · by_cases hx : x = 0
      · subst hx
        by_cases hy : y = 0
        · subst hy
          have hz : ¬ z = 0 := fun h => h0 ⟨rfl, rfl, h⟩
          have bz : (z == 0) = false := by simp [hz]
          have hs1 := hs
          obtain ⟨hn0, hn1, hn2, hn3, hn4, hn5⟩ := Surf.nat0 hs h0
          have hsd : Surf.side (0 : Int).toNat (0 : Int).toNat z.toNat = Surf.poly (0 : Int).toNat (0 : Int).toNat z.toNat := if_neg hn0
          have hP := fun W => impl_standardPolygon' 0 0 z W hs
          have hG := fun (a : Option Addr) (c1 : Nat) (W : World) (hg : GridAt W a [Surf.poly (0 : Int).toNat (0 : Int).toNat z.toNat]) => impl_IsGluing a c1 [Surf.poly (0 : Int).toNat (0 : Int).toNat z.toNat] W hg (by unfold tot; rw [sumLen_flat]; simp [Surf.poly_len]; omega)
          have hiff := (Surf.poly_is hn1 hn0).trans hn2
          generalize Surf.poly (0 : Int).toNat (0 : Int).toNat z.toNat = P at *
          have HP := Lib.hid hP; have Hhs := Lib.hid hs; have Hsd := Lib.hid hsd
          clear hP hs hsd hs1 hn0 hn1 hn2 hn3 hn4 hn5 h0
          go_enter Tryd.func6, Tryd.ntmps6
          go_wp2_with fail
          refine (HI.out _).mono ?_
          rintro e w1 ⟨rfl, hb1⟩
          obtain ⟨hA1, hl1⟩ := Blk.of1 HN.out hb1 (by have := HN.out; simp; omega)
          have Hl1 := Lib.hid hl1; have HA1 := Lib.hid hA1
          obtain ⟨_, _, _, _, _, _⟩ := hA1.six
          clear hb1 hA1 hl1
          go_wp2_with fail
          refine (HP.out _).mono ?_
          rintro e w2 ⟨pa, pc, rfl, hpl, _, hpf, hb2⟩
          have hA2 := HA1.out.below hb2 HA1.out.lt
          have hNle : N ≤ w2.heap.size := Nat.le_of_lt hA2.lt
          have hN1 : N ≤ w1.heap.size := Nat.le_of_lt HA1.out.lt
          have hl2 := Hl1.out.trans (hb2.mono hN1)
          have hf2 : Fresh w2 N 3 pa (intCells P) := hpf.mono hN1
          have hgr := grid_one (w := w2) (N := N) (c := pc) (K := w2.heap.size) hf2 hNle rfl rfl hpl
          have Hgr := Lib.hid hgr
          have Hl3 := Lib.hid (hl2.alloc hNle (.cells #[.slice pa P.length pc] 46))
          clear hb2 hA2 hl2 hf2 hgr Hl1 HA1 hpf
          have hGc := hG (some ⟨w2.heap.size, 0, none⟩) 1 _ Hgr.out.grid
          clear hG
          by_cases hle : 2 * (0 : Int) + 0 + 2 * z ≤ 8
          · rw [decide_eq_true (hiff.2 hle)] at hGc
            have hok : Surf.stdOk 0 0 z := ⟨Hhs.out, hle⟩
            have hst : Surf.std 0 0 z = [P] := by
              unfold Surf.std; rw [if_pos hok, Hsd.out]
            have HG := Lib.hid hGc; have Hok := Lib.hid hok; have Hst := Lib.hid hst; have Hle := Lib.hid hNle
            clear hGc hok hst hle hiff
            go_wp2_with fail
            refine HG.out.mono ?_
            rintro e w3 ⟨rfl, hb3⟩
            have Hb3 := Lib.hid hb3; clear hb3
            go_wp2
            go_ret2
            rw [Hst.out, decide_eq_true Hok.out]
            refine ⟨_, _, rfl, Nat.le_refl _, by unfold maxLen; decide, ?_, ?_⟩
            · rw [HN.out]; exact (Hgr.out.below Hb3.out).mono (Nat.le_refl _) Hb3.out.size
            · rw [HN.out]; exact Hl3.out.trans (Hb3.out.mono (by have := Hle.out; simp; omega))
          · rw [decide_eq_false (fun hh => hle (hiff.1 hh))] at hGc
            have hok : ¬ Surf.stdOk 0 0 z := fun hh => hle hh.2
            have hst : Surf.std 0 0 z = [] := if_neg hok
            have HG := Lib.hid hGc; have Hok := Lib.hid hok; have Hst := Lib.hid hst; have Hle := Lib.hid hNle
            clear hGc hok hst hle hiff
            go_wp2_with fail
            refine HG.out.mono ?_
            rintro e w3 ⟨rfl, hb3⟩
            have Hb3 := Lib.hid hb3; clear hb3
            go_wp2
            go_ret2
            rw [Hst.out, decide_eq_false Hok.out]
            exact GivesRows2.none (by rw [HN.out]; exact Hl3.out.trans (Hb3.out.mono (by have := Hle.out; simp; omega))) (Nat.zero_le _)
        · have by0 : (y == 0) = false := by simp [hy]
          have hs1 := hs
          obtain ⟨hn0, hn1, hn2, hn3, hn4, hn5⟩ := Surf.nat0 hs h0
          have hsd : Surf.side (0 : Int).toNat y.toNat z.toNat = Surf.poly (0 : Int).toNat y.toNat z.toNat := if_neg hn0
          have hP := fun W => impl_standardPolygon' 0 y z W hs
          have hG := fun (a : Option Addr) (c1 : Nat) (W : World) (hg : GridAt W a [Surf.poly (0 : Int).toNat y.toNat z.toNat]) => impl_IsGluing a c1 [Surf.poly (0 : Int).toNat y.toNat z.toNat] W hg (by unfold tot; rw [sumLen_flat]; simp [Surf.poly_len]; omega)
          have hiff := (Surf.poly_is hn1 hn0).trans hn2
          generalize Surf.poly (0 : Int).toNat y.toNat z.toNat = P at *
          have HP := Lib.hid hP; have Hhs := Lib.hid hs; have Hsd := Lib.hid hsd
          clear hP hs hsd hs1 hn0 hn1 hn2 hn3 hn4 hn5 h0
          go_enter Tryd.func6, Tryd.ntmps6
          go_wp2_with fail
          refine (HI.out _).mono ?_
          rintro e w1 ⟨rfl, hb1⟩
          obtain ⟨hA1, hl1⟩ := Blk.of1 HN.out hb1 (by have := HN.out; simp; omega)
          have Hl1 := Lib.hid hl1; have HA1 := Lib.hid hA1
          obtain ⟨_, _, _, _, _, _⟩ := hA1.six
          clear hb1 hA1 hl1
          go_wp2_with fail
          refine (HP.out _).mono ?_
          rintro e w2 ⟨pa, pc, rfl, hpl, _, hpf, hb2⟩
          have hA2 := HA1.out.below hb2 HA1.out.lt
          have hNle : N ≤ w2.heap.size := Nat.le_of_lt hA2.lt
          have hN1 : N ≤ w1.heap.size := Nat.le_of_lt HA1.out.lt
          have hl2 := Hl1.out.trans (hb2.mono hN1)
          have hf2 : Fresh w2 N 3 pa (intCells P) := hpf.mono hN1
          have hgr := grid_one (w := w2) (N := N) (c := pc) (K := w2.heap.size) hf2 hNle rfl rfl hpl
          have Hgr := Lib.hid hgr
          have Hl3 := Lib.hid (hl2.alloc hNle (.cells #[.slice pa P.length pc] 46))
          clear hb2 hA2 hl2 hf2 hgr Hl1 HA1 hpf
          have hGc := hG (some ⟨w2.heap.size, 0, none⟩) 1 _ Hgr.out.grid
          clear hG
          by_cases hle : 2 * (0 : Int) + y + 2 * z ≤ 8
          · rw [decide_eq_true (hiff.2 hle)] at hGc
            have hok : Surf.stdOk 0 y z := ⟨Hhs.out, hle⟩
            have hst : Surf.std 0 y z = [P] := by
              unfold Surf.std; rw [if_pos hok, Hsd.out]
            have HG := Lib.hid hGc; have Hok := Lib.hid hok; have Hst := Lib.hid hst; have Hle := Lib.hid hNle
            clear hGc hok hst hle hiff
            go_wp2_with fail
            refine HG.out.mono ?_
            rintro e w3 ⟨rfl, hb3⟩
            have Hb3 := Lib.hid hb3; clear hb3
            go_wp2
            go_ret2
            rw [Hst.out, decide_eq_true Hok.out]
            refine ⟨_, _, rfl, Nat.le_refl _, by unfold maxLen; decide, ?_, ?_⟩
            · rw [HN.out]; exact (Hgr.out.below Hb3.out).mono (Nat.le_refl _) Hb3.out.size
            · rw [HN.out]; exact Hl3.out.trans (Hb3.out.mono (by have := Hle.out; simp; omega))
          · rw [decide_eq_false (fun hh => hle (hiff.1 hh))] at hGc
            have hok : ¬ Surf.stdOk 0 y z := fun hh => hle hh.2
            have hst : Surf.std 0 y z = [] := if_neg hok
            have HG := Lib.hid hGc; have Hok := Lib.hid hok; have Hst := Lib.hid hst; have Hle := Lib.hid hNle
            clear hGc hok hst hle hiff
            go_wp2_with fail
            refine HG.out.mono ?_
            rintro e w3 ⟨rfl, hb3⟩
            have Hb3 := Lib.hid hb3; clear hb3
            go_wp2
            go_ret2
            rw [Hst.out, decide_eq_false Hok.out]
            exact GivesRows2.none (by rw [HN.out]; exact Hl3.out.trans (Hb3.out.mono (by have := Hle.out; simp; omega))) (Nat.zero_le _)
      · have bx : (x == 0) = false := by simp [hx]
        have hs1 := hs
        obtain ⟨hn0, hn1, hn2, hn3, hn4, hn5⟩ := Surf.nat0 hs h0
        have hsd : Surf.side x.toNat y.toNat z.toNat = Surf.poly x.toNat y.toNat z.toNat := if_neg hn0
        have hP := fun W => impl_standardPolygon' x y z W hs
        have hG := fun (a : Option Addr) (c1 : Nat) (W : World) (hg : GridAt W a [Surf.poly x.toNat y.toNat z.toNat]) => impl_IsGluing a c1 [Surf.poly x.toNat y.toNat z.toNat] W hg (by unfold tot; rw [sumLen_flat]; simp [Surf.poly_len]; omega)
        have hiff := (Surf.poly_is hn1 hn0).trans hn2
        generalize Surf.poly x.toNat y.toNat z.toNat = P at *
        have HP := Lib.hid hP; have Hhs := Lib.hid hs; have Hsd := Lib.hid hsd
        clear hP hs hsd hs1 hn0 hn1 hn2 hn3 hn4 hn5 h0
        go_enter Tryd.func6, Tryd.ntmps6
        go_wp2_with fail
        refine (HI.out _).mono ?_
        rintro e w1 ⟨rfl, hb1⟩
        obtain ⟨hA1, hl1⟩ := Blk.of1 HN.out hb1 (by have := HN.out; simp; omega)
        have Hl1 := Lib.hid hl1; have HA1 := Lib.hid hA1
        obtain ⟨_, _, _, _, _, _⟩ := hA1.six
        clear hb1 hA1 hl1
        go_wp2_with fail
        refine (HP.out _).mono ?_
        rintro e w2 ⟨pa, pc, rfl, hpl, _, hpf, hb2⟩
        have hA2 := HA1.out.below hb2 HA1.out.lt
        have hNle : N ≤ w2.heap.size := Nat.le_of_lt hA2.lt
        have hN1 : N ≤ w1.heap.size := Nat.le_of_lt HA1.out.lt
        have hl2 := Hl1.out.trans (hb2.mono hN1)
        have hf2 : Fresh w2 N 3 pa (intCells P) := hpf.mono hN1
        have hgr := grid_one (w := w2) (N := N) (c := pc) (K := w2.heap.size) hf2 hNle rfl rfl hpl
        have Hgr := Lib.hid hgr
        have Hl3 := Lib.hid (hl2.alloc hNle (.cells #[.slice pa P.length pc] 46))
        clear hb2 hA2 hl2 hf2 hgr Hl1 HA1 hpf
        have hGc := hG (some ⟨w2.heap.size, 0, none⟩) 1 _ Hgr.out.grid
        clear hG
        by_cases hle : 2 * x + y + 2 * z ≤ 8
        · rw [decide_eq_true (hiff.2 hle)] at hGc
          have hok : Surf.stdOk x y z := ⟨Hhs.out, hle⟩
          have hst : Surf.std x y z = [P] := by
            unfold Surf.std; rw [if_pos hok, Hsd.out]
          have HG := Lib.hid hGc; have Hok := Lib.hid hok; have Hst := Lib.hid hst; have Hle := Lib.hid hNle
          clear hGc hok hst hle hiff
          go_wp2_with fail
          refine HG.out.mono ?_
          rintro e w3 ⟨rfl, hb3⟩
          have Hb3 := Lib.hid hb3; clear hb3
          go_wp2
          go_ret2
          rw [Hst.out, decide_eq_true Hok.out]
          refine ⟨_, _, rfl, Nat.le_refl _, by unfold maxLen; decide, ?_, ?_⟩
          · rw [HN.out]; exact (Hgr.out.below Hb3.out).mono (Nat.le_refl _) Hb3.out.size
          · rw [HN.out]; exact Hl3.out.trans (Hb3.out.mono (by have := Hle.out; simp; omega))
        · rw [decide_eq_false (fun hh => hle (hiff.1 hh))] at hGc
          have hok : ¬ Surf.stdOk x y z := fun hh => hle hh.2
          have hst : Surf.std x y z = [] := if_neg hok
          have HG := Lib.hid hGc; have Hok := Lib.hid hok; have Hst := Lib.hid hst; have Hle := Lib.hid hNle
          clear hGc hok hst hle hiff
          go_wp2_with fail
          refine HG.out.mono ?_
          rintro e w3 ⟨rfl, hb3⟩
          have Hb3 := Lib.hid hb3; clear hb3
          go_wp2
          go_ret2
          rw [Hst.out, decide_eq_false Hok.out]
          exact GivesRows2.none (by rw [HN.out]; exact Hl3.out.trans (Hb3.out.mono (by have := Hle.out; simp; omega))) (Nat.zero_le _)
  · rw [decide_eq_false hs] at hI
    have HI := Lib.hid hI; clear hI ha
    have hok : ¬ Surf.stdOk x y z := fun hh => hs hh.1
    have hst : Surf.std x y z = [] := if_neg hok
    have Hok := Lib.hid hok; have Hst := Lib.hid hst
    clear hok hst hs
    go_enter Tryd.func6, Tryd.ntmps6
    go_wp2_with fail
    refine (HI.out _).mono ?_
    rintro e w1 ⟨rfl, hb1⟩
    obtain ⟨_, hl1⟩ := Blk.of1 HN.out hb1 (by have := HN.out; simp; omega)
    have Hl1 := Lib.hid hl1
    clear hb1 hl1
    go_wp2
    go_ret2
    rw [Hst.out, decide_eq_false Hok.out]
    exact GivesRows2.none (by rw [HN.out]; exact Hl1.out) (Nat.zero_le _)
end Go.Proofs.YtodgongemoabiaaDoor
