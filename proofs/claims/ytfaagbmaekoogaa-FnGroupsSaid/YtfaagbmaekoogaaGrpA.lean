/-
  The walks of the groups' small functions: which words are words of the letters of a group, the relator, the common beginning of two words.
-/
import Derived.Test.YtfaagbmaekoogaaBase
import Derived.Test.YtfaagbmaekoogaaSlice
import Derived.Test.YtfaagbmaekoogaaInts
import Derived.Test.YtfaagbmaekoogaaOwn
import Derived.Test.YtfaagbmaekoogaaWord
import Derived.Test.YtfaagbmaekoogaaIsWord
import Derived.Test.YtfaagbmaekoogaaUses
import Derived.Test.YtfaagbmaekoogaaStd
import Derived.Test.YtfaagbmaekoogaaAm
import Derived.Deep.QuietTactic
import Derived.BigQuiet
namespace Go.Proofs.Ytfaagbmaekoogaa
open Go.RowKit

theorem Dn.fit_lets {g : Int} {l : List Int} (hg : Dn.Gr g) (hw : Word.IsW l) : decide (Dn.Fit g l) = decide (Dn.Lets g l) :=
  decide_eq_decide.2 ⟨fun h => h.2.2, fun h => ⟨hg, hw, h⟩⟩
theorem Dn.fit_bad {g : Int} {l : List Int} {i : Nat} (hi : i < l.length) (h : 2 * g < (l[i].natAbs : Int)) : decide (Dn.Fit g l) = false :=
  decide_eq_false fun hf => by have := hf.2.2 _ (List.getElem_mem hi); omega
theorem Dn.fit_all {g : Int} {l : List Int} (hg : Dn.Gr g) (hw : Word.IsW l) (h : ∀ j (hj : j < l.length), j < l.length → (l[j].natAbs : Int) ≤ 2 * g) : decide (Dn.Fit g l) = true :=
  decide_eq_true ⟨hg, hw, fun x hx => by obtain ⟨i, hi, rfl⟩ := List.mem_iff_getElem.1 hx; exact h i hi hi⟩

set_option maxRecDepth 10000 in
set_option maxHeartbeats 400000 in
theorem impl_isGroup (g : Int) (w : World) : Calls Try.prog 127 #[.int .i64 g] w fun e w' => e = .returned (.bool (decide (Dn.Gr g))) ∧ w' = w := by
  by_cases h1 : g = 1
  · subst h1
    go_enter Try.func127, Try.ntmps127
    go_wp2
    go_ret
    exact ⟨rfl, rfl⟩
  · by_cases h2 : g = 2
    · subst h2
      go_enter Try.func127, Try.ntmps127
      go_wp2
      go_ret
      exact ⟨rfl, rfl⟩
    · have hd : decide (Dn.Gr g) = false := decide_eq_false (by unfold Dn.Gr; omega)
      have Hd := Lib.hid hd; clear hd
      have t1 : (g == 1) = false := beq_eq_false_iff_ne.2 h1
      have t2 : (g == 2) = false := beq_eq_false_iff_ne.2 h2
      clear h1 h2
      go_enter Try.func127, Try.ntmps127
      go_wp2
      go_ret
      exact ⟨by rw [Hd.out]; rfl, rfl⟩

set_option maxRecDepth 10000 in
set_option maxHeartbeats 1000000 in
theorem impl_isGroupWord (g : Int) (a : Option Addr) (c : Nat) (l : List Int) (w : World) (ha : RowAt w a (intCells l)) (hl : l.length ≤ 1000000000) :
    Calls Try.prog 119 #[.int .i64 g, .slice a l.length c] w fun e w' => e = .returned (.bool (decide (Dn.Fit g l))) ∧ Below w.heap.size w w' := by
  have hcG := impl_isGroup g w
  have hcW := impl_IsWord_big a c l w ha hl
  by_cases hG : Dn.Gr g
  · rw [decide_eq_true hG] at hcG
    have Hcg := Lib.hid hcG; clear hcG
    by_cases hW : Word.IsW l
    · rw [decide_eq_true hW] at hcW
      have Hcw := Lib.hid hcW; clear hcW
      have HW := Lib.hid hW; have HG := Lib.hid hG
      obtain ⟨hg0, hg1⟩ := hG
      clear hW
      have Ha := Lib.hid ha; clear ha
      go_enter Try.func119, Try.ntmps119
      go_wp2_with fail
      refine Hcg.out.mono ?_
      rintro e w1 ⟨rfl, hw1⟩
      rw [hw1]; clear hw1 w1
      go_wp2_with fail
      refine Hcw.out.mono ?_
      rintro e w1 ⟨rfl, hb1⟩
      go_wp2
      go_loopw [6, 17] (fun _ iv wr => ∃ i : Nat, i ≤ l.length ∧ iv = .int .i64 i ∧ Hid (∀ j (hj : j < l.length), j < i → (l[j].natAbs : Int) ≤ 2 * g) ∧ Hid (Below w.heap.size w wr)) (fun _ iv _ => l.length - (intOf iv).toNat)
      case atStart => exact ⟨0, by omega, rfl, Lib.hid (fun j _ h => by omega), Lib.hid hb1⟩
      case round =>
        obtain ⟨i, hi, rfl, hall, hb⟩ := hrel
        by_cases hlt : i < l.length
        · obtain ⟨b, o, rfl, hbw, hcell⟩ := intCells_at (Ha.out.below hb.out) hlt
          obtain ⟨hx0, hx1, hx2⟩ := HW.out.at hlt
          have hcE := impl_edgeOf l[i] wr (by omega) (by omega)
          by_cases hL : 2 * g < (l[i].natAbs : Int)
          · have Hd := Lib.hid (Dn.fit_bad hlt hL)
            have HcE := Lib.hid hcE; clear hcE
            generalize hx : l[i] = x at *
            have Hx := Lib.hid hx; clear hx
            generalize hy : (x.natAbs : Int) = y at *
            have Hy := Lib.hid hy; clear hy
            go_wp2_with fail
            refine HcE.out.mono ?_
            rintro e w3 ⟨rfl, hw3⟩
            rw [hw3]; clear hw3 w3
            go_wp2
            go_ret
            exact ⟨by rw [Hd.out]; rfl, hb.out⟩
          · have hall' := Lib.hid (show ∀ j (hj : j < l.length), j < i + 1 → (l[j].natAbs : Int) ≤ 2 * g from fun j hj h => by
              rcases Nat.lt_or_ge j i with h' | h'
              · exact hall.out j hj h'
              · obtain rfl : j = i := by omega
                omega)
            have HcE := Lib.hid hcE; clear hcE
            generalize hx : l[i] = x at *
            have Hx := Lib.hid hx; clear hx
            generalize hy : (x.natAbs : Int) = y at *
            have Hy := Lib.hid hy; clear hy
            go_wp2_with fail
            refine HcE.out.mono ?_
            rintro e w3 ⟨rfl, hw3⟩
            rw [hw3]; clear hw3 w3
            go_wp2
            go_roundw
            case rel => exact ⟨i + 1, by omega, by go_num, hall', hb⟩
            case measure => simp [intOf]; omega
        · obtain rfl : i = l.length := by omega
          have Hd := Lib.hid (Dn.fit_all HG.out HW.out hall.out)
          go_wp2
          go_ret
          exact ⟨by rw [Hd.out]; rfl, hb.out⟩
    · rw [decide_eq_false hW] at hcW
      have Hcw := Lib.hid hcW; clear hcW
      have Hd := Lib.hid (show decide (Dn.Fit g l) = false from decide_eq_false fun h => hW h.2.1)
      clear hW
      go_enter Try.func119, Try.ntmps119
      go_wp2_with fail
      refine Hcg.out.mono ?_
      rintro e w1 ⟨rfl, hw1⟩
      rw [hw1]; clear hw1 w1
      go_wp2_with fail
      refine Hcw.out.mono ?_
      rintro e w1 ⟨rfl, hb1⟩
      go_wp2
      go_ret
      exact ⟨by rw [Hd.out]; rfl, hb1⟩
  · rw [decide_eq_false hG] at hcG
    have Hcg := Lib.hid hcG; clear hcG
    have Hd := Lib.hid (show decide (Dn.Fit g l) = false from decide_eq_false fun h => hG h.1)
    clear hG
    go_enter Try.func119, Try.ntmps119
    go_wp2_with fail
    refine Hcg.out.mono ?_
    rintro e w1 ⟨rfl, hw1⟩
    rw [hw1]; clear hw1 w1
    go_wp2
    go_ret
    exact ⟨by rw [Hd.out]; rfl, Below.refl _ _⟩

set_option maxRecDepth 10000 in
set_option maxHeartbeats 1000000 in
theorem spec_l8Fits (g : Int) (a : Option Addr) (c : Nat) (l : List Int) (w : World) (ha : RowAt w a (intCells l)) (hl : l.length ≤ 1048576) :
    Calls Try.prog 122 #[.int .i64 g, .slice a l.length c] w fun e w' => e = .returned (.bool (decide (Dn.Fit g l))) ∧ Below w.heap.size w w' := by
  have hcG := spec_l1In g 1 2 w
  have hcW := spec_IsWord a c l w ha hl
  by_cases hG : Dn.Gr g
  · rw [show decide ((1 : Int) ≤ g ∧ g ≤ 2) = true from decide_eq_true hG] at hcG
    have Hcg := Lib.hid hcG; clear hcG
    by_cases hW : Word.IsW l
    · rw [decide_eq_true hW] at hcW
      have Hcw := Lib.hid hcW; clear hcW
      have HW := Lib.hid hW; have HG := Lib.hid hG
      obtain ⟨hg0, hg1⟩ := hG
      clear hW
      have Ha := Lib.hid ha; clear ha
      go_enter Try.func122, Try.ntmps122
      go_wp2_with fail
      refine Hcg.out.mono ?_
      rintro e w1 ⟨rfl, hw1⟩
      rw [hw1]; clear hw1 w1
      go_wp2_with fail
      refine Hcw.out.mono ?_
      rintro e w1 ⟨rfl, hb1⟩
      go_wp2
      go_loopw [5] (fun iv wr => ∃ i : Nat, i ≤ l.length ∧ iv = .int .i64 i ∧ Hid (∀ j (hj : j < l.length), j < i → (l[j].natAbs : Int) ≤ 2 * g) ∧ Hid (Below w.heap.size w wr)) (fun iv _ => l.length - (intOf iv).toNat)
      case atStart => exact ⟨0, by omega, rfl, Lib.hid (fun j _ h => by omega), Lib.hid hb1⟩
      case round =>
        obtain ⟨i, hi, rfl, hall, hb⟩ := hrel
        by_cases hlt : i < l.length
        · obtain ⟨b, o, rfl, hbw, hcell⟩ := intCells_at (Ha.out.below hb.out) hlt
          obtain ⟨hx0, hx1, hx2⟩ := HW.out.at hlt
          have hcE := spec_l3Abs l[i] wr (by omega) (by omega)
          by_cases hL : 2 * g < (l[i].natAbs : Int)
          · have Hd := Lib.hid (Dn.fit_bad hlt hL)
            have HcE := Lib.hid hcE; clear hcE
            generalize hx : l[i] = x at *
            have Hx := Lib.hid hx; clear hx
            generalize hy : (x.natAbs : Int) = y at *
            have Hy := Lib.hid hy; clear hy
            go_wp2_with fail
            refine HcE.out.mono ?_
            rintro e w3 ⟨rfl, hw3⟩
            rw [hw3]; clear hw3 w3
            go_wp2
            go_ret
            exact ⟨by rw [Hd.out]; rfl, hb.out⟩
          · have hall' := Lib.hid (show ∀ j (hj : j < l.length), j < i + 1 → (l[j].natAbs : Int) ≤ 2 * g from fun j hj h => by
              rcases Nat.lt_or_ge j i with h' | h'
              · exact hall.out j hj h'
              · obtain rfl : j = i := by omega
                omega)
            have HcE := Lib.hid hcE; clear hcE
            generalize hx : l[i] = x at *
            have Hx := Lib.hid hx; clear hx
            generalize hy : (x.natAbs : Int) = y at *
            have Hy := Lib.hid hy; clear hy
            go_wp2_with fail
            refine HcE.out.mono ?_
            rintro e w3 ⟨rfl, hw3⟩
            rw [hw3]; clear hw3 w3
            go_wp2
            go_roundw
            case rel => exact ⟨i + 1, by omega, by go_num, hall', hb⟩
            case measure => simp [intOf]; omega
        · obtain rfl : i = l.length := by omega
          have Hd := Lib.hid (Dn.fit_all HG.out HW.out hall.out)
          go_wp2
          go_ret
          exact ⟨by rw [Hd.out]; rfl, hb.out⟩
    · rw [decide_eq_false hW] at hcW
      have Hcw := Lib.hid hcW; clear hcW
      have Hd := Lib.hid (show decide (Dn.Fit g l) = false from decide_eq_false fun h => hW h.2.1)
      clear hW
      go_enter Try.func122, Try.ntmps122
      go_wp2_with fail
      refine Hcg.out.mono ?_
      rintro e w1 ⟨rfl, hw1⟩
      rw [hw1]; clear hw1 w1
      go_wp2_with fail
      refine Hcw.out.mono ?_
      rintro e w1 ⟨rfl, hb1⟩
      go_wp2
      go_ret
      exact ⟨by rw [Hd.out]; rfl, hb1⟩
  · rw [show decide ((1 : Int) ≤ g ∧ g ≤ 2) = false from decide_eq_false hG] at hcG
    have Hcg := Lib.hid hcG; clear hcG
    have Hd := Lib.hid (show decide (Dn.Fit g l) = false from decide_eq_false fun h => hG h.1)
    clear hG
    go_enter Try.func122, Try.ntmps122
    go_wp2_with fail
    refine Hcg.out.mono ?_
    rintro e w1 ⟨rfl, hw1⟩
    rw [hw1]; clear hw1 w1
    go_wp2
    go_ret
    exact ⟨by rw [Hd.out]; rfl, Below.refl _ _⟩

set_option maxRecDepth 10000 in
set_option maxHeartbeats 1000000 in
theorem impl_commonBeginning (a a' : Option Addr) (c c' : Nat) (v r : List Int) (w : World) (ha : RowAt w a (intCells v)) (ha' : RowAt w a' (intCells r)) (hv : v.length ≤ 1000) (hr : r.length ≤ 1000) :
    Calls Try.prog 148 #[.slice a v.length c, .slice a' r.length c'] w fun e w' => e = .returned (.int .i64 (Dn.lcp v r : Nat)) ∧ Below w.heap.size w w' := by
  have Ha := Lib.hid ha; have Ha' := Lib.hid ha'; clear ha ha'
  go_enter Try.func148, Try.ntmps148
  go_wp2
  go_loopw [5] (fun nv wr => ∃ n : Nat, nv = .int .i64 n ∧ n ≤ v.length ∧ n ≤ r.length ∧ Hid (Dn.Agree v r n) ∧ Hid (Below w.heap.size w wr)) (fun nv _ => v.length - (intOf nv).toNat)
  case atStart => exact ⟨0, rfl, Nat.zero_le _, Nat.zero_le _, Lib.hid (Dn.Agree.zero _ _), Lib.hid (Below.refl _ _)⟩
  case round =>
    obtain ⟨n, rfl, hn1, hn2, hag, hb⟩ := hrel
    by_cases hlt : n < v.length ∧ n < r.length
    · obtain ⟨hlv, hlr⟩ := hlt
      obtain ⟨b, o, rfl, hbw, hcell⟩ := intCells_at (Ha.out.below hb.out) hlv
      obtain ⟨b', o', rfl, hbw', hcell'⟩ := intCells_at (Ha'.out.below hb.out) hlr
      have d0 : decide (n < r.length) = true := decide_eq_true hlr
      have d1 : decide (n < v.length) = true := decide_eq_true hlv
      have i0 : (0 : Int) ≤ (n : Int) := by omega
      have i1 : (n : Int) < (v.length : Int) := by omega
      have i2 : (n : Int) < (r.length : Int) := by omega
      by_cases he : v[n] = r[n]
      · have Hag := Lib.hid (hag.out.step (List.getElem?_eq_getElem hlv) (by rw [List.getElem?_eq_getElem hlr, he]))
        have hE : (v[n] == r[n]) = true := beq_iff_eq.2 he
        clear he
        generalize v[n] = x at *
        generalize r[n] = y at *
        by_cases hrv : r.length < v.length
        all_goals
          go_wp2
          go_quiet (fail)
          all_goals go_wp2
          all_goals
            go_roundw
            case rel => exact ⟨n + 1, by go_num, by omega, by omega, Hag, Lib.hid (below_drewN hb.out _)⟩
            case measure => simp [intOf]; omega
      · have Hl := Lib.hid (hag.out.lcp (Or.inr (Or.inr (by rw [List.getElem?_eq_getElem hlv, List.getElem?_eq_getElem hlr]; exact fun e => he (Option.some.inj e)))))
        have hE : (v[n] == r[n]) = false := beq_eq_false_iff_ne.2 he
        clear he
        generalize v[n] = x at *
        generalize r[n] = y at *
        by_cases hrv : r.length < v.length
        all_goals
          go_wp2
          go_quiet (fail)
          all_goals go_wp2
          all_goals
            go_ret
            exact ⟨by rw [← Hl.out]; rfl, below_drewN hb.out _⟩
    · have Hl := Lib.hid (hag.out.lcp (by omega))
      by_cases hrv : r.length < v.length
      · have d0 : decide (n < r.length) = false := decide_eq_false (by omega)
        go_wp2
        go_quiet (fail)
        all_goals go_wp2
        all_goals
          go_ret
          exact ⟨by rw [← Hl.out]; rfl, below_drewN hb.out _⟩
      · have d0 : decide (n < v.length) = false := decide_eq_false (by omega)
        go_wp2
        go_quiet (fail)
        all_goals go_wp2
        all_goals
          go_ret
          exact ⟨by rw [← Hl.out]; rfl, below_drewN hb.out _⟩

set_option maxRecDepth 10000 in
set_option maxHeartbeats 1000000 in
theorem spec_l8Match (a a' : Option Addr) (c c' : Nat) (v r : List Int) (m : Int) (hm : m = (r.length : Int)) (w : World) (ha : RowAt w a (intCells v)) (ha' : RowAt w a' (intCells r)) (hv : v.length ≤ 1000) (hr : r.length ≤ 1000) :
    Calls Try.prog 149 #[.slice a v.length c, .slice a' r.length c', .int .i64 m] w fun e w' => e = .returned (.int .i64 (Dn.lcp v r : Nat)) ∧ Below w.heap.size w w' := by
  have Ha := Lib.hid ha; have Ha' := Lib.hid ha'; clear ha ha'
  have Hm := Lib.hid hm
  go_enter Try.func149, Try.ntmps149
  clear hm
  go_wp2
  go_loopw [7] (fun nv wr => ∃ n : Nat, nv = .int .i64 n ∧ n ≤ v.length ∧ n ≤ r.length ∧ Hid (Dn.Agree v r n) ∧ Hid (Below w.heap.size w wr)) (fun nv _ => v.length - (intOf nv).toNat)
  case atStart => exact ⟨0, rfl, Nat.zero_le _, Nat.zero_le _, Lib.hid (Dn.Agree.zero _ _), Lib.hid (Below.refl _ _)⟩
  case round =>
    obtain ⟨n, rfl, hn1, hn2, hag, hb⟩ := hrel
    by_cases hlr : n < r.length
    · have d0 : decide ((n : Int) < m) = true := decide_eq_true (by have := Hm.out; omega)
      have d2 : decide (n < r.length) = true := decide_eq_true hlr
      by_cases hlv : n < v.length
      · have d1 : decide (n < v.length) = true := decide_eq_true hlv
        obtain ⟨b, o, rfl, hbw, hcell⟩ := intCells_at (Ha.out.below hb.out) hlv
        obtain ⟨b', o', rfl, hbw', hcell'⟩ := intCells_at (Ha'.out.below hb.out) hlr
        have i0 : (0 : Int) ≤ (n : Int) := by omega
        have i1 : (n : Int) < (v.length : Int) := by omega
        have i2 : (n : Int) < (r.length : Int) := by omega
        by_cases he : v[n] = r[n]
        · have Hag := Lib.hid (hag.out.step (List.getElem?_eq_getElem hlv) (by rw [List.getElem?_eq_getElem hlr, he]))
          have hE : (v[n] == r[n]) = true := beq_iff_eq.2 he
          clear he
          generalize v[n] = x at *
          generalize r[n] = y at *
          go_wp2
          go_quiet (fail)
          all_goals go_wp2
          all_goals
            go_roundw
            case rel => exact ⟨n + 1, by go_num, by omega, by omega, Hag, Lib.hid (below_drewN hb.out _)⟩
            case measure => simp [intOf]; omega
        · have Hl := Lib.hid (hag.out.lcp (Or.inr (Or.inr (by rw [List.getElem?_eq_getElem hlv, List.getElem?_eq_getElem hlr]; exact fun e => he (Option.some.inj e)))))
          have hE : (v[n] == r[n]) = false := beq_eq_false_iff_ne.2 he
          clear he
          generalize v[n] = x at *
          generalize r[n] = y at *
          go_wp2
          go_quiet (fail)
          all_goals go_wp2
          all_goals
            go_ret
            exact ⟨by rw [← Hl.out]; rfl, below_drewN hb.out _⟩
      · have d1 : decide (n < v.length) = false := decide_eq_false hlv
        have Hl := Lib.hid (hag.out.lcp (by omega))
        go_wp2
        go_quiet (fail)
        all_goals go_wp2
        all_goals
          go_ret
          exact ⟨by rw [← Hl.out]; rfl, below_drewN hb.out _⟩
    · have d0 : decide ((n : Int) < m) = false := decide_eq_false (by have := Hm.out; omega)
      have Hl := Lib.hid (hag.out.lcp (by omega))
      go_wp2
      go_quiet (fail)
      all_goals go_wp2
      all_goals
        go_ret
        exact ⟨by rw [← Hl.out]; rfl, below_drewN hb.out _⟩

theorem Dn.rel_gives {w : World} {cs : Array Value} {n : Nat} {l : List Int} (hl : (intCells l).toArray = cs) (hn : l.length = n) (hm : n ≤ maxLen) : Gives w l (.returned (.slice (some ⟨w.heap.size, 0, none⟩) n n)) (w.alloc (.cells cs 3)) := by
  subst hl; subst hn
  exact ⟨_, _, rfl, Nat.le_refl _, hm, Fresh.of_blk (Blk.new w _ _) (Nat.le_refl _), (Below.refl _ _).alloc (Nat.le_refl _) _⟩
set_option maxRecDepth 10000 in
set_option maxHeartbeats 400000 in
theorem spec_Relator (g : Int) (w : World) : Calls Try.prog 59 #[.int .i64 g] w fun e w' => Gives w (Dn.rel g) e w' := by
  by_cases h1 : g = 1
  · subst h1
    go_enter Try.func59, Try.ntmps59
    go_wp2
    go_ret
    exact Dn.rel_gives (l := [1, 2, -1, -2]) (by rfl) rfl (by decide)
  · by_cases h2 : g = 2
    · subst h2
      go_enter Try.func59, Try.ntmps59
      go_wp2
      go_ret
      exact Dn.rel_gives (l := [1, 2, -1, -2, 3, 4, -3, -4]) (by rfl) rfl (by decide)
    · have Hd := Lib.hid (Dn.rel_not (g := g) (by unfold Dn.Gr; omega))
      have t1 : (g == 1) = false := beq_eq_false_iff_ne.2 h1
      have t2 : (g == 2) = false := beq_eq_false_iff_ne.2 h2
      clear h1 h2
      go_enter Try.func59, Try.ntmps59
      go_wp2
      go_ret
      rw [Hd.out]
      exact Dn.rel_gives (l := []) (by rfl) rfl (by decide)

theorem Dn.rel_poly {g : Int} (h : Dn.Gr g) : Surf.poly g.toNat 0 0 = Dn.rel g := by rcases Dn.gr_cases h with rfl | rfl <;> decide
set_option maxRecDepth 10000 in
set_option maxHeartbeats 400000 in
theorem impl_Relator (g : Int) (w : World) : Calls Try.prog 58 #[.int .i64 g] w fun e w' => Gives w (Dn.rel g) e w' := by
  have hcG := impl_isGroup g w
  by_cases hG : Dn.Gr g
  · rw [decide_eq_true hG] at hcG
    have Hcg := Lib.hid hcG; clear hcG
    have hP := impl_standardPolygon' g 0 0 w ⟨by obtain ⟨h0, h1⟩ := hG; omega, by omega, by omega, by omega⟩
    rw [show (0 : Int).toNat = 0 from rfl, Dn.rel_poly hG] at hP
    have HP := Lib.hid hP; clear hP
    go_enter Try.func58, Try.ntmps58
    go_wp2_with fail
    refine Hcg.out.mono ?_
    rintro e w1 ⟨rfl, hw1⟩
    rw [hw1]; clear hw1 w1
    go_wp2_with fail
    refine HP.out.mono ?_
    rintro e w2 hg
    have Hg := Lib.hid hg
    obtain ⟨a', c', rfl, _, _, _, _⟩ := hg
    go_wp2
    go_ret
    exact Hg.out
  · rw [decide_eq_false hG] at hcG
    have Hcg := Lib.hid hcG; clear hcG
    have Hd := Lib.hid (Dn.rel_not hG)
    clear hG
    go_enter Try.func58, Try.ntmps58
    go_wp2_with fail
    refine Hcg.out.mono ?_
    rintro e w1 ⟨rfl, hw1⟩
    rw [hw1]; clear hw1 w1
    go_wp2
    go_ret
    rw [Hd.out]
    exact Gives.none (Below.refl _ _)
end Go.Proofs.Ytfaagbmaekoogaa
