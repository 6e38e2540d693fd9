/-
  The walks of the groups' small functions: which words are words of the letters of a group, the relator, the common beginning of two words. Classes that are merged: a class's label, the model's roots with their depths, how many classes there are; loops over rows of rows. The walks over labels: the program's newClasses, mergeClasses, countClasses; the model's l3Find. The walk of relatorAlong: the relator or its inverse, turned so that it begins with the longest part with which a word begins. The walk of the program's DehnStep: a search that goes on by goto. The walks of the model's step of Dehn and of the model's DehnStep. The walks of the model's DehnStep, l8Dehn and DehnWord, and of the program's DehnWord. Corners of polygons, and their classes: what the document says, and the walks of the program's cornerClasses and the model's l3Ends. The walks of isZero, l8Trivial and IsTrivialWord. A row of integers of a call's own, made by appends. The walks of AreEqualWords, HomologyOf and CommuteIn. The contracts of chapter 8 in the form in which the exact laws take them. A word of four letters without inverse neighbours that acts trivially on the amalgam of two sides holds more than half of the relator (Dehn's theorem for two handles): pure. What the law on groups turns on: acting letters, Dehn's theorem, sums, three sheets: pure. The walks of the model's cursor over a draw's bytes: it gives numbers within its bounds, and turns its own block alone. Rows of bytes of the call's own, and the texts made of them. The walks of the program's and the model's WordText. The walks of the model's draws of words. The walks of the model's draws of words of groups.
-/
import Derived.Test.YtfaagbmaekoogaaMrgG1
import Derived.Deep.QuietTactic
import Derived.BigQuiet
import Derived.WalkMore
import Derived.ScopeJumps
import Derived.StillTailTactics
import Derived.Outline
import Derived.Deep.RegionLaw
import Derived.Laws.BitsAllLaws
import Derived.Laws.BitsLemmas
import Derived.Lib.AppendStr
namespace Go.Proofs.Ytfaagbmaekoogaa
open Go.RowKit

theorem Dn.fit_lets {g : Int} {l : List Int} (hg : Dn.Gr g) (hw : Word.IsW l) : decide (Dn.Fit g l) = decide (Dn.Lets g l) :=
  decide_eq_decide.2 ⟨fun h => h.2.2, fun h => ⟨hg, hw, h⟩⟩
theorem Dn.fit_bad {g : Int} {l : List Int} {i : Nat} (hi : i < l.length) (h : 2 * g < (l[i].natAbs : Int)) : decide (Dn.Fit g l) = false :=
  decide_eq_false fun hf => by have := hf.2.2 _ (List.getElem_mem hi); omega
theorem Dn.fit_all {g : Int} {l : List Int} (hg : Dn.Gr g) (hw : Word.IsW l) (h : ∀ j (hj : j < l.length), j < l.length → (l[j].natAbs : Int) ≤ 2 * g) : decide (Dn.Fit g l) = true :=
  decide_eq_true ⟨hg, hw, fun x hx => by obtain ⟨i, hi, rfl⟩ := List.mem_iff_getElem.1 hx; exact h i hi hi⟩

set_option maxRecDepth 10000 in
set_option maxHeartbeats 400000 in
theorem impl_isGroup (g : Int) (w : World) : Calls Try.prog 127 #[.int .i64 g] w fun e w' => e = .returned (.bool (decide (Dn.Gr g))) ∧ w' = w := by
  by_cases h1 : g = 1
  · subst h1
    go_enter Try.func127, Try.ntmps127
    go_wp2
    go_ret
    exact ⟨rfl, rfl⟩
  · by_cases h2 : g = 2
    · subst h2
      go_enter Try.func127, Try.ntmps127
      go_wp2
      go_ret
      exact ⟨rfl, rfl⟩
    · have hd : decide (Dn.Gr g) = false := decide_eq_false (by unfold Dn.Gr; omega)
      have Hd := Lib.hid hd; clear hd
      have t1 : (g == 1) = false := beq_eq_false_iff_ne.2 h1
      have t2 : (g == 2) = false := beq_eq_false_iff_ne.2 h2
      clear h1 h2
      go_enter Try.func127, Try.ntmps127
      go_wp2
      go_ret
      exact ⟨by rw [Hd.out]; rfl, rfl⟩

set_option maxRecDepth 10000 in
set_option maxHeartbeats 1000000 in
theorem impl_isGroupWord (g : Int) (a : Option Addr) (c : Nat) (l : List Int) (w : World) (ha : RowAt w a (intCells l)) (hl : l.length ≤ 1000000000) :
    Calls Try.prog 119 #[.int .i64 g, .slice a l.length c] w fun e w' => e = .returned (.bool (decide (Dn.Fit g l))) ∧ Below w.heap.size w w' := by
  have hcG := impl_isGroup g w
  have hcW := impl_IsWord_big a c l w ha hl
  by_cases hG : Dn.Gr g
  · rw [decide_eq_true hG] at hcG
    have Hcg := Lib.hid hcG; clear hcG
    by_cases hW : Word.IsW l
    · rw [decide_eq_true hW] at hcW
      have Hcw := Lib.hid hcW; clear hcW
      have HW := Lib.hid hW; have HG := Lib.hid hG
      obtain ⟨hg0, hg1⟩ := hG
      clear hW
      have Ha := Lib.hid ha; clear ha
      go_enter Try.func119, Try.ntmps119
      go_wp2_with fail
      refine Hcg.out.mono ?_
      rintro e w1 ⟨rfl, hw1⟩
      rw [hw1]; clear hw1 w1
      go_wp2_with fail
      refine Hcw.out.mono ?_
      rintro e w1 ⟨rfl, hb1⟩
      go_wp2
      go_loopw [6, 17] (fun _ iv wr => ∃ i : Nat, i ≤ l.length ∧ iv = .int .i64 i ∧ Hid (∀ j (hj : j < l.length), j < i → (l[j].natAbs : Int) ≤ 2 * g) ∧ Hid (Below w.heap.size w wr)) (fun _ iv _ => l.length - (intOf iv).toNat)
      case atStart => exact ⟨0, by omega, rfl, Lib.hid (fun j _ h => by omega), Lib.hid hb1⟩
      case round =>
        obtain ⟨i, hi, rfl, hall, hb⟩ := hrel
        by_cases hlt : i < l.length
        · obtain ⟨b, o, rfl, hbw, hcell⟩ := intCells_at (Ha.out.below hb.out) hlt
          obtain ⟨hx0, hx1, hx2⟩ := HW.out.at hlt
          have hcE := impl_edgeOf l[i] wr (by omega) (by omega)
          by_cases hL : 2 * g < (l[i].natAbs : Int)
          · have Hd := Lib.hid (Dn.fit_bad hlt hL)
            have HcE := Lib.hid hcE; clear hcE
            generalize hx : l[i] = x at *
            have Hx := Lib.hid hx; clear hx
            generalize hy : (x.natAbs : Int) = y at *
            have Hy := Lib.hid hy; clear hy
            go_wp2_with fail
            refine HcE.out.mono ?_
            rintro e w3 ⟨rfl, hw3⟩
            rw [hw3]; clear hw3 w3
            go_wp2
            go_ret
            exact ⟨by rw [Hd.out]; rfl, hb.out⟩
          · have hall' := Lib.hid (show ∀ j (hj : j < l.length), j < i + 1 → (l[j].natAbs : Int) ≤ 2 * g from fun j hj h => by
              rcases Nat.lt_or_ge j i with h' | h'
              · exact hall.out j hj h'
              · obtain rfl : j = i := by omega
                omega)
            have HcE := Lib.hid hcE; clear hcE
            generalize hx : l[i] = x at *
            have Hx := Lib.hid hx; clear hx
            generalize hy : (x.natAbs : Int) = y at *
            have Hy := Lib.hid hy; clear hy
            go_wp2_with fail
            refine HcE.out.mono ?_
            rintro e w3 ⟨rfl, hw3⟩
            rw [hw3]; clear hw3 w3
            go_wp2
            go_roundw
            case rel => exact ⟨i + 1, by omega, by go_num, hall', hb⟩
            case measure => simp [intOf]; omega
        · obtain rfl : i = l.length := by omega
          have Hd := Lib.hid (Dn.fit_all HG.out HW.out hall.out)
          go_wp2
          go_ret
          exact ⟨by rw [Hd.out]; rfl, hb.out⟩
    · rw [decide_eq_false hW] at hcW
      have Hcw := Lib.hid hcW; clear hcW
      have Hd := Lib.hid (show decide (Dn.Fit g l) = false from decide_eq_false fun h => hW h.2.1)
      clear hW
      go_enter Try.func119, Try.ntmps119
      go_wp2_with fail
      refine Hcg.out.mono ?_
      rintro e w1 ⟨rfl, hw1⟩
      rw [hw1]; clear hw1 w1
      go_wp2_with fail
      refine Hcw.out.mono ?_
      rintro e w1 ⟨rfl, hb1⟩
      go_wp2
      go_ret
      exact ⟨by rw [Hd.out]; rfl, hb1⟩
  · rw [decide_eq_false hG] at hcG
    have Hcg := Lib.hid hcG; clear hcG
    have Hd := Lib.hid (show decide (Dn.Fit g l) = false from decide_eq_false fun h => hG h.1)
    clear hG
    go_enter Try.func119, Try.ntmps119
    go_wp2_with fail
    refine Hcg.out.mono ?_
    rintro e w1 ⟨rfl, hw1⟩
    rw [hw1]; clear hw1 w1
    go_wp2
    go_ret
    exact ⟨by rw [Hd.out]; rfl, Below.refl _ _⟩

set_option maxRecDepth 10000 in
set_option maxHeartbeats 1000000 in
theorem spec_l8Fits (g : Int) (a : Option Addr) (c : Nat) (l : List Int) (w : World) (ha : RowAt w a (intCells l)) (hl : l.length ≤ 1048576) :
    Calls Try.prog 122 #[.int .i64 g, .slice a l.length c] w fun e w' => e = .returned (.bool (decide (Dn.Fit g l))) ∧ Below w.heap.size w w' := by
  have hcG := spec_l1In g 1 2 w
  have hcW := spec_IsWord a c l w ha hl
  by_cases hG : Dn.Gr g
  · rw [show decide ((1 : Int) ≤ g ∧ g ≤ 2) = true from decide_eq_true hG] at hcG
    have Hcg := Lib.hid hcG; clear hcG
    by_cases hW : Word.IsW l
    · rw [decide_eq_true hW] at hcW
      have Hcw := Lib.hid hcW; clear hcW
      have HW := Lib.hid hW; have HG := Lib.hid hG
      obtain ⟨hg0, hg1⟩ := hG
      clear hW
      have Ha := Lib.hid ha; clear ha
      go_enter Try.func122, Try.ntmps122
      go_wp2_with fail
      refine Hcg.out.mono ?_
      rintro e w1 ⟨rfl, hw1⟩
      rw [hw1]; clear hw1 w1
      go_wp2_with fail
      refine Hcw.out.mono ?_
      rintro e w1 ⟨rfl, hb1⟩
      go_wp2
      go_loopw [5] (fun iv wr => ∃ i : Nat, i ≤ l.length ∧ iv = .int .i64 i ∧ Hid (∀ j (hj : j < l.length), j < i → (l[j].natAbs : Int) ≤ 2 * g) ∧ Hid (Below w.heap.size w wr)) (fun iv _ => l.length - (intOf iv).toNat)
      case atStart => exact ⟨0, by omega, rfl, Lib.hid (fun j _ h => by omega), Lib.hid hb1⟩
      case round =>
        obtain ⟨i, hi, rfl, hall, hb⟩ := hrel
        by_cases hlt : i < l.length
        · obtain ⟨b, o, rfl, hbw, hcell⟩ := intCells_at (Ha.out.below hb.out) hlt
          obtain ⟨hx0, hx1, hx2⟩ := HW.out.at hlt
          have hcE := spec_l3Abs l[i] wr (by omega) (by omega)
          by_cases hL : 2 * g < (l[i].natAbs : Int)
          · have Hd := Lib.hid (Dn.fit_bad hlt hL)
            have HcE := Lib.hid hcE; clear hcE
            generalize hx : l[i] = x at *
            have Hx := Lib.hid hx; clear hx
            generalize hy : (x.natAbs : Int) = y at *
            have Hy := Lib.hid hy; clear hy
            go_wp2_with fail
            refine HcE.out.mono ?_
            rintro e w3 ⟨rfl, hw3⟩
            rw [hw3]; clear hw3 w3
            go_wp2
            go_ret
            exact ⟨by rw [Hd.out]; rfl, hb.out⟩
          · have hall' := Lib.hid (show ∀ j (hj : j < l.length), j < i + 1 → (l[j].natAbs : Int) ≤ 2 * g from fun j hj h => by
              rcases Nat.lt_or_ge j i with h' | h'
              · exact hall.out j hj h'
              · obtain rfl : j = i := by omega
                omega)
            have HcE := Lib.hid hcE; clear hcE
            generalize hx : l[i] = x at *
            have Hx := Lib.hid hx; clear hx
            generalize hy : (x.natAbs : Int) = y at *
            have Hy := Lib.hid hy; clear hy
            go_wp2_with fail
            refine HcE.out.mono ?_
            rintro e w3 ⟨rfl, hw3⟩
            rw [hw3]; clear hw3 w3
            go_wp2
            go_roundw
            case rel => exact ⟨i + 1, by omega, by go_num, hall', hb⟩
            case measure => simp [intOf]; omega
        · obtain rfl : i = l.length := by omega
          have Hd := Lib.hid (Dn.fit_all HG.out HW.out hall.out)
          go_wp2
          go_ret
          exact ⟨by rw [Hd.out]; rfl, hb.out⟩
    · rw [decide_eq_false hW] at hcW
      have Hcw := Lib.hid hcW; clear hcW
      have Hd := Lib.hid (show decide (Dn.Fit g l) = false from decide_eq_false fun h => hW h.2.1)
      clear hW
      go_enter Try.func122, Try.ntmps122
      go_wp2_with fail
      refine Hcg.out.mono ?_
      rintro e w1 ⟨rfl, hw1⟩
      rw [hw1]; clear hw1 w1
      go_wp2_with fail
      refine Hcw.out.mono ?_
      rintro e w1 ⟨rfl, hb1⟩
      go_wp2
      go_ret
      exact ⟨by rw [Hd.out]; rfl, hb1⟩
  · rw [show decide ((1 : Int) ≤ g ∧ g ≤ 2) = false from decide_eq_false hG] at hcG
    have Hcg := Lib.hid hcG; clear hcG
    have Hd := Lib.hid (show decide (Dn.Fit g l) = false from decide_eq_false fun h => hG h.1)
    clear hG
    go_enter Try.func122, Try.ntmps122
    go_wp2_with fail
    refine Hcg.out.mono ?_
    rintro e w1 ⟨rfl, hw1⟩
    rw [hw1]; clear hw1 w1
    go_wp2
    go_ret
    exact ⟨by rw [Hd.out]; rfl, Below.refl _ _⟩

set_option maxRecDepth 10000 in
set_option maxHeartbeats 1000000 in
theorem impl_commonBeginning (a a' : Option Addr) (c c' : Nat) (v r : List Int) (w : World) (ha : RowAt w a (intCells v)) (ha' : RowAt w a' (intCells r)) (hv : v.length ≤ 1000) (hr : r.length ≤ 1000) :
    Calls Try.prog 148 #[.slice a v.length c, .slice a' r.length c'] w fun e w' => e = .returned (.int .i64 (Dn.lcp v r : Nat)) ∧ Below w.heap.size w w' := by
  have Ha := Lib.hid ha; have Ha' := Lib.hid ha'; clear ha ha'
  go_enter Try.func148, Try.ntmps148
  go_wp2
  go_loopw [5] (fun nv wr => ∃ n : Nat, nv = .int .i64 n ∧ n ≤ v.length ∧ n ≤ r.length ∧ Hid (Dn.Agree v r n) ∧ Hid (Below w.heap.size w wr)) (fun nv _ => v.length - (intOf nv).toNat)
  case atStart => exact ⟨0, rfl, Nat.zero_le _, Nat.zero_le _, Lib.hid (Dn.Agree.zero _ _), Lib.hid (Below.refl _ _)⟩
  case round =>
    obtain ⟨n, rfl, hn1, hn2, hag, hb⟩ := hrel
    by_cases hlt : n < v.length ∧ n < r.length
    · obtain ⟨hlv, hlr⟩ := hlt
      obtain ⟨b, o, rfl, hbw, hcell⟩ := intCells_at (Ha.out.below hb.out) hlv
      obtain ⟨b', o', rfl, hbw', hcell'⟩ := intCells_at (Ha'.out.below hb.out) hlr
      have d0 : decide (n < r.length) = true := decide_eq_true hlr
      have d1 : decide (n < v.length) = true := decide_eq_true hlv
      have i0 : (0 : Int) ≤ (n : Int) := by omega
      have i1 : (n : Int) < (v.length : Int) := by omega
      have i2 : (n : Int) < (r.length : Int) := by omega
      by_cases he : v[n] = r[n]
      · have Hag := Lib.hid (hag.out.step (List.getElem?_eq_getElem hlv) (by rw [List.getElem?_eq_getElem hlr, he]))
        have hE : (v[n] == r[n]) = true := beq_iff_eq.2 he
        clear he
        generalize v[n] = x at *
        generalize r[n] = y at *
        by_cases hrv : r.length < v.length
        all_goals
          go_wp2
          go_quiet (fail)
          all_goals go_wp2
          all_goals
            go_roundw
            case rel => exact ⟨n + 1, by go_num, by omega, by omega, Hag, Lib.hid (below_drewN hb.out _)⟩
            case measure => simp [intOf]; omega
      · have Hl := Lib.hid (hag.out.lcp (Or.inr (Or.inr (by rw [List.getElem?_eq_getElem hlv, List.getElem?_eq_getElem hlr]; exact fun e => he (Option.some.inj e)))))
        have hE : (v[n] == r[n]) = false := beq_eq_false_iff_ne.2 he
        clear he
        generalize v[n] = x at *
        generalize r[n] = y at *
        by_cases hrv : r.length < v.length
        all_goals
          go_wp2
          go_quiet (fail)
          all_goals go_wp2
          all_goals
            go_ret
            exact ⟨by rw [← Hl.out]; rfl, below_drewN hb.out _⟩
    · have Hl := Lib.hid (hag.out.lcp (by omega))
      by_cases hrv : r.length < v.length
      · have d0 : decide (n < r.length) = false := decide_eq_false (by omega)
        go_wp2
        go_quiet (fail)
        all_goals go_wp2
        all_goals
          go_ret
          exact ⟨by rw [← Hl.out]; rfl, below_drewN hb.out _⟩
      · have d0 : decide (n < v.length) = false := decide_eq_false (by omega)
        go_wp2
        go_quiet (fail)
        all_goals go_wp2
        all_goals
          go_ret
          exact ⟨by rw [← Hl.out]; rfl, below_drewN hb.out _⟩

set_option maxRecDepth 10000 in
set_option maxHeartbeats 1000000 in
theorem spec_l8Match (a a' : Option Addr) (c c' : Nat) (v r : List Int) (m : Int) (hm : m = (r.length : Int)) (w : World) (ha : RowAt w a (intCells v)) (ha' : RowAt w a' (intCells r)) (hv : v.length ≤ 1000) (hr : r.length ≤ 1000) :
    Calls Try.prog 149 #[.slice a v.length c, .slice a' r.length c', .int .i64 m] w fun e w' => e = .returned (.int .i64 (Dn.lcp v r : Nat)) ∧ Below w.heap.size w w' := by
  have Ha := Lib.hid ha; have Ha' := Lib.hid ha'; clear ha ha'
  have Hm := Lib.hid hm
  go_enter Try.func149, Try.ntmps149
  clear hm
  go_wp2
  go_loopw [7] (fun nv wr => ∃ n : Nat, nv = .int .i64 n ∧ n ≤ v.length ∧ n ≤ r.length ∧ Hid (Dn.Agree v r n) ∧ Hid (Below w.heap.size w wr)) (fun nv _ => v.length - (intOf nv).toNat)
  case atStart => exact ⟨0, rfl, Nat.zero_le _, Nat.zero_le _, Lib.hid (Dn.Agree.zero _ _), Lib.hid (Below.refl _ _)⟩
  case round =>
    obtain ⟨n, rfl, hn1, hn2, hag, hb⟩ := hrel
    by_cases hlr : n < r.length
    · have d0 : decide ((n : Int) < m) = true := decide_eq_true (by have := Hm.out; omega)
      have d2 : decide (n < r.length) = true := decide_eq_true hlr
      by_cases hlv : n < v.length
      · have d1 : decide (n < v.length) = true := decide_eq_true hlv
        obtain ⟨b, o, rfl, hbw, hcell⟩ := intCells_at (Ha.out.below hb.out) hlv
        obtain ⟨b', o', rfl, hbw', hcell'⟩ := intCells_at (Ha'.out.below hb.out) hlr
        have i0 : (0 : Int) ≤ (n : Int) := by omega
        have i1 : (n : Int) < (v.length : Int) := by omega
        have i2 : (n : Int) < (r.length : Int) := by omega
        by_cases he : v[n] = r[n]
        · have Hag := Lib.hid (hag.out.step (List.getElem?_eq_getElem hlv) (by rw [List.getElem?_eq_getElem hlr, he]))
          have hE : (v[n] == r[n]) = true := beq_iff_eq.2 he
          clear he
          generalize v[n] = x at *
          generalize r[n] = y at *
          go_wp2
          go_quiet (fail)
          all_goals go_wp2
          all_goals
            go_roundw
            case rel => exact ⟨n + 1, by go_num, by omega, by omega, Hag, Lib.hid (below_drewN hb.out _)⟩
            case measure => simp [intOf]; omega
        · have Hl := Lib.hid (hag.out.lcp (Or.inr (Or.inr (by rw [List.getElem?_eq_getElem hlv, List.getElem?_eq_getElem hlr]; exact fun e => he (Option.some.inj e)))))
          have hE : (v[n] == r[n]) = false := beq_eq_false_iff_ne.2 he
          clear he
          generalize v[n] = x at *
          generalize r[n] = y at *
          go_wp2
          go_quiet (fail)
          all_goals go_wp2
          all_goals
            go_ret
            exact ⟨by rw [← Hl.out]; rfl, below_drewN hb.out _⟩
      · have d1 : decide (n < v.length) = false := decide_eq_false hlv
        have Hl := Lib.hid (hag.out.lcp (by omega))
        go_wp2
        go_quiet (fail)
        all_goals go_wp2
        all_goals
          go_ret
          exact ⟨by rw [← Hl.out]; rfl, below_drewN hb.out _⟩
    · have d0 : decide ((n : Int) < m) = false := decide_eq_false (by have := Hm.out; omega)
      have Hl := Lib.hid (hag.out.lcp (by omega))
      go_wp2
      go_quiet (fail)
      all_goals go_wp2
      all_goals
        go_ret
        exact ⟨by rw [← Hl.out]; rfl, below_drewN hb.out _⟩

theorem Dn.rel_gives {w : World} {cs : Array Value} {n : Nat} {l : List Int} (hl : (intCells l).toArray = cs) (hn : l.length = n) (hm : n ≤ maxLen) : Gives w l (.returned (.slice (some ⟨w.heap.size, 0, none⟩) n n)) (w.alloc (.cells cs 3)) := by
  subst hl; subst hn
  exact ⟨_, _, rfl, Nat.le_refl _, hm, Fresh.of_blk (Blk.new w _ _) (Nat.le_refl _), (Below.refl _ _).alloc (Nat.le_refl _) _⟩
set_option maxRecDepth 10000 in
set_option maxHeartbeats 400000 in
theorem spec_Relator (g : Int) (w : World) : Calls Try.prog 59 #[.int .i64 g] w fun e w' => Gives w (Dn.rel g) e w' := by
  by_cases h1 : g = 1
  · subst h1
    go_enter Try.func59, Try.ntmps59
    go_wp2
    go_ret
    exact Dn.rel_gives (l := [1, 2, -1, -2]) (by rfl) rfl (by decide)
  · by_cases h2 : g = 2
    · subst h2
      go_enter Try.func59, Try.ntmps59
      go_wp2
      go_ret
      exact Dn.rel_gives (l := [1, 2, -1, -2, 3, 4, -3, -4]) (by rfl) rfl (by decide)
    · have Hd := Lib.hid (Dn.rel_not (g := g) (by unfold Dn.Gr; omega))
      have t1 : (g == 1) = false := beq_eq_false_iff_ne.2 h1
      have t2 : (g == 2) = false := beq_eq_false_iff_ne.2 h2
      clear h1 h2
      go_enter Try.func59, Try.ntmps59
      go_wp2
      go_ret
      rw [Hd.out]
      exact Dn.rel_gives (l := []) (by rfl) rfl (by decide)

theorem Dn.rel_poly {g : Int} (h : Dn.Gr g) : Surf.poly g.toNat 0 0 = Dn.rel g := by rcases Dn.gr_cases h with rfl | rfl <;> decide
set_option maxRecDepth 10000 in
set_option maxHeartbeats 400000 in
theorem impl_Relator (g : Int) (w : World) : Calls Try.prog 58 #[.int .i64 g] w fun e w' => Gives w (Dn.rel g) e w' := by
  have hcG := impl_isGroup g w
  by_cases hG : Dn.Gr g
  · rw [decide_eq_true hG] at hcG
    have Hcg := Lib.hid hcG; clear hcG
    have hP := impl_standardPolygon' g 0 0 w ⟨by obtain ⟨h0, h1⟩ := hG; omega, by omega, by omega, by omega⟩
    rw [show (0 : Int).toNat = 0 from rfl, Dn.rel_poly hG] at hP
    have HP := Lib.hid hP; clear hP
    go_enter Try.func58, Try.ntmps58
    go_wp2_with fail
    refine Hcg.out.mono ?_
    rintro e w1 ⟨rfl, hw1⟩
    rw [hw1]; clear hw1 w1
    go_wp2_with fail
    refine HP.out.mono ?_
    rintro e w2 hg
    have Hg := Lib.hid hg
    obtain ⟨a', c', rfl, _, _, _, _⟩ := hg
    go_wp2
    go_ret
    exact Hg.out
  · rw [decide_eq_false hG] at hcG
    have Hcg := Lib.hid hcG; clear hcG
    have Hd := Lib.hid (Dn.rel_not hG)
    clear hG
    go_enter Try.func58, Try.ntmps58
    go_wp2_with fail
    refine Hcg.out.mono ?_
    rintro e w1 ⟨rfl, hw1⟩
    rw [hw1]; clear hw1 w1
    go_wp2
    go_ret
    rw [Hd.out]
    exact Gives.none (Below.refl _ _)
end Go.Proofs.Ytfaagbmaekoogaa
namespace Go.Proofs.Ytfaagbmaekoogaa
open Go.RowKit

/-- What two loops in one another have met, up to the element j of the row i. -/
def met {β : Type} (f : List Int → Nat → β) (L : List (List Int)) (i j : Nat) : List β := ((L.take i).flatMap fun r => (List.range r.length).map (f r)) ++ (List.range j).map (f (L.getD i []))
def metAll {β : Type} (f : List Int → Nat → β) (L : List (List Int)) : List β := L.flatMap fun r => (List.range r.length).map (f r)
section
variable {β : Type} {f : List Int → Nat → β} {L : List (List Int)} {i : Nat} {r : List Int}
theorem met_zero : met f L 0 0 = [] := by simp [met]
theorem met_step (j : Nat) (hi : L[i]? = some r) : met f L i (j + 1) = met f L i j ++ [f r j] := by
  unfold met
  rw [List.getD_eq_getElem?_getD, hi, Option.getD_some, List.range_succ, List.map_append, List.append_assoc]; rfl
theorem met_next (hi : L[i]? = some r) : met f L i r.length = met f L (i + 1) 0 := by
  obtain ⟨h1, rfl⟩ := List.getElem?_eq_some_iff.1 hi
  unfold met
  rw [List.getD_eq_getElem?_getD, List.getElem?_eq_getElem h1, Option.getD_some, List.take_succ_eq_append_getElem h1, List.flatMap_append]
  simp
theorem met_end : met f L L.length 0 = metAll f L := by simp [met, metAll]
theorem met_mem {x : β} (h : x ∈ metAll f L) : ∃ r ∈ L, ∃ j, j < r.length ∧ x = f r j := by
  unfold metAll at h
  rw [List.mem_flatMap] at h
  obtain ⟨r, hr, h⟩ := h
  rw [List.mem_map] at h
  obtain ⟨j, hj, rfl⟩ := h
  exact ⟨r, hr, j, List.mem_range.1 hj, rfl⟩
end

namespace Cls
/-- The classes of a and b become one. -/
def merge (c : Nat → Nat) (p : Nat × Nat) : Nat → Nat := fun k => if c k = c p.1 then c p.2 else c k
def mergeAll (l : List (Nat × Nat)) : Nat → Nat := l.foldl merge id
theorem mergeAll_snoc (l : List (Nat × Nat)) (p : Nat × Nat) : mergeAll (l ++ [p]) = merge (mergeAll l) p := by simp [mergeAll]
/-- The labels as a list. -/
def row (c : Nat → Nat) (n : Nat) : List Int := (List.range n).map fun k => ((c k : Nat) : Int)
theorem row_len (c : Nat → Nat) (n : Nat) : (row c n).length = n := by simp [row]
theorem row_get {c : Nat → Nat} {n k : Nat} (h : k < n) : (row c n)[k]? = some ((c k : Nat) : Int) := by simp [row, h]
theorem row_getD {c : Nat → Nat} {n k : Nat} (h : k < n) : (row c n).getD k 0 = ((c k : Nat) : Int) := by rw [List.getD_eq_getElem?_getD, row_get h]; rfl

/-- Labels below n, each the label of itself. -/
structure Ok (c : Nat → Nat) (n : Nat) : Prop where
  lt : ∀ k, k < n → c k < n
  idem : ∀ k, k < n → c (c k) = c k
theorem Ok.start (n : Nat) : Ok id n := ⟨fun _ h => h, fun _ _ => rfl⟩
theorem Ok.merge {c : Nat → Nat} {n : Nat} (h : Ok c n) {p : Nat × Nat} (h1 : p.1 < n) (h2 : p.2 < n) : Ok (Cls.merge c p) n := by
  constructor
  · intro k hk
    unfold Cls.merge
    split
    · exact h.lt _ h2
    · exact h.lt _ hk
  · intro k hk
    unfold Cls.merge
    by_cases e : c k = c p.1
    · rw [if_pos e]
      by_cases e2 : c p.2 = c p.1
      · rw [h.idem _ h2, if_pos e2]
      · rw [h.idem _ h2, if_neg e2]
    · rw [if_neg e, h.idem _ hk, if_neg e]
theorem Ok.all {n : Nat} {l : List (Nat × Nat)} (h : ∀ p ∈ l, p.1 < n ∧ p.2 < n) : Ok (mergeAll l) n := by
  have key : ∀ (m : List (Nat × Nat)) (c : Nat → Nat), Ok c n → (∀ p ∈ m, p.1 < n ∧ p.2 < n) → Ok (m.foldl Cls.merge c) n := by
    intro m
    induction m with
    | nil => intro c h _; exact h
    | cons p m ih => intro c hc hm; exact ih _ (hc.merge (hm p (List.mem_cons_self ..)).1 (hm p (List.mem_cons_self ..)).2) (fun q hq => hm q (List.mem_cons_of_mem _ hq))
  exact key l id (Ok.start n) h
/-- A set that holds both ends of what is merged holds the labels of its members. -/
theorem closed {S : Nat → Prop} {l : List (Nat × Nat)} (h : ∀ p ∈ l, S p.1 ∧ S p.2) : ∀ k, S k → S (mergeAll l k) := by
  have key : ∀ (m : List (Nat × Nat)) (c : Nat → Nat), (∀ k, S k → S (c k)) → (∀ p ∈ m, S p.1 ∧ S p.2) → ∀ k, S k → S (m.foldl Cls.merge c k) := by
    intro m
    induction m with
    | nil => intro c h _; exact h
    | cons p m ih =>
      intro c hc hm
      refine ih _ (fun k hk => ?_) (fun q hq => hm q (List.mem_cons_of_mem _ hq))
      unfold Cls.merge
      split
      · exact hc _ (hm p (List.mem_cons_self ..)).2
      · exact hc _ hk
  exact key l id (fun _ h => h) h

/-- A forest u whose roots are the labels c; d falls along it. -/
structure Up (u c d : Nat → Nat) (n : Nat) : Prop where
  ok : Ok c n
  lt : ∀ k, k < n → u k < n
  same : ∀ k, k < n → c (u k) = c k
  root : ∀ k, k < n → (u k = k ↔ c k = k)
  falls : ∀ k, k < n → u k ≠ k → d (u k) < d k
theorem Up.start (n : Nat) : Up id id (fun _ => 0) n := ⟨Ok.start n, fun _ h => h, fun _ _ => rfl, fun _ _ => Iff.rfl, fun _ _ h => absurd rfl h⟩
/-- One root is hung below another. -/
theorem Up.link {u c d : Nat → Nat} {n : Nat} (h : Up u c d n) {p : Nat × Nat} (h1 : p.1 < n) (h2 : p.2 < n) :
    Up (fun k => if k = c p.1 then c p.2 else u k) (Cls.merge c p) (fun k => if c k = c p.1 then d k + d (c p.2) + 1 else d k) n := by
  have ia := h.ok.idem _ h1
  have ib := h.ok.idem _ h2
  refine ⟨h.ok.merge h1 h2, fun k hk => ?_, fun k hk => ?_, fun k hk => ?_, fun k hk hne => ?_⟩
  · show (if k = c p.1 then c p.2 else u k) < n
    split
    · exact h.ok.lt _ h2
    · exact h.lt _ hk
  · show Cls.merge c p (if k = c p.1 then c p.2 else u k) = Cls.merge c p k
    unfold Cls.merge
    by_cases e : k = c p.1
    · rw [if_pos e, e, ib, ia, if_pos rfl]
      split <;> rfl
    · rw [if_neg e, h.same k hk]
  · show (if k = c p.1 then c p.2 else u k) = k ↔ Cls.merge c p k = k
    unfold Cls.merge
    by_cases e : k = c p.1
    · rw [if_pos e, if_pos (by rw [e]; exact ia)]
    · rw [if_neg e]
      by_cases e2 : c k = c p.1
      · rw [if_pos e2]
        constructor
        · intro hu; have := (h.root k hk).1 hu; omega
        · intro hc
          rw [← hc, ib] at e2
          omega
      · rw [if_neg e2]; exact h.root k hk
  · show (if c (if k = c p.1 then c p.2 else u k) = c p.1 then d (if k = c p.1 then c p.2 else u k) + d (c p.2) + 1 else d (if k = c p.1 then c p.2 else u k)) < (if c k = c p.1 then d k + d (c p.2) + 1 else d k)
    have hne' : (if k = c p.1 then c p.2 else u k) ≠ k := hne
    by_cases e : k = c p.1
    · rw [if_pos e] at hne' ⊢
      rw [ib, if_neg (by omega), if_pos (by rw [e]; exact ia)]
      omega
    · rw [if_neg e] at hne' ⊢
      have hf := h.falls k hk hne'
      rw [h.same k hk]
      split
      · omega
      · exact hf
theorem row_link {u : Nat → Nat} {n a b : Nat} (ha : a < n) : (row u n).set a ((b : Nat) : Int) = row (fun k => if k = a then b else u k) n := by
  apply List.ext_getElem?
  intro k
  rw [List.getElem?_set]
  by_cases hk : k < n
  · by_cases e : a = k
    · subst e; rw [if_pos rfl, if_pos (by rw [row_len]; exact hk), row_get hk, if_pos rfl]
    · rw [if_neg e, row_get hk, row_get hk, if_neg (fun h => e h.symm)]
  · have h1 : (row u n)[k]? = none := List.getElem?_eq_none (by rw [row_len]; omega)
    have h2 : (row (fun k => if k = a then b else u k) n)[k]? = none := List.getElem?_eq_none (by rw [row_len]; omega)
    rw [h2]
    split
    · rw [if_neg (by rw [row_len]; omega)]
    · exact h1

/-- The labels that have been found. -/
def foundStep (c : Nat → Nat) (out : List Nat) (m : Nat) : List Nat := if c m ∈ out then out else out ++ [c m]
def found (c : Nat → Nat) (ms : List Nat) : List Nat := ms.foldl (foundStep c) []
theorem found_snoc (c : Nat → Nat) (ms : List Nat) (m : Nat) : found c (ms ++ [m]) = foundStep c (found c ms) m := by simp [found]
theorem found_mem (c : Nat → Nat) (ms : List Nat) (x : Nat) : x ∈ found c ms ↔ ∃ m ∈ ms, c m = x := by
  have key : ∀ (l out : List Nat), x ∈ l.foldl (foundStep c) out ↔ x ∈ out ∨ ∃ m ∈ l, c m = x := by
    intro l
    induction l with
    | nil => intro out; simp
    | cons m l ih =>
      intro out
      rw [List.foldl_cons, ih]
      unfold foundStep
      constructor
      · rintro (h | ⟨q, hq, rfl⟩)
        · split at h
          · exact Or.inl h
          · rcases List.mem_append.1 h with h | h
            · exact Or.inl h
            · simp only [List.mem_singleton] at h; subst h; exact Or.inr ⟨m, List.mem_cons_self .., rfl⟩
        · exact Or.inr ⟨q, List.mem_cons_of_mem _ hq, rfl⟩
      · rintro (h | ⟨q, hq, rfl⟩)
        · left; split
          · exact h
          · exact List.mem_append.2 (Or.inl h)
        · rcases List.mem_cons.1 hq with rfl | hq
          · left; split
            · assumption
            · exact List.mem_append.2 (Or.inr (List.mem_singleton.2 rfl))
          · exact Or.inr ⟨q, hq, rfl⟩
  rw [found, key]; simp
theorem found_nodup (c : Nat → Nat) (ms : List Nat) : (found c ms).Nodup := by
  have key : ∀ (l out : List Nat), out.Nodup → (l.foldl (foundStep c) out).Nodup := by
    intro l
    induction l with
    | nil => intro out h; exact h
    | cons m l ih =>
      intro out h
      rw [List.foldl_cons]
      refine ih _ ?_
      unfold foundStep
      split
      · exact h
      · rename_i hn
        rw [List.nodup_append]
        refine ⟨h, by simp, fun x hx y hy => ?_⟩
        simp only [List.mem_singleton] at hy
        subst hy
        rintro rfl
        exact hn hx
  exact key ms [] List.nodup_nil
theorem found_len (c : Nat → Nat) (ms : List Nat) : (found c ms).length ≤ ms.length := by
  have key : ∀ (l out : List Nat), (l.foldl (foundStep c) out).length ≤ out.length + l.length := by
    intro l
    induction l with
    | nil => intro out; simp
    | cons m l ih =>
      intro out
      rw [List.foldl_cons]
      have := ih (foundStep c out m)
      have h2 : (foundStep c out m).length ≤ out.length + 1 := by unfold foundStep; split <;> simp
      simp only [List.length_cons]; omega
  have := key ms []
  simpa [found] using this
/-- How many members are labels of themselves. -/
def tally (c : Nat → Nat) (ms : List Nat) : Nat := (ms.filter fun m => c m == m).length
theorem tally_snoc (c : Nat → Nat) (ms : List Nat) (m : Nat) : tally c (ms ++ [m]) = tally c ms + if c m = m then 1 else 0 := by
  unfold tally
  rw [List.filter_append, List.length_append]
  by_cases h : c m = m <;> simp [h]
theorem tally_le (c : Nat → Nat) (ms : List Nat) : tally c ms ≤ ms.length := List.length_filter_le _ _
theorem tally_found {c : Nat → Nat} {ms : List Nat} (hn : ms.Nodup) (hc : ∀ m ∈ ms, c m ∈ ms) (hi : ∀ m ∈ ms, c (c m) = c m) : tally c ms = (found c ms).length := by
  unfold tally
  refine List.Perm.length_eq ((List.perm_ext_iff_of_nodup (hn.filter _) (found_nodup c ms)).2 fun x => ?_)
  rw [found_mem, List.mem_filter]
  constructor
  · rintro ⟨h1, h2⟩
    exact ⟨x, h1, by simpa using h2⟩
  · rintro ⟨m, hm, rfl⟩
    exact ⟨hc m hm, by simpa using hi m hm⟩
end Cls
end Go.Proofs.Ytfaagbmaekoogaa
namespace Go.Proofs.Ytfaagbmaekoogaa
open Go.RowKit

def intsOf (ms : List Nat) : List Int := ms.map fun k => ((k : Nat) : Int)
theorem intsOf_len (ms : List Nat) : (intsOf ms).length = ms.length := by simp [intsOf]
theorem intsOf_get {ms : List Nat} {i m : Nat} (h : ms[i]? = some m) : (intsOf ms)[i]? = some ((m : Nat) : Int) := by simp [intsOf, h]
theorem intsOf_snoc (ms : List Nat) (m : Nat) : intsOf (ms ++ [m]) = intsOf ms ++ [((m : Nat) : Int)] := by simp [intsOf]
theorem intsOf_mem {ms : List Nat} {m : Nat} : ((m : Nat) : Int) ∈ intsOf ms ↔ m ∈ ms := by
  unfold intsOf
  rw [List.mem_map]
  constructor
  · rintro ⟨k, hk, e⟩; obtain rfl : k = m := by omega
    exact hk
  · intro h; exact ⟨m, h, rfl⟩

/-- The block g holds the numbers u 0, u 1, .. below n, and maybe more behind them. -/
def Lab (w : World) (g : Nat) (u : Nat → Nat) (n : Nat) : Prop := ∃ all, Blk w g 3 all ∧ ∀ k, k < n → all[k]? = some (.int .i64 ((u k : Nat) : Int))
section
variable {w w' : World} {g n : Nat} {u : Nat → Nat}
theorem Lab.lt (h : Lab w g u n) : g < w.heap.size := by obtain ⟨_, h, _⟩ := h; exact h.lt
theorem Lab.cell (h : Lab w g u n) {k : Nat} (hk : k < n) : w.cell? ⟨g, k, none⟩ = some (.int .i64 ((u k : Nat) : Int)) := by
  obtain ⟨all, h, hc⟩ := h
  rw [h.cell]; exact hc k hk
theorem Lab.frozen (h : Lab w g u n) (k : Nat) : w.frozen? ⟨g, k, none⟩ = false := by obtain ⟨_, h, _⟩ := h; exact h.frozen k
theorem Lab.row (h : Lab w g u n) : RowAt w (some ⟨g, 0, none⟩) (intCells (Cls.row u n)) := by
  refine Or.inr ⟨g, 0, rfl, h.lt, fun i v hv => ?_⟩
  have hi : i < n := by
    have := (List.getElem?_eq_some_iff.1 hv).1
    rwa [intCells_len, Cls.row_len] at this
  rw [Nat.zero_add, h.cell hi]
  simp [intCells, Cls.row_get hi] at hv
  rw [← hv]
theorem Lab.put (h : Lab w g u n) {i b : Nat} (hi : i < n) : Lab (w.setCell ⟨g, i, none⟩ (.int .i64 ((b : Nat) : Int))) g (fun k => if k = i then b else u k) n := by
  obtain ⟨all, h, hc⟩ := h
  refine ⟨_, h.put i _, fun k hk => ?_⟩
  rw [Array.getElem?_setIfInBounds]
  by_cases e : i = k
  · subst e
    have := (Array.getElem?_eq_some_iff.1 (hc i hi)).1
    simp [this]
  · have e' : ¬ k = i := fun h => e h.symm
    simp only [e, e', if_false]; exact hc k hk
theorem Lab.congr (h : Lab w g u n) {v : Nat → Nat} (he : ∀ k, k < n → u k = v k) : Lab w g v n := by
  obtain ⟨all, h, hc⟩ := h
  exact ⟨all, h, fun k hk => by rw [hc k hk, he k hk]⟩
theorem Lab.below {B : Nat} (h : Lab w g u n) (hb : Below B w w') (hg : g < B) : Lab w' g u n := by
  obtain ⟨all, h, hc⟩ := h
  exact ⟨all, h.below hb hg, hc⟩
theorem Lab.drewN (h : Lab w g u n) (m : Nat) : Lab (w.drewN m) g u n := h
theorem Lab.of_blk (h : Blk w g 3 (intCells (Cls.row u n)).toArray) : Lab w g u n := ⟨_, h, fun k hk => by simp [intCells, Cls.row_get hk]⟩
end



set_option maxRecDepth 10000 in
set_option maxHeartbeats 1000000 in
theorem spec_l3Find (a : Option Addr) (cap n : Nat) (u c d : Nat → Nat) (k : Nat) (z : Int) (hz : z = ((k : Nat) : Int)) (w : World) (ha : RowAt w a (intCells (Cls.row u n))) (hu : Cls.Up u c d n) (hk : k < n) (hn : n ≤ 1000) :
    Calls Try.prog 111 #[.slice a n cap, .int .i64 z] w fun e w' => e = .returned (.int .i64 ((c k : Nat) : Int)) ∧ w' = w := by
  subst hz
  have Hu := Lib.hid hu
  have Ha := Lib.hid ha
  generalize hv : c k = v
  have Hv := Lib.hid hv
  clear hu ha hv
  go_enter Try.func111, Try.ntmps111
  go_wp2
  go_loopw [1] (fun kv wr => ∃ j : Nat, j < n ∧ kv = .int .i64 j ∧ Hid (c j = v) ∧ wr = w) (fun kv _ => d (intOf kv).toNat)
  case atStart => exact ⟨k, hk, rfl, Hv, rfl⟩
  case round =>
    obtain ⟨j, hj, rfl, hc, rfl⟩ := hrel
    obtain ⟨b, o, rfl, hbw, hcell⟩ := intCells_get? Ha.out (Cls.row_get hj)
    have hlt := Hu.out.lt j hj
    have hsame := Hu.out.same j hj
    have hroot := Hu.out.root j hj
    have hfall := Hu.out.falls j hj
    generalize hm : u j = m at *
    have Hsame := Lib.hid hsame; have Hroot := Lib.hid hroot; have Hfall := Lib.hid hfall
    have h0j : (0 : Int) ≤ (j : Int) := by omega
    have h1j : (j : Int) < (n : Int) := by omega
    clear hsame hroot hfall hm
    by_cases he : m = j
    · subst he
      go_wp2
      go_ret
      refine ⟨?_, rfl⟩
      rw [← hc.out, Hroot.out.1 (by first | rfl | trivial)]; rfl
    · have hne : ((m : Int) != (j : Int)) = true := by simp; omega
      go_wp2
      go_roundw
      case rel => exact ⟨m, hlt, by first | rfl | trivial, Lib.hid (by rw [Hsame.out]; exact hc.out), trivial⟩
      case measure => simpa [intOf] using Hfall.out he

set_option maxRecDepth 10000 in
set_option maxHeartbeats 1000000 in
theorem lib_Index (a : Option Addr) (cap : Nat) (l : List Int) (x : Int) (w : World) (ha : RowAt w a (intCells l)) (hl : l.length ≤ 1000000) :
    Calls Try.prog 147 #[.slice a l.length cap, .int .i64 x] w fun e w' => (∃ z : Int, e = .returned (.int .i64 z) ∧ decide (0 ≤ z) = decide (x ∈ l)) ∧ w' = w := by
  have Ha := Lib.hid ha; clear ha
  go_enter Try.func147, Try.ntmps147
  go_wp2
  go_loopw [5, 8] (fun _ iv wr => ∃ i : Nat, i ≤ l.length ∧ iv = .int .i64 i ∧ Hid (∀ j, j < i → l[j]? ≠ some x) ∧ wr = w) (fun _ iv _ => l.length - (intOf iv).toNat)
  case atStart => exact ⟨0, by omega, rfl, Lib.hid (fun _ h => by omega), rfl⟩
  case round =>
    obtain ⟨i, hi, rfl, hno, rfl⟩ := hrel
    by_cases hlt : i < l.length
    · obtain ⟨y, hy⟩ := get_some hlt
      obtain ⟨b, o, rfl, hbw, hcell⟩ := intCells_get? Ha.out hy
      have Hy := Lib.hid hy; clear hy
      by_cases he : x = y
      · have heq : (x == y) = true := by simp [he]
        have Hd := Lib.hid (show decide ((0 : Int) ≤ (i : Int)) = decide (x ∈ l) by rw [decide_eq_true (show (0 : Int) ≤ (i : Int) by omega), decide_eq_true (he ▸ get_mem Hy.out)])
        clear he
        go_wp2
        go_ret
        exact ⟨⟨_, rfl, Hd.out⟩, rfl⟩
      · have heq : (x == y) = false := by simp [he]
        have Hne := Lib.hid he
        clear he
        go_wp2
        go_roundw
        case rel => exact ⟨i + 1, by omega, by go_num, Lib.hid (fun j hj => by
          rcases Nat.lt_or_ge j i with h | h
          · exact hno.out j h
          · obtain rfl : j = i := by omega
            rw [Hy.out]; intro e; exact Hne.out (Option.some.inj e).symm), trivial⟩
        case measure => simp [intOf]; omega
    · obtain rfl : i = l.length := by omega
      go_wp2
      go_ret
      refine ⟨⟨_, rfl, ?_⟩, rfl⟩
      rw [decide_eq_false (by omega), decide_eq_false]
      intro h
      obtain ⟨j, hj, e⟩ := List.mem_iff_getElem.1 h
      exact hno.out j hj (by rw [List.getElem?_eq_getElem hj, e])

set_option maxRecDepth 10000 in
set_option maxHeartbeats 1000000 in
theorem lib_Contains (a : Option Addr) (cap : Nat) (l : List Int) (x : Int) (w : World) (ha : RowAt w a (intCells l)) (hl : l.length ≤ 1000000) :
    Calls Try.prog 139 #[.slice a l.length cap, .int .i64 x] w fun e w' => e = .returned (.bool (decide (x ∈ l))) ∧ w' = w := by
  have hc := Lib.hid (lib_Index a cap l x w ha hl)
  generalize decide (x ∈ l) = v at *
  go_enter Try.func139, Try.ntmps139
  go_wp2_with fail
  refine hc.out.mono ?_
  rintro e w1 ⟨⟨z, rfl, hz⟩, rfl⟩
  have Hz := Lib.hid hz; clear hz
  go_wp2
  go_ret
  exact ⟨by rw [← Hz.out]; rfl, rfl⟩

end Go.Proofs.Ytfaagbmaekoogaa
namespace Go.Proofs.Ytfaagbmaekoogaa
open Go.RowKit

namespace Dn
theorem lcp_comm : ∀ (v r : List Int), lcp v r = lcp r v
  | [], [] => rfl
  | [], _ :: _ => rfl
  | _ :: _, [] => rfl
  | x :: v, y :: r => by
    unfold lcp
    by_cases h : x = y
    · rw [if_pos h, if_pos h.symm, lcp_comm v r]
    · rw [if_neg h, if_neg (fun e => h e.symm)]
theorem idxOf_eq {x : Int} : ∀ (l : List Int) (i : Nat), (∀ j, j < i → l[j]? ≠ some x) → l[i]? = some x → l.idxOf x = i
  | [], i, _, h => by simp at h
  | y :: l, 0, _, h => by simp at h; subst h; simp
  | y :: l, i + 1, hn, h => by
    have h0 : y ≠ x := fun e => hn 0 (by omega) (by simp [e])
    have := idxOf_eq l i (fun j hj => by have := hn (j + 1) (by omega); simpa using this) (by simpa using h)
    have hb : (y == x) = false := beq_eq_false_iff_ne.2 h0
    rw [List.idxOf_cons, hb, cond_false, this]
/-- After i of the two ways around. -/
def along (g x : Int) (v : List Int) (i : Nat) : Nat × List Int := ((List.range i).map fun t => around g x (t == 1)).foldl (pick v) (0, [])
theorem along_succ (g x : Int) (v : List Int) (i : Nat) : along g x v (i + 1) = pick v (along g x v i) (around g x (i == 1)) := by
  unfold along; rw [List.range_succ, List.map_append, List.foldl_append]; rfl
theorem along_two {g x : Int} (hg : Gr g) {v : List Int} (hx : v[0]? = some x) (hl : Let g x) : along g x v 2 = bestTo g v (8 * g).toNat := by
  cases v with
  | nil => simp at hx
  | cons y v => simp at hx; subst hx; rw [around_best hg hl]; rfl
theorem along_le (g x : Int) (v : List Int) (i : Nat) : (along g x v i).1 ≤ v.length ∧ (along g x v i).1 ≤ (along g x v i).2.length :=
  fold_le v _ ⟨Nat.zero_le _, Nat.zero_le _⟩
theorem in_rel {g x : Int} (hg : Gr g) (hx : Let g x) : x ∈ rel g ∧ x ∈ Word.inv (rel g) := by
  obtain ⟨⟨h0, _, _⟩, h3⟩ := hx
  rcases gr_cases hg with rfl | rfl
  · have : x = -2 ∨ x = -1 ∨ x = 1 ∨ x = 2 := by omega
    rcases this with rfl | rfl | rfl | rfl <;> decide
  · have : x = -4 ∨ x = -3 ∨ x = -2 ∨ x = -1 ∨ x = 1 ∨ x = 2 ∨ x = 3 ∨ x = 4 := by omega
    rcases this with rfl | rfl | rfl | rfl | rfl | rfl | rfl | rfl <;> decide
end Dn
/-- The call gives these integers, in memory of its own, and a number. -/
def GivesN (w : World) (l : List Int) (n : Nat) (e : Ending) (w' : World) : Prop := ∃ a c, e = .returned (.tuple #[.slice a l.length c, .int .i64 (n : Int)]) ∧ l.length ≤ c ∧ c ≤ maxLen ∧ Fresh w' w.heap.size 3 a (intCells l) ∧ Below w.heap.size w w'

set_option maxRecDepth 10000 in
set_option maxHeartbeats 1000000 in
theorem lib_IndexOf (a : Option Addr) (cap : Nat) (l : List Int) (x : Int) (w : World) (ha : RowAt w a (intCells l)) (hl : l.length ≤ 1000000) (hx : x ∈ l) :
    Calls Try.prog 147 #[.slice a l.length cap, .int .i64 x] w fun e w' => e = .returned (.int .i64 (l.idxOf x : Nat)) ∧ w' = w := by
  have Ha := Lib.hid ha; clear ha
  have HX := Lib.hid hx; clear hx
  go_enter Try.func147, Try.ntmps147
  go_wp2
  go_loopw [5, 8] (fun _ iv wr => ∃ i : Nat, i ≤ l.length ∧ iv = .int .i64 i ∧ Hid (∀ j, j < i → l[j]? ≠ some x) ∧ wr = w) (fun _ iv _ => l.length - (intOf iv).toNat)
  case atStart => exact ⟨0, by omega, rfl, Lib.hid (fun _ h => by omega), rfl⟩
  case round =>
    obtain ⟨i, hi, rfl, hno, rfl⟩ := hrel
    by_cases hlt : i < l.length
    · obtain ⟨y, hy⟩ := get_some hlt
      obtain ⟨b, o, rfl, hbw, hcell⟩ := intCells_get? Ha.out hy
      have Hy := Lib.hid hy; clear hy
      by_cases he : x = y
      · have heq : (x == y) = true := by simp [he]
        have Hd := Lib.hid (Dn.idxOf_eq l i hno.out (by rw [Hy.out, he]))
        clear he
        go_wp2
        go_ret
        exact ⟨by rw [Hd.out]; rfl, rfl⟩
      · have heq : (x == y) = false := by simp [he]
        have Hne := Lib.hid he
        clear he
        go_wp2
        go_roundw
        case rel => exact ⟨i + 1, by omega, by go_num, Lib.hid (fun j hj => by
          rcases Nat.lt_or_ge j i with h | h
          · exact hno.out j h
          · obtain rfl : j = i := by omega
            rw [Hy.out]; intro e; exact Hne.out (Option.some.inj e).symm), trivial⟩
        case measure => simp [intOf]; omega
    · exfalso
      obtain rfl : i = l.length := by omega
      obtain ⟨j, hj, e⟩ := List.mem_iff_getElem.1 HX.out
      exact hno.out j hj (by rw [List.getElem?_eq_getElem hj, e])

theorem impl_InverseRel (a : Option Addr) (c : Nat) (g : Int) (w : World) (ha : RowAt w a (intCells (Dn.rel g))) :
    Calls Try.prog 99 #[.slice a (Dn.rel g).length c] w fun e w' => Gives w (Word.inv (Dn.rel g)) e w' := by
  have h := impl_InverseWord a c (Dn.rel g) w ha (Nat.le_trans (Dn.rel_len8 g) (by decide))
  rwa [inverse_of (Dn.rel_w g)] at h
set_option maxRecDepth 10000 in
set_option maxHeartbeats 2000000 in
theorem impl_relatorAlong (g x : Int) (a : Option Addr) (c : Nat) (v : List Int) (w : World) (hg : Dn.Gr g) (ha : RowAt w a (intCells v)) (hv : v.length ≤ 1000) (hx : v[0]? = some x) (hlx : Dn.Let g x) :
    Calls Try.prog 121 #[.int .i64 g, .slice a v.length c] w fun e w' => GivesN w (Dn.bestTo g v (8 * g).toNat).2 (Dn.bestTo g v (8 * g).toNat).1 e w' := by
  rw [← Dn.along_two hg hx hlx]
  have hlen := (List.getElem?_eq_some_iff.1 hx).1
  obtain ⟨hin1, hin2⟩ := Dn.in_rel hg hlx
  obtain ⟨b0, o0, rfl, hb0, hc0⟩ := intCells_get? ha hx
  rw [Nat.add_zero] at hc0
  have Hg := Lib.hid hg; have Hx := Lib.hid hx; have Hlx := Lib.hid hlx; have Hin1 := Lib.hid hin1; have Hin2 := Lib.hid hin2
  have Ha := Lib.hid ha; have Hc0 := Lib.hid hc0
  clear hg hx hlx hin1 hin2 ha hc0
  go_enter Try.func121, Try.ntmps121
  go_wp2_with fail
  refine (impl_Relator g w).mono ?_
  rintro e w1 ⟨ra, rc, rfl, hrc, hrcm, hfr, hb1⟩
  have Hfr := Lib.hid hfr; have Hb1 := Lib.hid hb1
  clear hfr hb1
  go_wp2_with fail
  refine (impl_InverseRel ra rc g w1 Hfr.out.row).mono ?_
  rintro e w2 ⟨ia, ic, rfl, hic, hicm, hfi, hb2⟩
  have Hfi := Lib.hid hfi; have Hb2 := Lib.hid hb2
  clear hfi hb2
  obtain ⟨w3, hw3⟩ : ∃ w3, w3 = w2.alloc (.cells #[.slice ra (Dn.rel g).length rc, .slice ia (Word.inv (Dn.rel g)).length ic] 42) := ⟨_, rfl⟩
  have hb3 : Below w.heap.size w w3 := by rw [hw3]; exact (Hb1.out.trans (Hb2.out.mono Hb1.out.size)).alloc (Nat.le_trans Hb1.out.size Hb2.out.size) _
  have hblk : Blk w3 w2.heap.size 42 #[.slice ra (Dn.rel g).length rc, .slice ia (Word.inv (Dn.rel g)).length ic] := by rw [hw3]; exact Blk.new w2 _ _
  have hr1 : RowAt w3 ra (intCells (Dn.rel g)) := by
    have := Hfr.out.row.below Hb2.out
    rw [hw3]; exact this.below ((Below.refl _ _).alloc (Nat.le_refl _) _)
  have hr2 : RowAt w3 ia (intCells (Word.inv (Dn.rel g))) := by rw [hw3]; exact Hfi.out.row.below ((Below.refl _ _).alloc (Nat.le_refl _) _)
  have Hb3 := Lib.hid hb3; have Hblk := Lib.hid hblk; have Hr1 := Lib.hid hr1; have Hr2 := Lib.hid hr2; have Hw3 := Lib.hid hw3
  clear hb3 hblk hr1 hr2 hw3
  go_wp2
  rw [← Hw3.out]
  generalize hH : w2.heap.size = H at *
  have HH := Lib.hid hH; clear hH
  go_loopw [6, 7, 10, 11, 12, 20] (fun sv lv _ _ _ iv wr => ∃ i : Nat, ∃ sa sc, i ≤ 2 ∧ iv = .int .i64 i ∧ lv = .int .i64 (Dn.along g x v i).1 ∧ sv = .slice sa (Dn.along g x v i).2.length sc ∧ Hid ((Dn.along g x v i).2.length ≤ sc ∧ sc ≤ maxLen ∧ Fresh wr w.heap.size 3 sa (intCells (Dn.along g x v i).2) ∧ Below w3.heap.size w3 wr)) (fun _ _ _ _ _ iv _ => 2 - (intOf iv).toNat)
  case atStart => exact ⟨0, none, 0, by omega, rfl, rfl, rfl, Lib.hid ⟨Nat.le_refl _, Nat.zero_le _, Or.inl rfl, Below.refl _ _⟩⟩
  case round =>
    obtain ⟨i, sa, sc, hi, rfl, rfl, rfl, hh⟩ := hrel
    by_cases hlt : i < 2
    · have hb := hh.out.2.2.2
      have hbw := Hb3.out.trans (hb.mono Hb3.out.size)
      have hpart : ∃ pa pc lst, wr.cell? ⟨H, i, none⟩ = some (.slice pa (lst : List Int).length pc) ∧ RowAt wr pa (intCells lst) ∧ lst.length ≤ pc ∧ Word.IsW lst ∧ lst.length ≤ 8 ∧ x ∈ lst ∧ Word.turn lst (lst.idxOf x : Nat) = Dn.around g x (i == 1) := by
        have hblk' := Hblk.out.below hb Hblk.out.lt
        rcases (show i = 0 ∨ i = 1 by omega) with rfl | rfl
        · exact ⟨ra, rc, Dn.rel g, by rw [hblk'.cell 0]; rfl, Hr1.out.below hb, hrc, Dn.rel_w g, Dn.rel_len8 g, Hin1.out, rfl⟩
        · refine ⟨ia, ic, Word.inv (Dn.rel g), by rw [hblk'.cell 1]; rfl, Hr2.out.below hb, hic, ?_, by rw [Word.inv_len]; exact Dn.rel_len8 g, Hin2.out, rfl⟩
          exact ⟨Dn.inv_letters (p := Word.Letter) (fun y hy => ⟨by have := hy.1; omega, by have := hy.2.2; omega, by have := hy.2.1; omega⟩) (Dn.rel_w g).1, by rw [Word.inv_len]; exact (Dn.rel_w g).2⟩
      obtain ⟨pa, pc, lst, hcell, hrow, hlc, hW, hl8, hmem, hturn⟩ := hpart
      have hc0 : wr.cell? ⟨b0, o0, none⟩ = some (.int .i64 x) := by rw [hbw.cell (p := ⟨b0, o0, none⟩) hb0]; exact Hc0.out
      have Hrow := Lib.hid hrow; have HW := Lib.hid hW; have Hmem := Lib.hid hmem; have Hturn := Lib.hid hturn; have Hlc := Lib.hid hlc; have Hl8 := Lib.hid hl8; have Hbw := Lib.hid hbw
      clear hrow hW hmem hturn hlc hl8 hbw hb
      have dlt : decide ((i : Int) < 2) = true := decide_eq_true (by omega)
      have hidx := List.idxOf_lt_length_of_mem Hmem.out
      have Hidx := Lib.hid hidx; clear hidx
      go_wp2_with fail
      refine (lib_IndexOf pa pc lst x wr Hrow.out (Nat.le_trans Hl8.out (by decide)) Hmem.out).mono ?_
      rintro e w4 ⟨rfl, hw4⟩
      rw [hw4]; clear hw4 w4
      go_wp2_with fail
      refine (impl_TurnWord pa pc lst (lst.idxOf x : Nat) wr Hrow.out (Nat.le_trans Hl8.out (by decide)) Hlc.out (by omega) (by have := Hidx.out; have := Hl8.out; omega)).mono ?_
      rw [turned_of HW.out, Hturn.out]
      rintro e w4 ⟨ta, tc, rfl, htc, htcm, hft, hb4⟩
      have hal := Dn.along_succ g x v i
      have hale := Dn.along_le g x v i
      have hlen8 : (Dn.around g x (i == 1)).length ≤ 8 := by rw [← Hturn.out, Word.turn_len]; exact Hl8.out
      have hlcp := Dn.lcp_comm (Dn.around g x (i == 1)) v
      have hlcpl := Dn.lcp_le_left v (Dn.around g x (i == 1))
      generalize Dn.around g x (i == 1) = T at *
      generalize Dn.along g x v i = p at *
      obtain ⟨p1, p2⟩ := p
      simp only at hh hale
      have Hft := Lib.hid hft; have Hb4 := Lib.hid hb4; have Hal := Lib.hid hal; have Hlcp := Lib.hid hlcp
      clear hft hb4 hal hlcp
      go_wp2_with fail
      refine (impl_commonBeginning ta (some ⟨b0, o0, none⟩) tc c T v w4 Hft.out.row ((Ha.out.below Hbw.out).below Hb4.out) (by omega) hv).mono ?_
      rw [Hlcp.out]
      rintro e w5 ⟨rfl, hb5⟩
      have Hb5 := Lib.hid hb5; clear hb5
      obtain ⟨h1, h2, h3, h4⟩ := hh.out
      have hbe : Hid (Below w3.heap.size w3 w5) := Lib.hid ((h4.trans (Hb4.out.mono h4.size)).trans (Hb5.out.mono (Nat.le_trans h4.size Hb4.out.size)))
      have hf1 : Hid (Fresh w5 w.heap.size 3 sa (intCells p2)) := Lib.hid ((h3.below Hb4.out).below Hb5.out)
      have hf2 : Hid (Fresh w5 w.heap.size 3 ta (intCells T)) := Lib.hid ((Hft.out.below Hb5.out).mono Hbw.out.size)
      clear h1 h2 h3 h4
      by_cases hbest : p1 < Dn.lcp v T
      · have Hnew := Lib.hid (show Dn.along g x v (i + 1) = (Dn.lcp v T, T) by rw [Hal.out]; unfold Dn.pick; rw [if_pos hbest])
        have dbest : decide (p1 < Dn.lcp v T) = true := decide_eq_true hbest
        generalize Dn.lcp v T = m at *
        go_wp2
        go_roundw
        case rel => exact ⟨i + 1, ta, tc, by omega, by go_num, by rw [Hnew.out], by rw [Hnew.out], Lib.hid (by rw [Hnew.out]; exact ⟨htc, htcm, hf2.out, hbe.out⟩)⟩
        case measure => simp [intOf]; omega
      · have Hnew := Lib.hid (show Dn.along g x v (i + 1) = (p1, p2) by rw [Hal.out]; unfold Dn.pick; rw [if_neg hbest])
        have dbest : decide (p1 < Dn.lcp v T) = false := decide_eq_false hbest
        generalize Dn.lcp v T = m at *
        go_wp2
        go_roundw
        case rel => exact ⟨i + 1, sa, sc, by omega, by go_num, by rw [Hnew.out], by rw [Hnew.out], Lib.hid (by rw [Hnew.out]; exact ⟨hh.out.1, hh.out.2.1, hf1.out, hbe.out⟩)⟩
        case measure => simp [intOf]; omega
    · have Hi := Lib.hid (show i = 2 by omega)
      have dlt : decide ((i : Int) < 2) = false := decide_eq_false (by omega)
      go_wp2
      go_ret2
      rw [← Hi.out]
      exact ⟨_, _, rfl, hh.out.1, hh.out.2.1, hh.out.2.2.1, Hb3.out.trans (hh.out.2.2.2.mono Hb3.out.size)⟩
end Go.Proofs.Ytfaagbmaekoogaa
namespace Go.Proofs.Ytfaagbmaekoogaa
open Go.RowKit

/-- A scope in which the run jumps back to one label: what holds at the label is proved once. -/
theorem scope_jumps {P : Program} {a : Act} {w : World} {Q : Exit → Act → World → Prop} {c rest : Code} (l : Nat) (J : Act → World → Prop) (μ : Act → World → Nat) (hf : findLabel c l = some (Code.skip.seq rest))
    (pass : ∀ a w, J a w → rest.wp P (Exit.jump l (fun a' w' => J a' w' ∧ μ a' w' < μ a w) Q) a w)
    (first : (∀ a w, J a w → rest.wp P (Exit.jump l J Q) a w) → c.wp P (Exit.jump l J Q) a w) : (Code.scope c).wp P Q a w :=
  wp_scope_jumps l J μ hf (first fun a w h => Go.wp_mono (pass a w h) fun e a' w' => by
    cases e <;> first | exact id | exact fun h => ⟨h.1, h.2.1⟩) (fun a w h => wp_seq (wp_skip (pass a w h)))
theorem cut_row {w : World} {b o c m : Nat} {l : List Int} (h : RowAt w (some ⟨b, o, none⟩) (intCells l)) (hm : m ≤ l.length) (hc : l.length ≤ c) : RowAt w (if c = m then some ⟨b, o, none⟩ else some ⟨b, o + m, none⟩) (intCells (l.drop m)) := by
  by_cases e : c = m
  · exact Or.inl (by rw [List.drop_eq_nil_of_le (by omega)]; rfl)
  · rw [if_neg e]; exact row_drop h
theorem cat_at (ps : List Part) (W : World) (a : Option Addr) (n : Nat) (hrow : RowAt W a (ps.map Part.cell)) (hn : ps.length = n) (hps : ∀ p ∈ ps, RowAt W p.1 (intCells p.2.2)) (h4 : n ≤ 1000) (hl : Part.len ps ≤ 4194304) :
    Calls Try.prog 81 #[.slice a n n] W fun e w' => Gives W (Part.all ps) e w' := by
  subst hn
  exact slices_Concat a ps.length ps W hrow (fun i hi => hps _ (List.getElem_mem hi)) h4 hl
theorem Gives.with2 {w w' : World} {l : List Int} {v : Value} {b : Bool} (h : Gives w l (.returned v) w') : Gives2 w l b (.returned (.tuple #[v, .bool b])) w' := h.with
namespace Dn
theorem stepAt_no {g : Int} {w : List Int} {i : Nat} (h : ((bestTo g (w.drop i) (8 * g).toNat).1 : Int) ≤ 2 * g) : stepAt g w i = none := by
  unfold stepAt; rw [if_neg (by omega)]
theorem stepAt_yes {g : Int} {w : List Int} {i : Nat} (h : 2 * g < ((bestTo g (w.drop i) (8 * g).toNat).1 : Int)) : stepAt g w i = some (out g w i (bestTo g (w.drop i) (8 * g).toNat)) := by
  unfold stepAt; rw [if_pos h]
end Dn

set_option maxRecDepth 100000 in
set_option maxHeartbeats 4000000 in
theorem impl_DehnStep_fit (g : Int) (a : Option Addr) (c : Nat) (l : List Int) (w : World) (ha : RowAt w a (intCells l)) (hF : Dn.Fit g l) :
    Calls Try.prog 47 #[.int .i64 g, .slice a l.length c] w fun e w' => Gives2 w ((Dn.step g (Word.red l)).getD []) (Dn.step g (Word.red l)).isSome e w' := by
  have hl24 := hF.2.1.2
  have hcF := impl_isGroupWord g a c l w ha (by omega)
  rw [decide_eq_true hF] at hcF
  have hcR := fun W (hb : Below w.heap.size w W) => impl_ReduceWord a c l W (ha.below hb) (by omega)
  rw [show Word.reduce l = Word.red l from if_pos hF.2.1] at hcR
  have hg := hF.1
  have hLets := hF.red.lets
  have hR24 : (Word.red l).length ≤ 24 := hF.red.2.1.2
  have HcF := Lib.hid hcF; have HcR := Lib.hid hcR; have Hg := Lib.hid hg; have HLets := Lib.hid hLets
  obtain ⟨hg0, hg1⟩ := hg
  clear hcF hcR hF ha hLets
  go_enter Try.func47, Try.ntmps47
  go_wp2
  refine scope_jumps 0 (fun a' w' => ∃ (i : Nat) (ra : Option Addr) (rc : Nat) (w1 : World), i ≤ (Word.red l).length ∧ (∃ u8 u9 u17 u18 u19 u20 u21 u22 u23 u24 u25 u26 u27 u28 u29 u30 u31 u32 u33 u34 : Value, a' = { tmps := #[.int .i64 g, .slice a l.length c, undef, undef, .slice none 0 0, .bool false, .slice ra (Word.red l).length rc, .int .i64 (i : Int), u8, u9, undef, .int .i64 g, .slice a l.length c, .bool true, .bool false, .slice a l.length c, .slice ra (Word.red l).length rc, u17, u18, u19, u20, u21, u22, u23, u24, u25, u26, u27, u28, u29, u30, u31, u32, u33, u34, undef, undef, undef, undef, undef, undef, undef, undef, undef, undef, undef, undef, undef, undef, undef, undef], defers := [] }) ∧ (Word.red l).length ≤ rc ∧ rc ≤ maxLen ∧ Hid (RowAt w1 ra (intCells (Word.red l)) ∧ Below w.heap.size w w1 ∧ Below w1.heap.size w1 w' ∧ ∀ j, j < i → Dn.stepAt g (Word.red l) j = none)) (fun a' _ => (Word.red l).length - (intOf (a'.tmps.getD 7 undef)).toNat) rfl ?pass ?first
  case first =>
    intro hpass
    have HP := Lib.hid hpass; clear hpass
    go_wp2_with fail
    refine HcF.out.mono ?_
    rintro e w1 ⟨rfl, hb1⟩
    go_wp2_with fail
    refine (HcR.out w1 hb1).mono ?_
    rintro e w2 ⟨ra, rc, rfl, hrc, hrcm, hfr, hb2⟩
    have Hfr := Lib.hid hfr; have Hb := Lib.hid (hb1.trans (hb2.mono hb1.size))
    clear hfr hb1 hb2
    go_wp2
    go_step3
    rename_i hK
    exact hK _ _ (HP.out _ _ ⟨0, ra, rc, w2, Nat.zero_le _, ⟨_, _, _, _, _, _, _, _, _, _, _, _, _, _, _, _, _, _, _, _, rfl⟩, hrc, hrcm, Lib.hid ⟨Hfr.out.row, Hb.out, Below.refl _ _, fun j hj => absurd hj (by omega)⟩⟩)
  case pass =>
    rintro a' w' ⟨i, ra, rc, w1, hi, ⟨u8, u9, u17, u18, u19, u20, u21, u22, u23, u24, u25, u26, u27, u28, u29, u30, u31, u32, u33, u34, rfl⟩, hrc, hrcm, hh⟩
    generalize hR : Word.red l = R at *
    have HR := Lib.hid hR; clear hR
    by_cases hlt : i < R.length
    · have hrow := hh.out.1.below hh.out.2.2.1
      obtain ⟨b, o, rfl⟩ := row_some hrow (by omega)
      have hx : (R.drop i)[0]? = some R[i] := by rw [List.getElem?_drop]; simp [hlt]
      have hcA := impl_relatorAlong g R[i] (some ⟨b, o + i, none⟩) (rc - i) (R.drop i) w' Hg.out (row_drop hrow) (by rw [List.length_drop]; omega) hx (HLets.out _ (List.getElem_mem hlt))
      rw [List.length_drop] at hcA
      have hp := Dn.bestTo_le g (R.drop i) (8 * g).toNat
      have hpm := Dn.bestTo_mem g (R.drop i) (8 * g).toNat
      rw [List.length_drop] at hp
      have hraw := fun h => Dn.out_raw Hg.out (w := R) (i := i) (by omega) h
      have hrawl := Dn.out_letters Hg.out HLets.out i
      have hyes := fun h => Dn.stepAt_yes (g := g) (w := R) (i := i) h
      have hno := fun h => Dn.stepAt_no (g := g) (w := R) (i := i) h
      generalize Dn.bestTo g (R.drop i) (8 * g).toNat = p at *
      obtain ⟨p1, p2⟩ := p
      simp only at hp hpm hraw hrawl hyes hno hcA
      have Hhh := hh
      have Hrow := Lib.hid hrow; have HcA := Lib.hid hcA; have Hpm := Lib.hid hpm; have Hraw := Lib.hid hraw; have Hrawl := Lib.hid hrawl; have Hyes := Lib.hid hyes; have Hno := Lib.hid hno
      have Hx := Lib.hid hx
      obtain ⟨hp1, hp2⟩ := hp
      clear hrow hcA hpm hraw hrawl hyes hno hx
      have teq : ((i : Int) == (R.length : Int)) = false := beq_eq_false_iff_ne.2 (by omega)
      have j1 : i ≤ R.length := by omega
      have j2 : (i : Int) ≤ (R.length : Int) := by omega
      have j3 : (0 : Int) ≤ (i : Int) := by omega
      have j4 : i ≤ rc := by omega
      have j5 : (i : Int) ≤ (rc : Int) := by omega
      have j6 : ¬ rc = i := by omega
      go_wp2_with fail
      refine HcA.out.mono ?_
      rintro e w2 ⟨ta, tc, rfl, htc, htcm, hft, hb2⟩
      have Hft := Lib.hid hft; have Hb2 := Lib.hid hb2
      clear hft hb2
      by_cases hc : (p1 : Int) ≤ 2 * g
      · have dc : decide ((p1 : Int) ≤ 2 * g) = true := decide_eq_true hc
        have Hn := Lib.hid (Hno.out hc)
        go_wp2
        go_step3
        refine ⟨rfl, ⟨i + 1, some ⟨b, o, none⟩, rc, w1, by omega, ⟨_, _, _, _, _, _, _, _, _, _, _, _, _, _, _, _, _, _, _, _, by go_num⟩, hrc, hrcm, Lib.hid ⟨hh.out.1, hh.out.2.1, hh.out.2.2.1.trans (Hb2.out.mono hh.out.2.2.1.size), fun j hj => ?_⟩⟩, ?_⟩
        · rcases Nat.lt_or_ge j i with h | h
          · exact hh.out.2.2.2 j h
          · obtain rfl : j = i := by omega
            exact Hn.out
        · simp [intOf]; omega
      · have dc : decide ((p1 : Int) ≤ 2 * g) = false := decide_eq_false hc
        have hbig : 2 * g < (p1 : Int) := by omega
        have Hs := Lib.hid (Dn.step_at hlt (Hyes.out hbig) hh.out.2.2.2)
        have hrl := Hraw.out hbig
        have hwp : Word.IsW (p2.drop p1) ∧ p2.length ≤ 8 := by
          rcases Hpm.out with e | ⟨k, _, e⟩
          · rw [e] at hp2; simp at hp2; omega
          · refine ⟨⟨fun y hy => ?_, ?_⟩, ?_⟩
            · rw [e] at hy; exact (Dn.cand_letters Hg.out k y (List.mem_of_mem_drop hy)).1
            · rw [List.length_drop, e, Dn.cand_len]; have := Dn.rel_len8 g; omega
            · rw [e, Dn.cand_len]; exact Dn.rel_len8 g

        obtain ⟨hwp, hp8⟩ := hwp
        have hwraw : Word.IsW (R.take i ++ (Word.inv (p2.drop p1) ++ R.drop (i + p1))) := ⟨fun y hy => (Hrawl.out y hy).1, by omega⟩
        obtain ⟨tb, to, rfl⟩ := row_some Hft.out.row (by omega)
        obtain ⟨A1, hA1⟩ : ∃ A1, (if tc = p1 then some (⟨tb, to, none⟩ : Addr) else some ⟨tb, to + p1, none⟩) = A1 := ⟨_, rfl⟩
        have hrA1 := cut_row (m := p1) Hft.out.row hp2 htc
        rw [hA1] at hrA1
        have hcI := impl_InverseWord A1 (tc - p1) (p2.drop p1) w2 hrA1 (by rw [List.length_drop]; omega)
        rw [inverse_of hwp, List.length_drop] at hcI
        obtain ⟨A2, hA2⟩ : ∃ A2, (if rc = i + p1 then some (⟨b, o, none⟩ : Addr) else some ⟨b, o + (i + p1), none⟩) = A2 := ⟨_, rfl⟩
        have hrA2 := cut_row (m := i + p1) Hrow.out (by omega) hrc
        rw [hA2] at hrA2
        have HcI := Lib.hid hcI; have HrA2 := Lib.hid hrA2; have Hwraw := Lib.hid hwraw
        clear hcI hrA1 hrA2 hwraw hwp
        have k1 : p1 ≤ p2.length := hp2
        have k2 : (p1 : Int) ≤ (p2.length : Int) := by omega
        have k3 : p1 ≤ tc := by omega
        have k4 : (p1 : Int) ≤ (tc : Int) := by omega
        have k5 : (0 : Int) ≤ (p1 : Int) := by omega
        have k6 : i + p1 ≤ R.length := by omega
        have k7 : (i : Int) + (p1 : Int) ≤ (R.length : Int) := by omega
        have k8 : (0 : Int) ≤ (i : Int) + (p1 : Int) := by omega
        have HA2 := Lib.hid hA2
        clear hA2
        go_wp2_with fail
        refine HcI.out.mono ?_
        rintro e w3 ⟨oa, oc, rfl, hoc, hocm, hfo, hb3⟩
        have Hfo := Lib.hid hfo; have Hb3 := Lib.hid (Hb2.out.trans (hb3.mono Hb2.out.size))
        clear hfo hb3 hA1
        have k9 : IntKind.i64.wrap ((i : Int) + (p1 : Int)) = (i : Int) + (p1 : Int) := wrap_small (by omega) (by omega)
        have k10 : ((i : Int) + (p1 : Int)).toNat = i + p1 := by omega
        have k11 : i + p1 ≤ rc := by omega
        have k12 : (i : Int) + (p1 : Int) ≤ (rc : Int) := by omega
        have hA2 := HA2.out
        go_wp2
        go_still_tail 9, (by kernel_rfl)
        change wpList _ _ _ _ _ w3.drew
        have Hl1 : Hid ((R.take i).length = i) := Lib.hid (by simp; omega)
        have Hl3 : Hid ((R.drop (i + p1)).length = R.length - (i + p1)) := Lib.hid (by simp)
        have hbE : Below w'.heap.size w' (w3.drew.alloc (.cells #[.slice (some ⟨b, o, none⟩) i rc, .slice oa (Word.inv (p2.drop p1)).length oc, .slice A2 (R.length - (i + p1)) (rc - (i + p1))] 42)) := Hb3.out.drew.alloc Hb3.out.size _
        have hbO : Below w3.heap.size w3 (w3.drew.alloc (.cells #[.slice (some ⟨b, o, none⟩) i rc, .slice oa (Word.inv (p2.drop p1)).length oc, .slice A2 (R.length - (i + p1)) (rc - (i + p1))] 42)) := (Below.refl _ _).drew.alloc (Nat.le_refl _) _
        have hcc := cat_at [(some ⟨b, o, none⟩, rc, R.take i), (oa, oc, Word.inv (p2.drop p1)), (A2, rc - (i + p1), R.drop (i + p1))] (w3.drew.alloc (.cells #[.slice (some ⟨b, o, none⟩) i rc, .slice oa (Word.inv (p2.drop p1)).length oc, .slice A2 (R.length - (i + p1)) (rc - (i + p1))] 42)) (some ⟨w3.heap.size, 0, none⟩) 3 (by simp only [List.map_cons, List.map_nil, Part.cell, Hl1.out, Hl3.out]; exact (Blk.new w3.drew 42 _).row) rfl (by
          intro p hp
          simp only [List.mem_cons, List.not_mem_nil, or_false] at hp
          rcases hp with rfl | rfl | rfl
          · exact row_take (Hrow.out.below hbE)
          · exact Hfo.out.row.below hbO
          · exact HrA2.out.below hbE) (by decide) (by have := Hwraw.out.2; simp [Part.len, Part.all] at this ⊢; omega)
        rw [show Part.all [(some ⟨b, o, none⟩, rc, R.take i), (oa, oc, Word.inv (p2.drop p1)), (A2, rc - (i + p1), R.drop (i + p1))] = R.take i ++ (Word.inv (p2.drop p1) ++ R.drop (i + p1)) from by simp [Part.all]] at hcc
        have Hcc := Lib.hid hcc
        have HbD := Lib.hid (hh.out.2.2.1.trans (hbE.mono hh.out.2.2.1.size))
        clear hcc hbE hbO hA2
        unfold Dn.out at Hs
        simp only at Hs
        generalize R.take i ++ (Word.inv (p2.drop p1) ++ R.drop (i + p1)) = V at *
        go_wp2_with fail
        refine Hcc.out.mono ?_
        rintro e w5 ⟨va, vc, rfl, hvc, hvcm, hfv, hb5⟩
        have Hfv := Lib.hid hfv; have Hb5 := Lib.hid (HbD.out.trans (hb5.mono HbD.out.size))
        clear hfv hb5
        have hcV := impl_ReduceWord va vc V w5 Hfv.out.row (by have := Hwraw.out.2; omega)
        rw [show Word.reduce V = Word.red V from if_pos Hwraw.out] at hcV
        have HcV := Lib.hid hcV; clear hcV
        go_wp2_with fail
        refine HcV.out.mono ?_
        rintro e w6 hg6
        have Hg6 := Lib.hid ((hg6.later Hb5.out).later hh.out.2.1)
        obtain ⟨ya, yc, rfl, _, _, _, _⟩ := hg6
        go_wp2
        simp only [Exit.jump]
        go_ret2
        rw [HR.out, Hs.out]
        exact Hg6.out.with2
    · obtain rfl : i = R.length := by omega
      have Hs := Lib.hid (Dn.step_no hh.out.2.2.2)
      have teq : ((R.length : Int) == (R.length : Int)) = true := beq_self_eq_true _
      go_wp2
      simp only [Exit.jump]
      go_ret2
      rw [HR.out, Hs.out]
      exact Gives2.none (hh.out.2.1.trans (hh.out.2.2.1.mono hh.out.2.1.size))
set_option maxRecDepth 100000 in
set_option maxHeartbeats 1000000 in
theorem impl_DehnStep (g : Int) (a : Option Addr) (c : Nat) (l : List Int) (w : World) (ha : RowAt w a (intCells l)) (hl : l.length ≤ 1048576) :
    Calls Try.prog 47 #[.int .i64 g, .slice a l.length c] w fun e w' => Gives2 w ((Dn.stepW g l).getD []) (Dn.stepW g l).isSome e w' := by
  by_cases hF : Dn.Fit g l
  · rw [show Dn.stepW g l = Dn.step g (Word.red l) from if_pos hF]
    exact impl_DehnStep_fit g a c l w ha hF
  · rw [show Dn.stepW g l = none from if_neg hF]
    have hcF := impl_isGroupWord g a c l w ha (by omega)
    rw [decide_eq_false hF] at hcF
    have HcF := Lib.hid hcF
    clear hcF hF
    go_enter Try.func47, Try.ntmps47
    go_wp2
    go_step3
    go_wp2_with fail
    refine HcF.out.mono ?_
    rintro e w1 ⟨rfl, hb1⟩
    go_wp2
    simp only [Exit.noGoto_ret]
    go_ret2
    exact Gives2.none hb1
end Go.Proofs.Ytfaagbmaekoogaa
namespace Go.Proofs.Ytfaagbmaekoogaa
open Go.RowKit

set_option maxRecDepth 100000 in
set_option maxHeartbeats 8000000 in
theorem spec_l8Step (g : Int) (a : Option Addr) (c : Nat) (l : List Int) (w : World) (ha : RowAt w a (intCells l)) (hl : l.length ≤ 1000) (hc : l.length ≤ c) (hG : Dn.Gr g) (hL : ∀ x ∈ l, Dn.Let g x) :
    Calls Try.prog 123 #[.int .i64 g, .slice a l.length c] w fun e w' => Gives2 w ((Dn.step g l).getD []) (Dn.step g l).isSome e w' := by
  have Ha := Lib.hid ha; have Hg := Lib.hid hG; have HL := Lib.hid hL
  obtain ⟨hg0, hg1⟩ := hG
  clear ha hL
  obtain ⟨i0, hi0, hz0, hz1, hz2⟩ := info_int_parts
  have Hi0 := Lib.hid hi0; have Hz0 := Lib.hid hz0; have Hz1 := Lib.hid hz1; have Hz2 := Lib.hid hz2
  clear hi0 hz0 hz1 hz2
  go_enter Try.func123, Try.ntmps123
  go_wp2
  go_loopw [6, 7, 8, 9, 10, 11, 12] (fun iv _ _ _ _ _ _ wr => ∃ i : Nat, i ≤ l.length ∧ iv = .int .i64 i ∧ Hid (Below w.heap.size w wr ∧ ∀ j, j < i → Dn.stepAt g l j = none)) (fun iv _ _ _ _ _ _ _ => l.length - (intOf iv).toNat)
  case atStart => exact ⟨0, by omega, rfl, Lib.hid ⟨Below.refl _ _, fun j hj => absurd hj (by omega)⟩⟩
  case round =>
    obtain ⟨i, hi, rfl, hh⟩ := hrel
    obtain ⟨wo, rfl⟩ : ∃ wo : World, wo = wr := ⟨_, rfl⟩
    by_cases hlt : i < l.length
    · have hb0 := Lib.hid hh.out.1
      obtain ⟨b, o, rfl⟩ := row_some Ha.out (by omega)
      have dlt : decide (i < l.length) = true := decide_eq_true hlt
      have j1 : i ≤ l.length := by omega
      have j2 : (i : Int) ≤ (l.length : Int) := by omega
      have j3 : (0 : Int) ≤ (i : Int) := by omega
      have j4 : i ≤ c := by omega
      have j5 : (i : Int) ≤ (c : Int) := by omega
      have j6 : ¬ c = i := by omega
      go_wp2
      go_loopw [7, 8, 9, 10, 11] (fun bv ov tv _ _ wr => ∃ (t : Nat) (oa : Option Addr) (oc : Nat), (t : Int) ≤ 8 * g ∧ tv = .int .i64 t ∧ bv = .int .i64 (Dn.bestTo g (l.drop i) t).1 ∧ ov = .slice oa (Word.inv ((Dn.bestTo g (l.drop i) t).2.drop (Dn.bestTo g (l.drop i) t).1)).length oc ∧ Hid (RowAt wr oa (intCells (Word.inv ((Dn.bestTo g (l.drop i) t).2.drop (Dn.bestTo g (l.drop i) t).1))) ∧ Below wo.heap.size wo wr ∧ (Word.inv ((Dn.bestTo g (l.drop i) t).2.drop (Dn.bestTo g (l.drop i) t).1)).length ≤ oc ∧ oc ≤ maxLen)) (fun _ _ tv _ _ _ => (8 * g).toNat - (intOf tv).toNat)
      case atStart => exact ⟨0, _, 0, by omega, rfl, rfl, rfl, Lib.hid ⟨Or.inl rfl, (Below.refl _ _).alloc (Nat.le_refl _) _, Nat.le_refl _, Nat.zero_le _⟩⟩
      case round =>
        obtain ⟨t, oa, oc, ht, rfl, rfl, rfl, hoo⟩ := hrel
        have hp := Dn.bestTo_le g (l.drop i) t
        generalize hpp : Dn.bestTo g (l.drop i) t = p at *
        have Hpp := Lib.hid hpp; clear hpp
        obtain ⟨p1, p2⟩ := p
        simp only at hoo hp
        obtain ⟨hp1, hp2⟩ := hp
        rw [List.length_drop] at hp1
        have Hb0r := Lib.hid hoo.out.2.1
        have t0 : (0 : Int) ≤ (t : Int) := by omega
        by_cases hlt2 : (t : Int) < 8 * g
        · have dlt2 : decide ((t : Int) < 8 * g) = true := decide_eq_true hlt2
          go_wp2_with fail
          refine (spec_Relator g wr).mono ?_
          rintro e w2 ⟨ra, rc, rfl, hrc, hrcm, hfr, hb2⟩
          have Hfr := Lib.hid hfr; have Hb2 := Lib.hid hb2
          clear hfr hb2
          by_cases h4 : 4 * g ≤ (t : Int)
          · have d4 : decide (4 * g ≤ (t : Int)) = true := decide_eq_true h4
            go_wp2_with fail
            refine (spec_l2Inverse ra rc (Dn.rel g) w2 Hfr.out.row (by have := Dn.rel_len8 g; omega) (Dn.rel_w g).1).mono ?_
            rintro e w3 ⟨qa, qc, rfl, hqc, hqcm, hfq, hb3⟩
            have Hfq := Lib.hid hfq; have Hb3 := Lib.hid (Hb2.out.trans (hb3.mono Hb2.out.size))
            clear hfq hb3
            go_wp2_with fail
            refine (spec_l2Turn qa qc (Word.inv (Dn.rel g)) (t : Int) w3 Hfq.out.row (by rw [Word.inv_len]; have := Dn.rel_len8 g; omega) hqc (by omega) (by omega)).mono ?_
            rw [show Word.turn (Word.inv (Dn.rel g)) (t : Int) = Dn.cand g t from by unfold Dn.cand; rw [if_pos h4]]
            rintro e w4 ⟨ta, tc, rfl, htc, htcm, hft, hb4⟩
            have Hft := Lib.hid hft; have Hb4 := Lib.hid (Hb3.out.trans (hb4.mono Hb3.out.size))
            clear hft hb4
            have hcl := Dn.cand_len g t
            have hcll := Dn.cand_letters Hg.out t
            have hrl := Dn.rel_len Hg.out
            have hsucc := Dn.bestTo_succ g (l.drop i) t
            have hlcp := Dn.lcp_le_right (l.drop i) (Dn.cand g t)
            generalize Dn.cand g t = T at *
            have hT8 : (T.length : Int) = 4 * g := by rw [hcl]; exact hrl
            have hcM := spec_l8Match (some ⟨b, o + i, none⟩) ta (c - i) tc (l.drop i) T (4 * g) hT8.symm w4 ((row_drop (Ha.out.below hb0.out)).below (Hb0r.out.trans (Hb4.out.mono Hb0r.out.size))) Hft.out.row (by rw [List.length_drop]; omega) (by omega)
            rw [List.length_drop] at hcM
            have hTl : T.length ≤ 8 := by omega
            have HcM := Lib.hid hcM; have Hsucc := Lib.hid hsucc; have Hcll := Lib.hid hcll; have HT8 := Lib.hid hT8
            clear hcM hsucc hcll hT8 hcl hrl
            go_wp2_with fail
            refine HcM.out.mono ?_
            rintro e w5 ⟨rfl, hb5⟩
            have Hb45 := Lib.hid hb5
            have Hb5 := Lib.hid (Hb4.out.trans (hb5.mono Hb4.out.size)); clear hb5
            by_cases hbest : p1 < Dn.lcp (l.drop i) T
            · have Hnew := Lib.hid (show Dn.bestTo g (l.drop i) (t + 1) = (Dn.lcp (l.drop i) T, T) by rw [Hsucc.out, Hpp.out]; unfold Dn.pick; rw [if_pos hbest])
              have dbest : decide (p1 < Dn.lcp (l.drop i) T) = true := decide_eq_true hbest
              generalize Dn.lcp (l.drop i) T = m at *
              obtain ⟨tb, to, rfl⟩ := row_some Hft.out.row (by omega)
              obtain ⟨A1, hA1⟩ : ∃ A1, (if tc = m then some (⟨tb, to, none⟩ : Addr) else some ⟨tb, to + m, none⟩) = A1 := ⟨_, rfl⟩
              have hrA1 := cut_row (m := m) (Hft.out.row.below Hb45.out) hlcp htc
              rw [hA1] at hrA1
              have hcI := spec_l2Inverse A1 (tc - m) (T.drop m) w5 hrA1 (by rw [List.length_drop]; omega) (fun y hy => (Hcll.out y (List.mem_of_mem_drop hy)).1)
              rw [List.length_drop] at hcI
              have HcI := Lib.hid hcI
              clear hcI hrA1
              have k1 : m ≤ T.length := hlcp
              have k2 : (m : Int) ≤ (T.length : Int) := by omega
              have k3 : m ≤ tc := by omega
              have k4 : (m : Int) ≤ (tc : Int) := by omega
              have k5 : (0 : Int) ≤ (m : Int) := by omega
              go_wp2_with fail
              refine HcI.out.mono ?_
              rintro e w6 ⟨ia, ic, rfl, hic, hicm, hfi, hb6⟩
              have Hfi := Lib.hid hfi; have Hb6 := Lib.hid (Hb5.out.trans (hb6.mono Hb5.out.size))
              clear hfi hb6 hA1
              go_wp2
              go_roundw
              case rel => exact ⟨t + 1, ia, ic, by omega, by go_num, by rw [Hnew.out], by rw [Hnew.out], Lib.hid ⟨by rw [Hnew.out]; exact Hfi.out.row, Hb0r.out.trans (Hb6.out.mono Hb0r.out.size), by rw [Hnew.out]; exact hic, hicm⟩⟩
              case measure => simp [intOf]; omega
            · have Hnew := Lib.hid (show Dn.bestTo g (l.drop i) (t + 1) = (p1, p2) by rw [Hsucc.out, Hpp.out]; unfold Dn.pick; rw [if_neg hbest])
              have dbest : decide (p1 < Dn.lcp (l.drop i) T) = false := decide_eq_false hbest
              generalize Dn.lcp (l.drop i) T = m at *
              go_wp2
              go_roundw
              case rel => exact ⟨t + 1, oa, oc, by omega, by go_num, by rw [Hnew.out], by rw [Hnew.out], Lib.hid ⟨by rw [Hnew.out]; exact hoo.out.1.below Hb5.out, Hb0r.out.trans (Hb5.out.mono Hb0r.out.size), by rw [Hnew.out]; exact hoo.out.2.2.1, hoo.out.2.2.2⟩⟩
              case measure => simp [intOf]; omega
          · have d4 : decide (4 * g ≤ (t : Int)) = false := decide_eq_false h4
            go_wp2_with fail
            refine (spec_l2Turn ra rc (Dn.rel g) (t : Int) w2 Hfr.out.row (by have := Dn.rel_len8 g; omega) hrc (by omega) (by omega)).mono ?_
            rw [show Word.turn (Dn.rel g) (t : Int) = Dn.cand g t from by unfold Dn.cand; rw [if_neg (by omega)]]
            rintro e w4 ⟨ta, tc, rfl, htc, htcm, hft, hb4⟩
            have Hft := Lib.hid hft; have Hb4 := Lib.hid (Hb2.out.trans (hb4.mono Hb2.out.size))
            clear hft hb4
            have hcl := Dn.cand_len g t
            have hcll := Dn.cand_letters Hg.out t
            have hrl := Dn.rel_len Hg.out
            have hsucc := Dn.bestTo_succ g (l.drop i) t
            have hlcp := Dn.lcp_le_right (l.drop i) (Dn.cand g t)
            generalize Dn.cand g t = T at *
            have hT8 : (T.length : Int) = 4 * g := by rw [hcl]; exact hrl
            have hcM := spec_l8Match (some ⟨b, o + i, none⟩) ta (c - i) tc (l.drop i) T (4 * g) hT8.symm w4 ((row_drop (Ha.out.below hb0.out)).below (Hb0r.out.trans (Hb4.out.mono Hb0r.out.size))) Hft.out.row (by rw [List.length_drop]; omega) (by omega)
            rw [List.length_drop] at hcM
            have hTl : T.length ≤ 8 := by omega
            have HcM := Lib.hid hcM; have Hsucc := Lib.hid hsucc; have Hcll := Lib.hid hcll; have HT8 := Lib.hid hT8
            clear hcM hsucc hcll hT8 hcl hrl
            go_wp2_with fail
            refine HcM.out.mono ?_
            rintro e w5 ⟨rfl, hb5⟩
            have Hb45 := Lib.hid hb5
            have Hb5 := Lib.hid (Hb4.out.trans (hb5.mono Hb4.out.size)); clear hb5
            by_cases hbest : p1 < Dn.lcp (l.drop i) T
            · have Hnew := Lib.hid (show Dn.bestTo g (l.drop i) (t + 1) = (Dn.lcp (l.drop i) T, T) by rw [Hsucc.out, Hpp.out]; unfold Dn.pick; rw [if_pos hbest])
              have dbest : decide (p1 < Dn.lcp (l.drop i) T) = true := decide_eq_true hbest
              generalize Dn.lcp (l.drop i) T = m at *
              obtain ⟨tb, to, rfl⟩ := row_some Hft.out.row (by omega)
              obtain ⟨A1, hA1⟩ : ∃ A1, (if tc = m then some (⟨tb, to, none⟩ : Addr) else some ⟨tb, to + m, none⟩) = A1 := ⟨_, rfl⟩
              have hrA1 := cut_row (m := m) (Hft.out.row.below Hb45.out) hlcp htc
              rw [hA1] at hrA1
              have hcI := spec_l2Inverse A1 (tc - m) (T.drop m) w5 hrA1 (by rw [List.length_drop]; omega) (fun y hy => (Hcll.out y (List.mem_of_mem_drop hy)).1)
              rw [List.length_drop] at hcI
              have HcI := Lib.hid hcI
              clear hcI hrA1
              have k1 : m ≤ T.length := hlcp
              have k2 : (m : Int) ≤ (T.length : Int) := by omega
              have k3 : m ≤ tc := by omega
              have k4 : (m : Int) ≤ (tc : Int) := by omega
              have k5 : (0 : Int) ≤ (m : Int) := by omega
              go_wp2_with fail
              refine HcI.out.mono ?_
              rintro e w6 ⟨ia, ic, rfl, hic, hicm, hfi, hb6⟩
              have Hfi := Lib.hid hfi; have Hb6 := Lib.hid (Hb5.out.trans (hb6.mono Hb5.out.size))
              clear hfi hb6 hA1
              go_wp2
              go_roundw
              case rel => exact ⟨t + 1, ia, ic, by omega, by go_num, by rw [Hnew.out], by rw [Hnew.out], Lib.hid ⟨by rw [Hnew.out]; exact Hfi.out.row, Hb0r.out.trans (Hb6.out.mono Hb0r.out.size), by rw [Hnew.out]; exact hic, hicm⟩⟩
              case measure => simp [intOf]; omega
            · have Hnew := Lib.hid (show Dn.bestTo g (l.drop i) (t + 1) = (p1, p2) by rw [Hsucc.out, Hpp.out]; unfold Dn.pick; rw [if_neg hbest])
              have dbest : decide (p1 < Dn.lcp (l.drop i) T) = false := decide_eq_false hbest
              generalize Dn.lcp (l.drop i) T = m at *
              go_wp2
              go_roundw
              case rel => exact ⟨t + 1, oa, oc, by omega, by go_num, by rw [Hnew.out], by rw [Hnew.out], Lib.hid ⟨by rw [Hnew.out]; exact hoo.out.1.below Hb5.out, Hb0r.out.trans (Hb5.out.mono Hb0r.out.size), by rw [Hnew.out]; exact hoo.out.2.2.1, hoo.out.2.2.2⟩⟩
              case measure => simp [intOf]; omega
        · have Ht := Lib.hid (show t = (8 * g).toNat by omega)
          have dlt2 : decide ((t : Int) < 8 * g) = false := decide_eq_false hlt2
          have hyes := fun h => Dn.stepAt_yes (g := g) (w := l) (i := i) h
          have hno := fun h => Dn.stepAt_no (g := g) (w := l) (i := i) h
          have hraw := fun h => Dn.out_raw Hg.out (w := l) (i := i) (by omega) h
          have hrawl := Dn.out_letters Hg.out HL.out i
          rw [← Ht.out, Hpp.out] at hyes hno hraw hrawl
          simp only at hyes hno hraw hrawl
          have Hyes := Lib.hid hyes; have Hno := Lib.hid hno; have Hraw := Lib.hid hraw; have Hrawl := Lib.hid hrawl
          clear hyes hno hraw hrawl
          by_cases hbig : 2 * g < (p1 : Int)
          · have Hs := Lib.hid (Dn.step_at hlt (Hyes.out hbig) hh.out.2)
            have hrl := Hraw.out hbig
            have dbig : decide (2 * g < (p1 : Int)) = true := decide_eq_true hbig
            have hrow := Ha.out.below hb0.out
            have hrow2 := hrow.below Hb0r.out
            obtain ⟨A2, hA2⟩ : ∃ A2, (if c = i + p1 then some (⟨b, o, none⟩ : Addr) else some ⟨b, o + (i + p1), none⟩) = A2 := ⟨_, rfl⟩
            have hrA2 := cut_row (m := i + p1) hrow2 (by omega) hc
            rw [hA2] at hrA2
            have Htake := Lib.hid (row_take (m := i) hrow2)
            have HrA2 := Lib.hid hrA2
            have Hinv := Lib.hid hoo.out.1
            have Hs1 : Hid ((intCells (l.take i)).length = i) := Lib.hid (by rw [intCells_len, List.length_take]; omega)
            have Hs3 : Hid ((intCells (l.drop (i + p1))).length = l.length - (i + p1)) := Lib.hid (by rw [intCells_len, List.length_drop])
            have HbW := Lib.hid (hb0.out.trans (Hb0r.out.mono hb0.out.size))
            unfold Dn.out at Hs
            simp only [List.length_append, List.length_take, List.length_drop] at Hs hrl
            obtain ⟨V, hV⟩ : ∃ V, Word.inv (p2.drop p1) = V := ⟨_, rfl⟩
            rw [hV] at Hs hrl Hinv Hrawl ⊢
            have HV := Lib.hid hV
            have Hs2 : Hid ((intCells V).length = V.length) := Lib.hid (intCells_len _)
            clear hrow hrow2 hrA2 hV
            have c1 : 0 + i ≤ maxLen := by unfold maxLen; omega
            have c2 : (0 + i) * 8 ≤ 140737488355328 := by omega
            have c3 : i + V.length ≤ maxLen := by unfold maxLen; omega
            have c4 : (i + V.length) * 8 ≤ 140737488355328 := by omega
            have c5 : i + V.length + (l.length - (i + p1)) ≤ maxLen := by unfold maxLen; omega
            have c6 : (i + V.length + (l.length - (i + p1))) * 8 ≤ 140737488355328 := by omega
            have k6 : i + p1 ≤ l.length := by omega
            have k7 : (i : Int) + (p1 : Int) ≤ (l.length : Int) := by omega
            have k8 : (0 : Int) ≤ (i : Int) + (p1 : Int) := by omega
            have k9 : IntKind.i64.wrap ((i : Int) + (p1 : Int)) = (i : Int) + (p1 : Int) := wrap_small (by omega) (by omega)
            have k10 : ((i : Int) + (p1 : Int)).toNat = i + p1 := by omega
            have k11 : i + p1 ≤ c := by omega
            have k12 : (i : Int) + (p1 : Int) ≤ (c : Int) := by omega
            go_wp2
            go_region_law (first
              | (refine step_append_row rfl (.tmp 56) (.tmp 59) 42 rfl wr.heap.size 3 i0 _ 8 Try.underlying42 Hi0.out Hz0.out Hz1.out Hz2.out (by rfl) _ 0 (intCells []) (by rfl) (own_made1 wr) _ i _ (intCells (l.take i)) (by rfl) (Htake.out.below (below_made1 wr)) Hs1.out (intCells_one _) c1 c2 (by simp) ?_; intro v1 w1 hown1 hg1; rw [Nat.zero_add] at hown1; have hb1 := Below.grown (below_made1 wr) hg1 (by simp) (fun k hk => by injection hk with hk; exact Nat.le_of_eq hk); obtain ⟨av1, cv1, rfl⟩ := own_len hown1)
              | (refine step_append_row rfl (.tmp 60) (.tmp 61) 42 rfl wr.heap.size 3 i0 _ 8 Try.underlying42 Hi0.out Hz0.out Hz1.out Hz2.out (by rfl) _ _ _ (by rfl) hown1 _ V.length _ (intCells V) (by rfl) (Hinv.out.below hb1) Hs2.out (intCells_one _) c3 c4 hb1.size ?_; intro v2 w2 hown2 hg2; have hb2 := Below.grown hb1 hg2 hb1.size (fun k hk => (hown1.lt k hk).1); obtain ⟨av2, cv2, rfl⟩ := own_len hown2)
              | (refine step_append_row rfl (.tmp 62) (.tmp 67) 42 rfl wr.heap.size 3 i0 _ 8 Try.underlying42 Hi0.out Hz0.out Hz1.out Hz2.out (by rfl) _ _ _ (by rfl) hown2 _ (l.length - (i + p1)) _ (intCells (l.drop (i + p1))) (by rfl) (HrA2.out.below hb2) Hs3.out (intCells_one _) c5 c6 hb2.size ?_; intro v3 w3 hown3 hg3; have hb3 := Below.grown hb2 hg3 hb2.size (fun k hk => (hown2.lt k hk).1); obtain ⟨av3, cv3, rfl⟩ := own_len hown3))
            all_goals
              rw [show intCells [] ++ intCells (l.take i) ++ intCells V ++ intCells (l.drop (i + p1)) = intCells (l.take i ++ (V ++ l.drop (i + p1))) from by simp [intCells]] at hown3
              have hl3 : (l.take i ++ (V ++ l.drop (i + p1))).length = i + V.length + (l.length - (i + p1)) := by simp; omega
              have hg3 := own_gives hown3 hl3 hb3
              have Hg3 := Lib.hid hg3
              clear hown3 hb3 hg3 hown2 hown1 hg2 hg1 hb2 hb1
              obtain ⟨va, vc, he, hvc, hvcm, hfv, hbv⟩ := Hg3.out
              injection he with he
              injection he with he1 he2 he3
              rw [he1, he3]
              have Hfv := Lib.hid hfv; have Hbv := Lib.hid (HbW.out.trans (hbv.mono HbW.out.size)); have Hl3 := Lib.hid hl3
              clear hfv hbv he1 he2 he3
              rw [← hl3]
              clear hl3
              have hcR := spec_l2Reduce va vc (l.take i ++ (V ++ l.drop (i + p1))) w3 Hfv.out.row (by rw [Hl3.out]; omega) (fun y hy => (Hrawl.out y hy).1)
              generalize l.take i ++ (V ++ l.drop (i + p1)) = X at *
              have HcR := Lib.hid hcR; clear hcR
              go_wp2_with fail
              refine HcR.out.mono ?_
              rintro e w6 hg6
              have Hg6 := Lib.hid (hg6.later Hbv.out)
              obtain ⟨ya, yc, rfl, _, _, _, _⟩ := hg6
              go_wp2
              go_ret2
              rw [Hs.out]
              exact Hg6.out.with2
          · have Hn := Lib.hid (Hno.out (by omega))
            have dbig : decide (2 * g < (p1 : Int)) = false := decide_eq_false hbig
            have HbW := Lib.hid (hb0.out.trans (Hb0r.out.mono hb0.out.size))
            go_wp2
            go_roundw
            case rel => exact ⟨i + 1, by omega, by go_num, Lib.hid ⟨HbW.out, fun j hj => by
              rcases Nat.lt_or_ge j i with h | h
              · exact hh.out.2 j h
              · obtain rfl : j = i := by omega
                exact Hn.out⟩⟩
            case measure => simp [intOf]; omega
    · obtain rfl : i = l.length := by omega
      have Hs := Lib.hid (Dn.step_no hh.out.2)
      have dlt : decide (l.length < l.length) = false := decide_eq_false (by omega)
      go_wp2
      go_ret2
      rw [Hs.out]
      exact Gives.with2 (own_gives (by exact own_mono (own_made (w := wo) rfl) hh.out.1.size) rfl (hh.out.1.alloc hh.out.1.size _))
end Go.Proofs.Ytfaagbmaekoogaa
namespace Go.Proofs.Ytfaagbmaekoogaa
open Go.RowKit

theorem stepW_not {g : Int} {l : List Int} (h : ¬ Dn.Fit g l) : Dn.stepW g l = none := if_neg h
theorem stepW_of {g : Int} {l : List Int} (h : Dn.Fit g l) : Dn.stepW g l = Dn.step g (Word.red l) := if_pos h
theorem dehnW_not {g : Int} {l : List Int} (h : ¬ Dn.Fit g l) : Dn.dehnW g l = [] := if_neg h
theorem dehnW_of {g : Int} {l : List Int} (h : Dn.Fit g l) : Dn.dehnW g l = Dn.dehn g (Word.red l) := if_pos h
theorem Gives2.later {w w0 w' : World} {l : List Int} {b : Bool} {e : Ending} (h : Gives2 w0 l b e w') (hb : Below w.heap.size w w0) : Gives2 w l b e w' := by
  obtain ⟨a, c, he, h1, h2, h3, h4⟩ := h
  exact ⟨a, c, he, h1, h2, h3.mono hb.size, hb.trans (h4.mono hb.size)⟩
def lenOf (v : Value) : Nat := match v with | .slice _ n _ => n | _ => 0

set_option maxRecDepth 10000 in
set_option maxHeartbeats 1000000 in
theorem spec_DehnStep (g : Int) (a : Option Addr) (c : Nat) (l : List Int) (w : World) (ha : RowAt w a (intCells l)) (hl : l.length ≤ 1048576) :
    Calls Try.prog 48 #[.int .i64 g, .slice a l.length c] w fun e w' => Gives2 w ((Dn.stepW g l).getD []) (Dn.stepW g l).isSome e w' := by
  have hcF := spec_l8Fits g a c l w ha hl
  by_cases hF : Dn.Fit g l
  · rw [decide_eq_true hF] at hcF
    rw [stepW_of hF]
    have HF := Lib.hid hF; have HcF := Lib.hid hcF; have Ha := Lib.hid ha
    clear hF hcF ha
    go_enter Try.func48, Try.ntmps48
    go_wp2_with fail
    refine HcF.out.mono ?_
    rintro e w1 ⟨rfl, hb1⟩
    have Hb1 := Lib.hid hb1; clear hb1
    go_wp2_with fail
    refine (spec_l2Reduce a c l w1 (Ha.out.below Hb1.out) (by have := HF.out.2.1.2; omega) HF.out.2.1.1).mono ?_
    rintro e w2 ⟨ra, rc, rfl, hrc, hrcm, hfr, hb2⟩
    have Hfr := Lib.hid hfr; have Hb2 := Lib.hid (Hb1.out.trans (hb2.mono Hb1.out.size))
    clear hfr hb2
    have hcS := spec_l8Step g ra rc (Word.red l) w2 Hfr.out.row (by have := HF.out.red.2.1.2; omega) hrc HF.out.1 HF.out.red.lets
    generalize hS : Dn.step g (Word.red l) = S at *
    have HS := Lib.hid hS; clear hS
    have HcS := Lib.hid hcS; clear hcS
    go_wp2_with fail
    refine HcS.out.mono ?_
    rintro e w3 hg
    have Hg := Lib.hid (hg.later Hb2.out)
    obtain ⟨ya, yc, rfl, _, _, _, _⟩ := hg
    go_wp2
    go_ret2
    rw [HS.out]
    exact Hg.out
  · rw [decide_eq_false hF] at hcF
    rw [stepW_not hF]
    have HcF := Lib.hid hcF
    clear hcF hF
    go_enter Try.func48, Try.ntmps48
    go_wp2_with fail
    refine HcF.out.mono ?_
    rintro e w1 ⟨rfl, hb1⟩
    go_wp2
    go_ret2
    exact Gives.with2 (own_gives (by exact own_mono (own_made (w := w1) rfl) hb1.size) rfl (hb1.alloc hb1.size _))

set_option maxRecDepth 10000 in
set_option maxHeartbeats 2000000 in
theorem spec_l8Dehn (g : Int) (a : Option Addr) (c : Nat) (l : List Int) (w : World) (ha : RowAt w a (intCells l)) (hl : l.length ≤ 1000) (hG : Dn.Gr g) (hL : ∀ x ∈ l, Dn.Let g x) :
    Calls Try.prog 129 #[.int .i64 g, .slice a l.length c] w fun e w' => Gives w (Dn.dehn g (Word.red l)) e w' := by
  have hcR := spec_l2Reduce a c l w ha hl (fun x hx => (hL x hx).1)
  have hlen := Word.red_len l
  have hrL : ∀ x ∈ Word.red l, Dn.Let g x := Word.red_mem hL
  generalize Word.red l = R at *
  have HcR := Lib.hid hcR; have HrL := Lib.hid hrL; have Hg := Lib.hid hG
  clear hcR hrL hL ha hG
  go_enter Try.func129, Try.ntmps129
  go_wp2_with fail
  refine HcR.out.mono ?_
  rintro e w1 ⟨ra, rc, rfl, hrc, hrcm, hfr, hb1⟩
  have Hfr := Lib.hid hfr; have Hb1 := Lib.hid hb1
  clear hfr hb1
  go_wp2
  go_loopw [5, 6, 7] (fun ov _ _ wr => ∃ (v : List Int) (va : Option Addr) (vc : Nat), ov = .slice va v.length vc ∧ v.length ≤ 1000 ∧ Hid (v.length ≤ vc ∧ vc ≤ maxLen ∧ Fresh wr w.heap.size 3 va (intCells v) ∧ Below w.heap.size w wr ∧ Dn.dehn g v = Dn.dehn g R ∧ ∀ x ∈ v, Dn.Let g x)) (fun ov _ _ _ => lenOf ov)
  case atStart => exact ⟨R, ra, rc, rfl, by omega, Lib.hid ⟨hrc, hrcm, Hfr.out, Hb1.out, rfl, HrL.out⟩⟩
  case round =>
    obtain ⟨v, va, vc, rfl, hv, hh⟩ := hrel
    obtain ⟨h1, h2, h3, h4, h5, h6⟩ := hh.out
    have hcS := spec_l8Step g va vc v wr h3.row hv h1 Hg.out h6
    have hsl := fun r => Dn.step_len (g := g) (w := v) (r := r) Hg.out
    have hsL := fun r => Dn.step_letters (g := g) (w := v) (r := r) Hg.out h6
    have hd0 := fun h : Dn.step g v = none => Dn.dehn_none h
    have hd1 := fun r => Dn.dehn_some (g := g) (w := v) (r := r) Hg.out
    clear h1 h2 h3 h4 h5 h6
    cases hS : Dn.step g v with
    | none =>
      rw [hS] at hcS
      have Hd := Lib.hid (hd0 hS)
      have HcS := Lib.hid hcS
      clear hcS hS hd0 hd1 hsL hsl
      go_wp2_with fail
      refine HcS.out.mono ?_
      rintro e w3 ⟨ya, yc, rfl, hyc, hycm, hfy, hb3⟩
      have Hb3 := Lib.hid hb3
      clear hfy hb3
      go_wp2
      go_ret
      obtain ⟨h1, h2, h3, h4, h5, h6⟩ := hh.out
      rw [← h5, Hd.out]
      exact ⟨_, _, rfl, h1, h2, h3.below Hb3.out, h4.trans (Hb3.out.mono h4.size)⟩
    | some r =>
      rw [hS] at hcS
      have Hd := Lib.hid (hd1 r hS)
      have HsL := Lib.hid (hsL r hS)
      have hlt := hsl r hS
      have HcS := Lib.hid hcS
      clear hcS hS hd0 hd1 hsL hsl
      go_wp2_with fail
      refine HcS.out.mono ?_
      rintro e w3 ⟨ya, yc, rfl, hyc, hycm, hfy, hb3⟩
      have Hb3 := Lib.hid hb3; have Hfy := Lib.hid hfy
      clear hfy hb3
      go_wp2
      go_roundw
      case rel =>
        obtain ⟨h1, h2, h3, h4, h5, h6⟩ := hh.out
        exact ⟨r, ya, yc, rfl, by omega, Lib.hid ⟨hyc, hycm, Hfy.out.mono h4.size, h4.trans (Hb3.out.mono h4.size), by rw [← h5, Hd.out], HsL.out⟩⟩
      case measure => simp only [lenOf, Option.getD_some]; omega

set_option maxRecDepth 10000 in
set_option maxHeartbeats 1000000 in
theorem spec_DehnWord (g : Int) (a : Option Addr) (c : Nat) (l : List Int) (w : World) (ha : RowAt w a (intCells l)) (hl : l.length ≤ 1048576) :
    Calls Try.prog 60 #[.int .i64 g, .slice a l.length c] w fun e w' => Gives w (Dn.dehnW g l) e w' := by
  have hcF := spec_l8Fits g a c l w ha hl
  by_cases hF : Dn.Fit g l
  · rw [decide_eq_true hF] at hcF
    rw [dehnW_of hF]
    have HF := Lib.hid hF; have HcF := Lib.hid hcF; have Ha := Lib.hid ha
    clear hF hcF ha
    go_enter Try.func60, Try.ntmps60
    go_wp2_with fail
    refine HcF.out.mono ?_
    rintro e w1 ⟨rfl, hb1⟩
    have Hb1 := Lib.hid hb1; clear hb1
    go_wp2_with fail
    refine (spec_l8Dehn g a c l w1 (Ha.out.below Hb1.out) (by have := HF.out.2.1.2; omega) HF.out.1 HF.out.lets).mono ?_
    rintro e w2 hg
    have Hg := Lib.hid (hg.later Hb1.out)
    obtain ⟨ya, yc, rfl, _, _, _, _⟩ := hg
    go_wp2
    go_ret
    exact Hg.out
  · rw [decide_eq_false hF] at hcF
    rw [dehnW_not hF]
    have HcF := Lib.hid hcF
    clear hcF hF
    go_enter Try.func60, Try.ntmps60
    go_wp2_with fail
    refine HcF.out.mono ?_
    rintro e w1 ⟨rfl, hb1⟩
    go_wp2
    go_ret
    exact own_gives (by exact own_mono (own_made (w := w1) rfl) hb1.size) rfl (hb1.alloc hb1.size _)

set_option maxRecDepth 10000 in
set_option maxHeartbeats 2000000 in
theorem impl_DehnWord (g : Int) (a : Option Addr) (c : Nat) (l : List Int) (w : World) (ha : RowAt w a (intCells l)) (hl : l.length ≤ 1048576) :
    Calls Try.prog 52 #[.int .i64 g, .slice a l.length c] w fun e w' => Gives w (Dn.dehnW g l) e w' := by
  have hcF := impl_isGroupWord g a c l w ha (by omega)
  by_cases hF : Dn.Fit g l
  · rw [decide_eq_true hF] at hcF
    rw [dehnW_of hF]
    have hcR := fun W (hb : Below w.heap.size w W) => impl_ReduceWord a c l W (ha.below hb) hl
    rw [show Word.reduce l = Word.red l from if_pos hF.2.1] at hcR
    have hRF := hF.red
    have hRR := Am.red_red l
    have hG := hF.1
    generalize Word.red l = R at *
    have HcF := Lib.hid hcF; have HcR := Lib.hid hcR; have HRF := Lib.hid hRF; have HRR := Lib.hid hRR; have Hg := Lib.hid hG
    clear hF hcF ha hcR hRF hRR hG
    go_enter Try.func52, Try.ntmps52
    go_wp2
    go_step3
    go_wp2_with fail
    refine HcF.out.mono ?_
    rintro e w1 ⟨rfl, hb1⟩
    have Hb1 := Lib.hid hb1; clear hb1
    go_wp2_with fail
    refine (HcR.out w1 Hb1.out).mono ?_
    rintro e w2 ⟨ra, rc, rfl, hrc, hrcm, hfr, hb2⟩
    have Hfr := Lib.hid (hfr.mono Hb1.out.size); have Hb2 := Lib.hid (Hb1.out.trans (hb2.mono Hb1.out.size))
    clear hfr hb2
    go_wp2
    go_step3
    go_wp2
    go_loopw [5, 6, 7] (fun ov _ _ wr => ∃ (v : List Int) (va : Option Addr) (vc : Nat), ov = .slice va v.length vc ∧ v.length ≤ 1000 ∧ Hid (v.length ≤ vc ∧ vc ≤ maxLen ∧ Fresh wr w.heap.size 3 va (intCells v) ∧ Below w.heap.size w wr ∧ Dn.dehn g v = Dn.dehn g R ∧ Dn.Fit g v ∧ Word.red v = v)) (fun ov _ _ _ => lenOf ov)
    case atStart => exact ⟨R, ra, rc, rfl, by have := HRF.out.2.1.2; omega, Lib.hid ⟨hrc, hrcm, Hfr.out, Hb2.out, rfl, HRF.out, HRR.out⟩⟩
    case round =>
      obtain ⟨v, va, vc, rfl, hv, hh⟩ := hrel
      obtain ⟨h1, h2, h3, h4, h5, h6, h7⟩ := hh.out
      have hcS := impl_DehnStep_fit g va vc v wr h3.row h6
      rw [h7] at hcS
      have hsl := fun r => Dn.step_len (g := g) (w := v) (r := r) Hg.out
      have hsL := fun r => Dn.step_letters (g := g) (w := v) (r := r) Hg.out h6.lets
      have hsR := fun r => Dn.step_red (g := g) (w := v) (r := r)
      have hd0 := fun h : Dn.step g v = none => Dn.dehn_none h
      have hd1 := fun r => Dn.dehn_some (g := g) (w := v) (r := r) Hg.out
      clear h1 h2 h3 h4 h5 h6 h7
      cases hS : Dn.step g v with
      | none =>
        rw [hS] at hcS
        have Hd := Lib.hid (hd0 hS)
        have HcS := Lib.hid hcS
        clear hcS hS hd0 hd1 hsL hsl hsR
        go_wp2_with fail
        refine HcS.out.mono ?_
        rintro e w3 ⟨ya, yc, rfl, hyc, hycm, hfy, hb3⟩
        have Hb3 := Lib.hid hb3
        clear hfy hb3
        go_wp2
        simp only [Exit.noGoto_ret]
        go_ret
        obtain ⟨h1, h2, h3, h4, h5, h6, h7⟩ := hh.out
        rw [← h5, Hd.out]
        exact ⟨_, _, rfl, h1, h2, h3.below Hb3.out, h4.trans (Hb3.out.mono h4.size)⟩
      | some r =>
        rw [hS] at hcS
        have Hd := Lib.hid (hd1 r hS)
        have hlt := hsl r hS
        have HsF := Lib.hid (Dn.Fit.mk Hg.out (hsL r hS) (by have := hh.out.2.2.2.2.2.1.2.1.2; omega))
        have HsR := Lib.hid (hsR r hS)
        have HcS := Lib.hid hcS
        clear hcS hS hd0 hd1 hsL hsl hsR
        go_wp2_with fail
        refine HcS.out.mono ?_
        rintro e w3 ⟨ya, yc, rfl, hyc, hycm, hfy, hb3⟩
        have Hb3 := Lib.hid hb3; have Hfy := Lib.hid hfy
        clear hfy hb3
        go_wp2
        go_roundw
        case rel =>
          obtain ⟨h1, h2, h3, h4, h5, h6, h7⟩ := hh.out
          exact ⟨r, ya, yc, rfl, by omega, Lib.hid ⟨hyc, hycm, Hfy.out.mono h4.size, h4.trans (Hb3.out.mono h4.size), by rw [← h5, Hd.out], HsF.out, HsR.out⟩⟩
        case measure => simp only [lenOf, Option.getD_some]; omega
  · rw [decide_eq_false hF] at hcF
    rw [dehnW_not hF]
    have HcF := Lib.hid hcF
    clear hcF hF
    go_enter Try.func52, Try.ntmps52
    go_wp2
    go_step3
    go_wp2_with fail
    refine HcF.out.mono ?_
    rintro e w1 ⟨rfl, hb1⟩
    go_wp2
    simp only [Exit.noGoto_ret]
    go_ret
    exact Gives.none hb1
end Go.Proofs.Ytfaagbmaekoogaa
namespace Go.Proofs.Ytfaagbmaekoogaa
open Go.RowKit

namespace Glue
/-- The beginning of a side, the end of one: numbers of the ends of letters. -/
def begN (x : Int) : Nat := if x < 0 then 2 * x.natAbs + 1 else 2 * x.natAbs
def endN (x : Int) : Nat := begN (-x)
theorem begN_lt {x : Int} (h : Word.Letter x) : begN x < 18 := by obtain ⟨h0, h1, h2⟩ := h; unfold begN; split <;> omega
theorem letter_neg {x : Int} (h : Word.Letter x) : Word.Letter (-x) := by obtain ⟨h0, h1, h2⟩ := h; exact ⟨by omega, by omega, by omega⟩
theorem endN_lt {x : Int} (h : Word.Letter x) : endN x < 18 := begN_lt (letter_neg h)
/-- The corner behind the side j of a polygon: the end of that side, the beginning of the next. -/
def corner (r : List Int) (j : Nat) : Nat × Nat := (endN (r.getD j 0), begN (r.getD ((j + 1) % r.length) 0))
def corners (L : List (List Int)) : List (Nat × Nat) := metAll corner L
/-- The classes of corners, by the ends of letters at them. -/
def cor (L : List (List Int)) : Nat → Nat := Cls.mergeAll (corners L)
theorem corner_at {r : List Int} {j : Nat} {x y : Int} (hx : r[j]? = some x) (hy : r[(j + 1) % r.length]? = some y) : corner r j = (endN x, begN y) := by
  unfold corner
  rw [List.getD_eq_getElem?_getD, hx, List.getD_eq_getElem?_getD, hy]; rfl
theorem corner_lt {r : List Int} (h : Word.IsW r) {j : Nat} (hj : j < r.length) : (corner r j).1 < 18 ∧ (corner r j).2 < 18 := by
  have h2 : (j + 1) % r.length < r.length := Nat.mod_lt _ (by omega)
  rw [corner_at (List.getElem?_eq_getElem hj) (List.getElem?_eq_getElem h2)]
  exact ⟨endN_lt (h.at hj), begN_lt (h.at h2)⟩
theorem corners_lt {L : List (List Int)} (h : ∀ p ∈ L, Word.IsW p) : ∀ p ∈ corners L, p.1 < 18 ∧ p.2 < 18 := by
  intro p hp
  obtain ⟨r, hr, j, hj, rfl⟩ := met_mem hp
  exact corner_lt (h r hr) hj
theorem cor_ok {L : List (List Int)} (h : ∀ p ∈ L, Word.IsW p) : Cls.Ok (cor L) 18 := Cls.Ok.all (corners_lt h)
end Glue

theorem mod_cast' (a n : Nat) : ((a : Nat) : Int) % (n : Int) = ((a % n : Nat) : Int) := (Int.natCast_emod a n).symm
theorem tmod_cast' (a n : Nat) : Int.tmod ((a : Nat) : Int) (n : Int) = ((a % n : Nat) : Int) := by
  rw [Int.tmod_eq_emod_of_nonneg (by omega)]; exact mod_cast' a n



set_option maxRecDepth 10000 in
theorem spec_l1Bit (b : Bool) (w : World) : Calls Try.prog 76 #[.bool b] w fun e w' => e = .returned (.int .i64 (if b then 1 else 0)) ∧ w' = w := by
  cases b
  · go_enter Try.func76, Try.ntmps76
    go_wp2
    go_ret
    exact ⟨rfl, rfl⟩
  · go_enter Try.func76, Try.ntmps76
    go_wp2
    go_ret
    exact ⟨rfl, rfl⟩

/-- A row of the call's own, as the block that holds its numbers. -/
theorem own_lab {w : World} {base n : Nat} {v : Value} {ms : List Nat} (h : w.ownsRow base 3 1 v n (intCells (intsOf ms))) (hn : ms.length = n) (h0 : 0 < n) :
    ∃ g cap, v = .slice (some ⟨g, 0, none⟩) n cap ∧ base ≤ g ∧ n ≤ cap ∧ Lab w g (fun k => ms.getD k 0) n := by
  rcases h.2 with ⟨_, h2⟩ | ⟨g, cap, cur, rfl, hg, hh, hle, hm, hc, ht⟩
  · omega
  · refine ⟨g, cap, rfl, hg, hle, cur, hh, fun k hk => ?_⟩
    have e : (intCells (intsOf ms))[k]? = some (.int .i64 ((ms.getD k 0 : Nat) : Int)) := by
      have hk' : k < ms.length := by omega
      simp [intCells, intsOf, hk', List.getD_eq_getElem?_getD]
    rw [← ht, List.getElem?_take] at e
    split at e
    · simpa using e
    · cases e

theorem own_lab2 {w : World} {base n : Nat} {v : Value} {ms : List Nat} (h : w.ownsRow base 3 1 v n (intCells (intsOf ms))) (hn : ms.length = n) (h0 : v ≠ .slice none 0 0) :
    ∃ g cap, v = .slice (some ⟨g, 0, none⟩) n cap ∧ base ≤ g ∧ n ≤ cap ∧ Lab w g (fun k => ms.getD k 0) n := by
  rcases h.2 with ⟨h2, _⟩ | ⟨g, cap, cur, rfl, hg, hh, hle, hm, hc, ht⟩
  · exact absurd h2 h0
  · refine ⟨g, cap, rfl, hg, hle, cur, hh, fun k hk => ?_⟩
    have e : (intCells (intsOf ms))[k]? = some (.int .i64 ((ms.getD k 0 : Nat) : Int)) := by
      have hk' : k < ms.length := by omega
      simp [intCells, intsOf, hk', List.getD_eq_getElem?_getD]
    rw [← ht, List.getElem?_take] at e
    split at e
    · simpa using e
    · cases e

set_option maxRecDepth 10000 in
set_option maxHeartbeats 2000000 in
theorem spec_l3Ends (a : Option Addr) (c : Nat) (L : List (List Int)) (w : World) (ha : GridAt w a L) (hw : ∀ p ∈ L, Word.IsW p) (hn : L.length ≤ 1000) :
    Calls Try.prog 110 #[.slice a L.length c] w fun e w' => ∃ g cap, e = .returned (.slice (some ⟨g, 0, none⟩) 18 cap) ∧ w.heap.size ≤ g ∧ (∃ u d, Lab w' g u 18 ∧ Cls.Up u (Glue.cor L) d 18) ∧ Below w.heap.size w w' := by
  obtain ⟨i0, hi0, hz0, hz1, hz2⟩ := info_int_parts
  have Hi0 := Lib.hid hi0; have Hz0 := Lib.hid hz0; have Hz1 := Lib.hid hz1; have Hz2 := Lib.hid hz2
  have Ha := Lib.hid ha; have Hw := Lib.hid hw
  clear hi0 hz0 hz1 hz2 ha hw
  generalize hN : w.heap.size = N at *
  have HN := Lib.hid hN
  go_enter Try.func110, Try.ntmps110
  go_wp2
  go_loopw [3, 4] (fun ov iv wr => ∃ i : Nat, i ≤ 18 ∧ iv = .int .i64 i ∧ Below N w wr ∧ wr.ownsRow N 3 1 ov i (intCells (intsOf (List.range i)))) (fun _ iv _ => 18 - (intOf iv).toNat)
  case atStart => exact ⟨0, by omega, rfl, by have h := (Below.refl w.heap.size w).alloc (Nat.le_refl _) (.cells #[] 3); rw [HN.out] at h; exact h, by have h := own_made HN.out; rw [HN.out] at h; exact h⟩
  case round =>
    obtain ⟨i, hi, rfl, hb, hown⟩ := hrel
    by_cases hlt : i ≤ 17
    · have hNle : N ≤ wr.heap.size := by have := hb.size; rw [HN.out] at this; exact this
      have hst : List.range (i + 1) = List.range i ++ [i] := List.range_succ
      have Hst := Lib.hid hst
      obtain ⟨av, cv, rfl⟩ := own_len hown
      have hm1 : i + 1 ≤ maxLen := by unfold maxLen; omega
      have hm2 : (i + 1) * 8 ≤ 140737488355328 := by omega
      have hic : (i : Int) ≤ 17 := by omega
      generalize List.range i = X at *
      generalize hY : List.range (i + 1) = Y at *
      have HY := Lib.hid hY
      clear hY hst
      go_wp2_with (at_builtin; refine append_one rfl (.tmp 16) (.tmp 18) 42 rfl N 3 i0 _ 8 Try.underlying42 Hi0.out Hz0.out Hz1.out Hz2.out (by rfl) _ _ _ rfl hown (by rfl) _ rfl hm1 hm2 hNle ?_; intro v1 w1 hown1 hg1 _)
      go_roundw
      case rel =>
        refine ⟨i + 1, by omega, by go_num, Below.grown (hb.alloc hNle _) hg1 (by simp; omega) (fun k hk => (hown.lt k hk).1), ?_⟩
        rw [HY.out, Hst.out, intsOf_snoc, ← intCells_snoc]; exact hown1
      case measure => simp [intOf]; omega
    · obtain rfl : i = 18 := by omega
      rw [show (((18 : Nat)) : Int) = 18 from rfl]
      obtain ⟨g, cap, rfl, hgN, hcap, hlab⟩ := own_lab hown (by simp) (by omega)
      have hlab0 : Lab wr g id 18 := hlab.congr (fun k hk => by simp [List.getD_eq_getElem?_getD, hk])
      have Hlab := Lib.hid hlab0; have HgN := Lib.hid hgN; have Hb := Lib.hid hb
      clear hlab hlab0 hown hgN hb
      go_wp2
      go_loopw [5, 6, 7, 8, 9, 10] (fun iv _ _ _ _ _ wr => ∃ i : Nat, i ≤ L.length ∧ iv = .int .i64 i ∧ Below N w wr ∧ Hid (∃ u d, Lab wr g u 18 ∧ Cls.Up u (Cls.mergeAll (met Glue.corner L i 0)) d 18)) (fun iv _ _ _ _ _ _ => L.length - (intOf iv).toNat)
      case atStart => exact ⟨0, by omega, rfl, Hb.out, Lib.hid ⟨id, _, Hlab.out, by rw [met_zero]; exact Cls.Up.start 18⟩⟩
      case round =>
        obtain ⟨i, hi, rfl, hb, hk⟩ := hrel
        by_cases hlt : i < L.length
        · obtain ⟨r, hr⟩ := get_some hlt
          have Hr := Lib.hid hr
          have hwi := Hw.out r (get_mem hr)
          have hll : r.length ≤ 24 := hwi.2
          have Hwi := Lib.hid hwi
          have Hb2 := Lib.hid hb
          clear hr hwi hb
          go_wp2
          go_loopw [6, 7, 8, 9, 10] (fun jv _ _ _ _ w2 => ∃ j : Nat, j ≤ r.length ∧ jv = .int .i64 j ∧ Hid (Below N w w2) ∧ Hid (∃ u d, Lab w2 g u 18 ∧ Cls.Up u (Cls.mergeAll (met Glue.corner L i j)) d 18)) (fun jv _ _ _ _ _ => r.length - (intOf jv).toNat)
          case atStart => exact ⟨0, by omega, rfl, Hb2, hk⟩
          case round =>
            clear hk
            obtain ⟨j, hj, rfl, hb, hk⟩ := hrel
            obtain ⟨b, o, ai, ci, rfl, hbw, hcell, hrow⟩ := (Ha.out.below (by rw [HN.out]; exact hb.out)).get Hr.out
            by_cases hjt : j < r.length
            · obtain ⟨x, hx⟩ := get_some hjt
              have hmod : (j + 1) % r.length < r.length := Nat.mod_lt _ (by omega)
              obtain ⟨y, hy⟩ := get_some hmod
              obtain ⟨b', o', rfl, hbw', hcell'⟩ := intCells_get? hrow hx
              obtain ⟨b'', o'', e2, _, hcell''⟩ := intCells_get? hrow hy
              cases e2
              obtain ⟨u, d, hlab, hup⟩ := hk.out
              have hstep := met_step (f := Glue.corner) j Hr.out
              rw [Glue.corner_at hx hy] at hstep
              have hLx := Hwi.out.1 x (get_mem hx)
              have hLy := Hwi.out.1 y (get_mem hy)
              have hex := Glue.endN_lt hLx
              have hby := Glue.begN_lt hLy
              obtain ⟨hx0, hx1, hx2⟩ := hLx
              obtain ⟨hy0, hy1, hy2⟩ := hLy
              have hm0 : 0 ≤ ((j : Int) + 1) % (r.length : Int) := Int.emod_nonneg _ (by omega)
              have hm1 : ((j : Int) + 1) % (r.length : Int) < (r.length : Int) := Int.emod_lt_of_pos _ (by omega)
              have hrl : ¬ ((r.length : Int) = 0) := by omega
              have h0i : (0 : Int) ≤ (i : Int) := by omega
              have h1i : (i : Int) < (L.length : Int) := by omega
              have h0j : (0 : Int) ≤ (j : Int) := by omega
              have h1j : (j : Int) < (r.length : Int) := by omega
              -- the numbers of the two ends
              have hax := fun W => spec_l3Abs x W (by omega) (by omega)
              have hay := fun W => spec_l3Abs y W (by omega) (by omega)
              have Hax := Lib.hid hax; have Hay := Lib.hid hay
              obtain ⟨bx, hbx⟩ : ∃ bx, decide (0 < x) = bx := ⟨_, rfl⟩
              obtain ⟨bY, hbY⟩ : ∃ bY, decide (y < 0) = bY := ⟨_, rfl⟩
              have hnx : 2 * (x.natAbs : Int) + (if bx then 1 else 0) = ((Glue.endN x : Nat) : Int) := by
                subst hbx; unfold Glue.endN Glue.begN
                by_cases h : 0 < x
                · have h' : -x < 0 := by omega
                  simp only [h, h', decide_true, if_true]; omega
                · have h' : ¬ -x < 0 := by omega
                  simp only [h, h', decide_false, if_false, Bool.false_eq_true]; omega
              have hny : 2 * (y.natAbs : Int) + (if bY then 1 else 0) = ((Glue.begN y : Nat) : Int) := by
                subst hbY; unfold Glue.begN
                by_cases h : y < 0
                · simp only [h, decide_true, if_true]; omega
                · simp only [h, decide_false, if_false, Bool.false_eq_true]; omega
              have hbitx := fun W => spec_l1Bit bx W
              have hbity := fun W => spec_l1Bit bY W
              have hrx : 0 ≤ (if bx then (1 : Int) else 0) ∧ (if bx then (1 : Int) else 0) ≤ 1 := by cases bx <;> simp
              have hry : 0 ≤ (if bY then (1 : Int) else 0) ∧ (if bY then (1 : Int) else 0) ≤ 1 := by cases bY <;> simp
              generalize (if bx then (1 : Int) else 0) = tx at *
              generalize (if bY then (1 : Int) else 0) = ty at *
              have hxa : x.natAbs < 9 := by omega
              have hya : y.natAbs < 9 := by omega
              have Hnx := Lib.hid hnx; have Hny := Lib.hid hny; have Hbitx := Lib.hid hbitx; have Hbity := Lib.hid hbity
              clear hax hay hnx hny hbitx hbity
              generalize x.natAbs = xa at *
              generalize y.natAbs = ya at *
              obtain ⟨hrx0, hrx1⟩ := hrx
              obtain ⟨hry0, hry1⟩ := hry
              have hlk := hup.link (p := (Glue.endN x, Glue.begN y)) hex hby
              rw [← Cls.mergeAll_snoc, ← hstep] at hlk
              have hfx := fun z hz W h => spec_l3Find (some ⟨g, 0, none⟩) cap 18 u _ d (Glue.endN x) z hz W h hup hex (by omega)
              have hfy := fun z hz W h => spec_l3Find (some ⟨g, 0, none⟩) cap 18 u _ d (Glue.begN y) z hz W h hup hby (by omega)
              have hca := hup.ok.lt _ hex
              generalize Cls.mergeAll (met Glue.corner L i j) (Glue.endN x) = ra at *
              generalize Cls.mergeAll (met Glue.corner L i j) (Glue.begN y) = rb at *
              have Hfx := Lib.hid hfx; have Hfy := Lib.hid hfy; have Hlk := Lib.hid hlk; have Hrow := Lib.hid hlab
              clear hfx hfy hlk hup hstep hrow hx hy hex hby hbw' hmod hlab hx0 hx1 hx2 hy0 hy1 hy2
              go_wp2
              go_quiet (fail)
              have Hbq := Lib.hid (below_drewN hb.out nq)
              have Hrq := Lib.hid (Hrow.out.drewN nq)
              generalize wr.drewN nq = W0 at *
              clear hcell hcell' hcell''
              go_wp2_with fail
              refine (Hax.out _).mono ?_
              rintro e w2 ⟨rfl, rfl⟩
              go_wp2_with fail
              refine (Hbitx.out _).mono ?_
              rintro e w2 ⟨rfl, rfl⟩
              go_wp2_with fail
              refine (Hfx.out _ Hnx.out _ Hrq.out.row).mono ?_
              rintro e w2 ⟨rfl, rfl⟩
              go_wp2_with fail
              refine (Hay.out _).mono ?_
              rintro e w2 ⟨rfl, rfl⟩
              go_wp2_with fail
              refine (Hbity.out _).mono ?_
              rintro e w2 ⟨rfl, rfl⟩
              go_wp2_with fail
              refine (Hfy.out _ Hny.out _ Hrq.out.row).mono ?_
              rintro e w2 ⟨rfl, rfl⟩
              have hdst := Hrq.out.cell hca
              have hfz := Hrq.out.frozen ra
              have hput := Hrq.out.put (b := rb) hca
              have Hput := Lib.hid hput
              have hc0 : (0 : Int) ≤ (ra : Int) := by omega
              have hc1 : (ra : Int) < 18 := by omega
              clear hput
              go_wp2
              go_roundw
              case rel => exact ⟨j + 1, by omega, by go_num, Lib.hid (Hbq.out.setCell HgN.out _), Lib.hid ⟨_, _, Hput.out, Hlk.out⟩⟩
              case measure => simp [intOf]; omega
            · obtain rfl : j = r.length := by omega
              rw [met_next Hr.out] at hk
              go_wp2
              go_roundw
              case rel => exact ⟨i + 1, by omega, by go_num, hb.out, hk⟩
              case measure => simp [intOf]; omega
        · obtain rfl : i = L.length := by omega
          rw [met_end] at hk
          go_wp2
          go_ret
          exact ⟨g, cap, rfl, HgN.out, hk.out, hb⟩
end Go.Proofs.Ytfaagbmaekoogaa
namespace Go.Proofs.Ytfaagbmaekoogaa
open Go.RowKit

namespace Dn
def zeroB (l : List Int) : Bool := decide (∀ x ∈ l, x = 0)
/-- The two sums. -/
def two (l : List Int) : List Int := [tot 0 l, tot 1 l]
theorem two_put {l : List Int} {i j : Nat} (hi : i < l.length) (hj : j < 2) (hx : l[i].natAbs = j + 1) : (two (l.take i)).set j ((two (l.take i)).getD j 0 + wt j l[i]) = two (l.take (i + 1)) := by
  unfold two
  rw [tot_take hi, tot_take hi]
  generalize l[i] = x at *
  rcases (show j = 0 ∨ j = 1 by omega) with rfl | rfl
  · have : wt 1 x = 0 := by unfold wt; rw [if_neg (by omega), if_neg (by omega)]
    rw [this]; simp
  · have : wt 0 x = 0 := by unfold wt; rw [if_neg (by omega), if_neg (by omega)]
    rw [this]; simp
theorem two_bound (l : List Int) (j : Nat) : -(l.length : Int) ≤ (two l).getD j 0 ∧ (two l).getD j 0 ≤ l.length := by
  unfold two
  have h0 := tot_bound 0 l
  have h1 := tot_bound 1 l
  match j with
  | 0 => exact h0
  | 1 => exact h1
  | j + 2 => simp
theorem triv_one (l : List Int) : decide (Triv 1 l) = decide (tot 0 l = 0 ∧ tot 1 l = 0) := decide_eq_decide.2 (by unfold Triv; rw [if_neg (by decide)])
theorem triv_two (l : List Int) : decide (Triv 2 l) = decide ((dehn 2 (Word.red l)).length = 0) := decide_eq_decide.2 (by unfold Triv; rw [if_pos rfl]; exact List.length_eq_zero_iff.symm)
theorem zero_sums {l : List Int} (h : Fit 1 l) : zeroB (Word.sums l) = decide (Triv 1 l) := by
  rw [triv_one]
  unfold zeroB
  rw [sums_list h.2.1.1]
  refine decide_eq_decide.2 ⟨fun hh => ⟨hh _ (List.mem_map.2 ⟨0, by simp, rfl⟩), hh _ (List.mem_map.2 ⟨1, by simp, rfl⟩)⟩, fun ⟨h0, h1⟩ x hx => ?_⟩
  obtain ⟨j, _, rfl⟩ := List.mem_map.1 hx
  match j with
  | 0 => exact h0
  | 1 => exact h1
  | j + 2 => exact tot_far h.2.2 (by omega)
theorem trivW_of {g : Int} {l : List Int} (h : Fit g l) : decide (TrivW g l) = decide (Triv g l) := decide_eq_decide.2 ⟨fun x => x.2, fun x => ⟨h, x⟩⟩
theorem trivW_not {g : Int} {l : List Int} (h : ¬ Fit g l) : decide (TrivW g l) = false := decide_eq_false fun x => h x.1
end Dn

set_option maxRecDepth 10000 in
theorem impl_isZero1 (x : Int) (w : World) : Calls Try.prog 151 #[.int .i64 x] w fun e w' => e = .returned (.bool (x != 0)) ∧ w = w' := by
  generalize hb : (x != 0) = b
  have Hb := Lib.hid hb; clear hb
  go_enter Try.func151, Try.ntmps151
  go_wp2
  go_ret
  exact ⟨by rw [← Hb.out]; rfl, rfl⟩
set_option maxRecDepth 10000 in
set_option maxHeartbeats 1000000 in
theorem lib_IndexFunc0 (a : Option Addr) (cap : Nat) (l : List Int) (w : World) (ha : RowAt w a (intCells l)) (hl : l.length ≤ 1000) :
    Calls Try.prog 157 #[.slice a l.length cap, .func (.func 151) #[] #[]] w fun e w' => (∃ z : Int, e = .returned (.int .i64 z) ∧ decide (0 ≤ z) = !(Dn.zeroB l)) ∧ w = w' := by
  have Ha := Lib.hid ha
  clear ha
  go_enter Try.func157, Try.ntmps157
  go_wp2
  go_loopw [5, 8] (fun _ iv wr => ∃ i : Nat, i ≤ l.length ∧ iv = .int .i64 i ∧ Hid (∀ j, j < i → l[j]? = some 0) ∧ w = wr) (fun _ iv _ => l.length - (intOf iv).toNat)
  case atStart => exact ⟨0, by omega, rfl, Lib.hid (fun j hj => absurd hj (by omega)), rfl⟩
  case round =>
    obtain ⟨i, hi, rfl, hno, rfl⟩ := hrel
    by_cases hlt : i < l.length
    · obtain ⟨y, hy⟩ := get_some hlt
      obtain ⟨b, o, rfl, hbw, hcell⟩ := intCells_get? Ha.out hy
      have hcl := impl_isZero1 y w
      have Hy := Lib.hid hy; clear hy
      by_cases he : y = 0
      · rw [show (y != 0) = false from by simp [he]] at hcl
        have Hno := Lib.hid (show ∀ j, j < i + 1 → l[j]? = some 0 from fun j hj => by
          rcases Nat.lt_or_ge j i with h | h
          · exact hno.out j h
          · obtain rfl : j = i := by omega
            rw [Hy.out, he])
        have Hcl := Lib.hid hcl
        clear he hcl
        go_wp2_with fail
        refine Hcl.out.mono ?_
        rintro e w3 ⟨rfl, rfl⟩
        go_wp2
        go_roundw
        case rel => exact ⟨i + 1, by omega, by go_num, Hno, trivial⟩
        case measure => simp [intOf]; omega
      · rw [show (y != 0) = true from by simp [he]] at hcl
        have Hres := Lib.hid (show decide ((0 : Int) ≤ (i : Int)) = !(Dn.zeroB l) from by
          have : Dn.zeroB l = false := decide_eq_false fun h => he (h y (get_mem Hy.out))
          rw [this, decide_eq_true (by omega)]; rfl)
        have Hcl := Lib.hid hcl
        clear he hcl
        go_wp2_with fail
        refine Hcl.out.mono ?_
        rintro e w3 ⟨rfl, rfl⟩
        go_wp2
        go_ret
        exact ⟨⟨_, rfl, Hres.out⟩, rfl⟩
    · obtain rfl : i = l.length := by omega
      have Hres := Lib.hid (show decide ((0 : Int) ≤ -1) = !(Dn.zeroB l) from by
        have : Dn.zeroB l = true := decide_eq_true fun x hx => by
          obtain ⟨j, hj, rfl⟩ := List.mem_iff_getElem.1 hx
          have := hno.out j hj
          rw [List.getElem?_eq_getElem hj] at this
          exact Option.some.inj this
        rw [this]; rfl)
      go_wp2
      go_ret
      exact ⟨⟨_, rfl, Hres.out⟩, rfl⟩
set_option maxRecDepth 10000 in
set_option maxHeartbeats 1000000 in
theorem lib_ContainsFunc0 (a : Option Addr) (cap : Nat) (l : List Int) (w : World) (ha : RowAt w a (intCells l)) (hl : l.length ≤ 1000) :
    Calls Try.prog 150 #[.slice a l.length cap, .func (.func 151) #[] #[]] w fun e w' => e = .returned (.bool (!(Dn.zeroB l))) ∧ w = w' := by
  have Hc := Lib.hid (lib_IndexFunc0 a cap l w ha hl)
  clear ha
  generalize (!(Dn.zeroB l)) = b at *
  go_enter Try.func150, Try.ntmps150
  go_wp2_with fail
  refine Hc.out.mono ?_
  rintro e w3 ⟨⟨z, rfl, hz⟩, rfl⟩
  have Hz := Lib.hid hz
  clear hz
  generalize hd : decide ((0 : Int) ≤ z) = d at *
  have Hd := Lib.hid hd; clear hd
  go_wp2
  go_ret
  exact ⟨by rw [← Hz.out, ← Hd.out]; rfl, rfl⟩
set_option maxRecDepth 10000 in
set_option maxHeartbeats 1000000 in
theorem impl_isZero (a : Option Addr) (cap : Nat) (l : List Int) (w : World) (ha : RowAt w a (intCells l)) (hl : l.length ≤ 1000) :
    Calls Try.prog 130 #[.slice a l.length cap] w fun e w' => e = .returned (.bool (Dn.zeroB l)) ∧ w = w' := by
  have Hc := Lib.hid (lib_ContainsFunc0 a cap l w ha hl)
  clear ha
  generalize hz : Dn.zeroB l = z at *
  have Hz := Lib.hid hz; clear hz
  go_enter Try.func130, Try.ntmps130
  go_wp2_with fail
  refine Hc.out.mono ?_
  rintro e w3 ⟨rfl, rfl⟩
  go_wp2
  go_ret
  exact ⟨by simp, rfl⟩

set_option maxRecDepth 10000 in
set_option maxHeartbeats 1000000 in
theorem impl_IsTrivialWord (g : Int) (a : Option Addr) (c : Nat) (l : List Int) (w : World) (ha : RowAt w a (intCells l)) (hl : l.length ≤ 1000000000) :
    Calls Try.prog 61 #[.int .i64 g, .slice a l.length c] w fun e w' => e = .returned (.bool (decide (Dn.TrivW g l))) ∧ Below w.heap.size w w' := by
  have hcF := impl_isGroupWord g a c l w ha hl
  by_cases hF : Dn.Fit g l
  · rw [decide_eq_true hF] at hcF
    rw [Dn.trivW_of hF]
    have hl24 := hF.2.1.2
    rcases Dn.gr_cases hF.1 with rfl | rfl
    · rw [← Dn.zero_sums hF]
      have HF := Lib.hid hF; have HcF := Lib.hid hcF; have Ha := Lib.hid ha
      clear hF hcF ha
      go_enter Try.func61, Try.ntmps61
      go_wp2_with fail
      refine HcF.out.mono ?_
      rintro e w1 ⟨rfl, hb1⟩
      have Hb1 := Lib.hid hb1; clear hb1
      have hcS := impl_LetterSums a c l w1 (Ha.out.below Hb1.out) (by omega)
      rw [sums_of HF.out.2.1] at hcS
      have hsl := Word.sums_len l
      generalize hS : Word.sums l = S at *
      have HcS := Lib.hid hcS; have HS := Lib.hid hS
      clear hcS hS
      go_wp2_with fail
      refine HcS.out.mono ?_
      rintro e w2 ⟨sa, sc, rfl, hsc, hscm, hfs, hb2⟩
      have Hfs := Lib.hid hfs; have Hb2 := Lib.hid (Hb1.out.trans (hb2.mono Hb1.out.size)); have Hsl := Lib.hid hsl
      clear hfs hb2 hsl
      go_wp2_with fail
      refine (impl_isZero sa sc S w2 Hfs.out.row (by rw [Hsl.out]; decide)).mono ?_
      rintro e w3 ⟨rfl, rfl⟩
      go_wp2
      go_ret
      exact ⟨by rw [HS.out]; rfl, Hb2.out⟩
    · rw [Dn.triv_two]
      have hcD := fun W (hb : Below w.heap.size w W) => impl_DehnWord 2 a c l W (ha.below hb) (by omega)
      rw [dehnW_of hF] at hcD
      generalize hD : Dn.dehn 2 (Word.red l) = D at *
      have HF := Lib.hid hF; have HcF := Lib.hid hcF; have HcD := Lib.hid hcD; have HD := Lib.hid hD
      clear hF hcF ha hcD hD
      by_cases h0 : D.length = 0
      · have d0 : ((D.length : Int) == 0) = true := beq_iff_eq.2 (by omega)
        have H0 := Lib.hid h0; clear h0
        go_enter Try.func61, Try.ntmps61
        go_wp2_with fail
        refine HcF.out.mono ?_
        rintro e w1 ⟨rfl, hb1⟩
        have Hb1 := Lib.hid hb1; clear hb1
        go_wp2_with fail
        refine (HcD.out w1 Hb1.out).mono ?_
        rintro e w2 ⟨sa, sc, rfl, hsc, hscm, hfs, hb2⟩
        have Hb2 := Lib.hid (Hb1.out.trans (hb2.mono Hb1.out.size))
        clear hfs hb2
        go_wp2
        go_ret
        exact ⟨by rw [decide_eq_true H0.out]; rfl, Hb2.out⟩
      · have d0 : ((D.length : Int) == 0) = false := beq_eq_false_iff_ne.2 (by omega)
        have H0 := Lib.hid h0; clear h0
        go_enter Try.func61, Try.ntmps61
        go_wp2_with fail
        refine HcF.out.mono ?_
        rintro e w1 ⟨rfl, hb1⟩
        have Hb1 := Lib.hid hb1; clear hb1
        go_wp2_with fail
        refine (HcD.out w1 Hb1.out).mono ?_
        rintro e w2 ⟨sa, sc, rfl, hsc, hscm, hfs, hb2⟩
        have Hb2 := Lib.hid (Hb1.out.trans (hb2.mono Hb1.out.size))
        clear hfs hb2
        go_wp2
        go_ret
        exact ⟨by rw [decide_eq_false H0.out]; rfl, Hb2.out⟩
  · rw [decide_eq_false hF] at hcF
    rw [Dn.trivW_not hF]
    have HcF := Lib.hid hcF
    clear hcF hF
    go_enter Try.func61, Try.ntmps61
    go_wp2_with fail
    refine HcF.out.mono ?_
    rintro e w1 ⟨rfl, hb1⟩
    go_wp2
    go_ret
    exact ⟨rfl, hb1⟩

theorem Dn.two_make (w : World) : (Instr.makeSlice 42 (.int .i64 2) (.int .i64 2)).run Try.prog w = .ok (.slice (some ⟨w.heap.size, 0, none⟩) 2 2) (w.alloc (.cells (intCells (Dn.two [])).toArray 3)) := by
  obtain ⟨i0, hi, hz0, hz1, hz2⟩ := info_int_parts
  have h := run_make_rowN (P := Try.prog) 42 3 i0 _ Try.underlying42 hi hz0 .i64 .i64 2 2 (Nat.le_refl _) (by rw [hz2]; omega) (by omega) w
  rw [hz1, Nat.mul_one, show madeCells (Value.int .i64 0).cells 2 = (intCells (Dn.two [])).toArray from by show madeCells #[Value.int .i64 0] 2 = _; rw [made_one]; rfl] at h
  exact h
set_option maxRecDepth 10000 in
set_option maxHeartbeats 2000000 in
theorem spec_l8Trivial (g : Int) (a : Option Addr) (c : Nat) (l : List Int) (w : World) (ha : RowAt w a (intCells l)) (hl : l.length ≤ 1000) (hG : Dn.Gr g) (hL : ∀ x ∈ l, Dn.Let g x) :
    Calls Try.prog 126 #[.int .i64 g, .slice a l.length c] w fun e w' => e = .returned (.bool (decide (Dn.Triv g l))) ∧ Below w.heap.size w w' := by
  rcases Dn.gr_cases hG with rfl | rfl
  · rw [Dn.triv_one]
    have hmk := Dn.two_make w
    have HL := Lib.hid hL; have Ha := Lib.hid ha
    clear hL ha hG
    generalize hN : w.heap.size = N at *
    have HN := Lib.hid hN
    go_enter Try.func126, Try.ntmps126
    go_wp2
    clear hN
    go_loopw [6] (fun iv wr => ∃ i : Nat, i ≤ l.length ∧ iv = .int .i64 i ∧ Hid (Below N w wr) ∧ Hid (Blk wr N 3 (intCells (Dn.two (l.take i))).toArray)) (fun iv _ => l.length - (intOf iv).toNat)
    case atStart => exact ⟨0, by omega, rfl, Lib.hid (by have h := (Below.refl w.heap.size w).alloc (Nat.le_refl _) (.cells (intCells (Dn.two [])).toArray 3); rw [HN.out] at h; exact h), Lib.hid (by have h := Blk.new w 3 (intCells (Dn.two [])).toArray; rw [HN.out] at h; exact h)⟩
    case round =>
      obtain ⟨i, hi, rfl, hb, hk⟩ := hrel
      by_cases hlt : i < l.length
      · obtain ⟨b, o, rfl, hbw, hcell⟩ := intCells_at (Ha.out.below (by rw [HN.out]; exact hb.out)) hlt
        obtain ⟨⟨hx0, hx1, hx2⟩, hx3⟩ := HL.out _ (List.getElem_mem hlt)
        obtain ⟨j, hj⟩ : ∃ j : Nat, l[i].natAbs = j + 1 := ⟨l[i].natAbs - 1, by omega⟩
        have hj2 : j < 2 := by omega
        have hput := Dn.two_put hlt hj2 hj
        have hbd := Dn.two_bound (l.take i) j
        rw [List.length_take] at hbd
        have hcj := ints_cell hk.out (j := j) hj2
        have hfz := hk.out.frozen j
        have habs := fun W => spec_l3Abs l[i] W (by omega) (by omega)
        rw [hj, Int.natCast_add, show ((1 : Nat) : Int) = 1 from rfl] at habs
        have Habs := Lib.hid habs
        have h0i : (0 : Int) ≤ (i : Int) := by omega
        have hil : (i : Int) < (l.length : Int) := by omega
        have h0j : (0 : Int) ≤ (j : Int) := by omega
        have hj2' : (j : Int) < 2 := by omega
        have hwj := wrap_small (x := (j : Int)) (by omega) (by omega)
        have hwn := wrap_small (x := (j : Int) + 1) (by omega) (by omega)
        by_cases hpos : 0 < l[i]
        · have hwt : Dn.wt j l[i] = 1 := by unfold Dn.wt; rw [if_pos (by omega)]
          have d1 : decide (0 < l[i]) = true := decide_eq_true hpos
          have d2 : decide (l[i] < 0) = false := decide_eq_false (by omega)
          have HbA := Lib.hid (fun W => spec_l1Bit true W)
          have HbB := Lib.hid (fun W => spec_l1Bit false W)
          rw [hwt] at hput
          have Hput := Lib.hid hput
          clear hput hwt habs hj hpos hx0 hx1 hx2 hx3
          generalize l[i] = x at *
          generalize (Dn.two (l.take i)).getD j 0 = s at *
          have hws := wrap_small (x := s + 1) (by omega) (by omega)
          have hwt := wrap_small (x := s) (by omega) (by omega)
          go_wp2
          go_still_tail 31, (by kernel_rfl)
          still_call (Habs.out _)
          repeat still_step
          still_call (Habs.out _)
          repeat still_step
          still_call (HbA.out _)
          repeat still_step
          still_call (HbB.out _)
          repeat still_step
          refine wpStill_nil ?_
          change wpList _ _ _ _ _ wr.drew
          go_wp2
          go_roundw
          case rel =>
            refine ⟨i + 1, by omega, by go_num, Lib.hid (Below.setCell (below_drewN hb.out 1) (Nat.le_refl _) _), Lib.hid ?_⟩
            have h := (hk.out.drewN 1).put j (.int .i64 (s + 1))
            rw [← Hput.out]
            rw [List.setIfInBounds_toArray] at h
            unfold intCells at h ⊢
            rw [List.map_set]; exact h
          case measure => simp [intOf]; omega
        · have hwt : Dn.wt j l[i] = -1 := by unfold Dn.wt; rw [if_neg (by omega), if_pos (by omega)]
          have d1 : decide (0 < l[i]) = false := decide_eq_false hpos
          have d2 : decide (l[i] < 0) = true := decide_eq_true (by omega)
          have HbA := Lib.hid (fun W => spec_l1Bit true W)
          have HbB := Lib.hid (fun W => spec_l1Bit false W)
          rw [hwt, ← Int.sub_eq_add_neg] at hput
          have Hput := Lib.hid hput
          clear hput hwt habs hj hpos hx0 hx1 hx2 hx3
          generalize l[i] = x at *
          generalize (Dn.two (l.take i)).getD j 0 = s at *
          have hws := wrap_small (x := s - 1) (by omega) (by omega)
          have hwt := wrap_small (x := s) (by omega) (by omega)
          go_wp2
          go_still_tail 31, (by kernel_rfl)
          still_call (Habs.out _)
          repeat still_step
          still_call (Habs.out _)
          repeat still_step
          still_call (HbB.out _)
          repeat still_step
          still_call (HbA.out _)
          repeat still_step
          refine wpStill_nil ?_
          change wpList _ _ _ _ _ wr.drew
          go_wp2
          go_roundw
          case rel =>
            refine ⟨i + 1, by omega, by go_num, Lib.hid (Below.setCell (below_drewN hb.out 1) (Nat.le_refl _) _), Lib.hid ?_⟩
            have h := (hk.out.drewN 1).put j (.int .i64 (s - 1))
            rw [← Hput.out]
            rw [List.setIfInBounds_toArray] at h
            unfold intCells at h ⊢
            rw [List.map_set]; exact h
          case measure => simp [intOf]; omega
      · obtain rfl : i = l.length := by omega
        rw [List.take_of_length_le (Nat.le_refl _)] at hk
        have hc0 := ints_cell hk.out (j := 0) (by simp [Dn.two])
        have hc1 := ints_cell hk.out (j := 1) (by simp [Dn.two])
        rw [show (Dn.two l).getD 0 0 = Dn.tot 0 l from rfl] at hc0
        rw [show (Dn.two l).getD 1 0 = Dn.tot 1 l from rfl] at hc1
        generalize hs0 : Dn.tot 0 l = s0 at *
        generalize hs1 : Dn.tot 1 l = s1 at *
        have Hs0 := Lib.hid hs0; have Hs1 := Lib.hid hs1
        clear hs0 hs1
        by_cases h0 : s0 = 0
        · have d0 : (s0 == 0) = true := beq_iff_eq.2 h0
          by_cases h1 : s1 = 0
          · have d1 : (s1 == 0) = true := beq_iff_eq.2 h1
            have Hr := Lib.hid (show decide (s0 = 0 ∧ s1 = 0) = true from decide_eq_true ⟨h0, h1⟩)
            clear h0 h1
            go_wp2
            go_ret
            exact ⟨by rw [Hs0.out, Hs1.out, Hr.out]; rfl, hb.out⟩
          · have d1 : (s1 == 0) = false := beq_eq_false_iff_ne.2 h1
            have Hr := Lib.hid (show decide (s0 = 0 ∧ s1 = 0) = false from decide_eq_false fun h => h1 h.2)
            clear h0 h1
            go_wp2
            go_ret
            exact ⟨by rw [Hs0.out, Hs1.out, Hr.out]; rfl, hb.out⟩
        · have d0 : (s0 == 0) = false := beq_eq_false_iff_ne.2 h0
          have Hr := Lib.hid (show decide (s0 = 0 ∧ s1 = 0) = false from decide_eq_false fun h => h0 h.1)
          clear h0
          go_wp2
          go_ret
          exact ⟨by rw [Hs0.out, Hs1.out, Hr.out]; rfl, hb.out⟩
  · rw [Dn.triv_two]
    have hcD := spec_l8Dehn 2 a c l w ha hl hG hL
    generalize hD : Dn.dehn 2 (Word.red l) = D at *
    have HcD := Lib.hid hcD; have HD := Lib.hid hD
    clear ha hcD hD hL hG
    by_cases h0 : D.length = 0
    · have d0 : ((D.length : Int) == 0) = true := beq_iff_eq.2 (by omega)
      have H0 := Lib.hid h0; clear h0
      go_enter Try.func126, Try.ntmps126
      go_wp2_with fail
      refine HcD.out.mono ?_
      rintro e w2 ⟨sa, sc, rfl, hsc, hscm, hfs, hb2⟩
      have Hb2 := Lib.hid hb2
      clear hfs hb2
      go_wp2
      go_ret
      exact ⟨by rw [decide_eq_true H0.out]; rfl, Hb2.out⟩
    · have d0 : ((D.length : Int) == 0) = false := beq_eq_false_iff_ne.2 (by omega)
      have H0 := Lib.hid h0; clear h0
      go_enter Try.func126, Try.ntmps126
      go_wp2_with fail
      refine HcD.out.mono ?_
      rintro e w2 ⟨sa, sc, rfl, hsc, hscm, hfs, hb2⟩
      have Hb2 := Lib.hid hb2
      clear hfs hb2
      go_wp2
      go_ret
      exact ⟨by rw [decide_eq_false H0.out]; rfl, Hb2.out⟩

set_option maxRecDepth 10000 in
set_option maxHeartbeats 1000000 in
theorem spec_IsTrivialWord (g : Int) (a : Option Addr) (c : Nat) (l : List Int) (w : World) (ha : RowAt w a (intCells l)) (hl : l.length ≤ 1048576) :
    Calls Try.prog 62 #[.int .i64 g, .slice a l.length c] w fun e w' => e = .returned (.bool (decide (Dn.TrivW g l))) ∧ Below w.heap.size w w' := by
  have hcF := spec_l8Fits g a c l w ha hl
  by_cases hF : Dn.Fit g l
  · rw [decide_eq_true hF] at hcF
    rw [Dn.trivW_of hF]
    have hcT := fun W (hb : Below w.heap.size w W) => spec_l8Trivial g a c l W (ha.below hb) (by have := hF.2.1.2; omega) hF.1 hF.lets
    generalize hT : decide (Dn.Triv g l) = T at *
    have HcF := Lib.hid hcF; have HcT := Lib.hid hcT; have HT := Lib.hid hT
    clear hcF hF hcT ha hT
    go_enter Try.func62, Try.ntmps62
    go_wp2_with fail
    refine HcF.out.mono ?_
    rintro e w1 ⟨rfl, hb1⟩
    have Hb1 := Lib.hid hb1; clear hb1
    go_wp2_with fail
    refine (HcT.out w1 Hb1.out).mono ?_
    rintro e w2 ⟨rfl, hb2⟩
    have Hb2 := Lib.hid (Hb1.out.trans (hb2.mono Hb1.out.size)); clear hb2
    go_wp2
    go_ret
    exact ⟨rfl, Hb2.out⟩
  · rw [decide_eq_false hF] at hcF
    rw [Dn.trivW_not hF]
    have HcF := Lib.hid hcF
    clear hcF hF
    go_enter Try.func62, Try.ntmps62
    go_wp2_with fail
    refine HcF.out.mono ?_
    rintro e w1 ⟨rfl, hb1⟩
    go_wp2
    go_ret
    exact ⟨rfl, hb1⟩
end Go.Proofs.Ytfaagbmaekoogaa
namespace Go.Proofs.Ytfaagbmaekoogaa
open Go.RowKit

/-- The integers l of the call's own, from the block N on. -/
def RowI (w : World) (N : Nat) (wr : World) (ov : Value) (l : List Int) : Prop := wr.ownsRow N 3 1 ov l.length (intCells l) ∧ Below N w wr
theorem RowI.nil {w wr : World} {N : Nat} (hb : Below N w wr) : RowI w N wr (.slice none 0 0) [] := ⟨⟨rfl, Or.inl ⟨rfl, rfl⟩⟩, hb⟩
theorem RowI.made {w wr : World} {N : Nat} (hb : Below N w wr) (hN : N ≤ wr.heap.size) : RowI w N (wr.alloc (.cells #[] 3)) (.slice (some ⟨wr.heap.size, 0, none⟩) 0 0) [] :=
  ⟨own_mono (own_made rfl) hN, hb.alloc hN _⟩
theorem RowI.more {w wr w3 : World} {N : Nat} {ov v3 : Value} {l : List Int} {x : Int} {o : Obj} (h : RowI w N wr ov l) (hN : N ≤ wr.heap.size)
    (hown : w3.ownsRow N 3 1 v3 (l.length + 1) (intCells l ++ [.int .i64 x])) (hg : (wr.alloc o).grownBy w3 ov.ownBlock) : RowI w N w3 v3 (l ++ [x]) := by
  refine ⟨?_, (h.2.alloc hN _).grown hg (by simp; omega) (fun k hk => (h.1.lt k hk).1)⟩
  rw [← intCells_snoc, List.length_append]; exact hown
theorem RowI.below {w wr w' : World} {N : Nat} {ov : Value} {l : List Int} (h : RowI w N wr ov l) (hN : N ≤ wr.heap.size) (hb : Below wr.heap.size wr w') : RowI w N w' ov l :=
  ⟨own_keep h.1 hb (fun k hk => (h.1.lt k hk).2), h.2.trans (hb.mono hN)⟩
theorem RowI.gives {w wr : World} {ov : Value} {l : List Int} (h : RowI w w.heap.size wr ov l) : Gives w l (.returned ov) wr := own_gives h.1 rfl h.2
theorem Gives.form {w w' : World} {l : List Int} {v : Value} (h : Gives w l (.returned v) w') : ∃ a c, v = .slice a l.length c ∧ RowAt w' a (intCells l) ∧ Below w.heap.size w w' := by
  obtain ⟨a, c, e, _, _, h3, h4⟩ := h
  cases e; exact ⟨a, c, rfl, h3.row, h4⟩
theorem Gives.after {w w1 w2 : World} {l : List Int} {v : Value} (h : Gives w l (.returned v) w1) (hb : Below w1.heap.size w1 w2) : Gives w l (.returned v) w2 := by
  obtain ⟨a, c, e, h1, h2, h3, h4⟩ := h
  exact ⟨a, c, e, h1, h2, h3.below hb, h4.trans (hb.mono h4.size)⟩

theorem Gives.nilAt {w w' : World} {a : Option Addr} (hb : Below w.heap.size w w') : Gives w [] (.returned (.slice a 0 0)) w' := ⟨_, _, rfl, Nat.le_refl _, Nat.zero_le _, Or.inl rfl, hb⟩
theorem own_lit0 (W : World) (l : List Int) (n : Nat) (hl : l.length = n) (hm : n ≤ maxLen) : (W.alloc (.cells (intCells l).toArray 3)).ownsRow W.heap.size 3 1 (.slice (some ⟨W.heap.size, 0, none⟩) n n) n (intCells l) := by
  have h := World.ownsRow_lit (base := W.heap.size) (e := 3) (size := 1) W (intCells l).toArray n (Nat.le_refl _) hm (by simp [intCells_len, hl])
  simpa using h

end Go.Proofs.Ytfaagbmaekoogaa
namespace Go.Proofs.Ytfaagbmaekoogaa
open Go.RowKit

namespace Dn
theorem equalW_of {g : Int} {v w : List Int} (hv : Fit g v) (hw : Fit g w) : decide (EqualW g v w) = decide (TrivW g (v ++ Word.inv w)) := by
  refine decide_eq_decide.2 ⟨fun ⟨_, _, h3, h4⟩ => ⟨fit_append.2 ⟨hv, hw.inv, by rw [Word.inv_len]; exact h3⟩, h4⟩, fun ⟨h1, h2⟩ => ⟨hv, hw, ?_, h2⟩⟩
  have := (fit_append.1 h1).2.2
  rwa [Word.inv_len] at this
theorem equalW_big {g : Int} {v w : List Int} (h : 24 < v.length + w.length) : decide (EqualW g v w) = false := decide_eq_false fun x => by have := x.2.2.1; omega
theorem equalW_triv {g : Int} {v w : List Int} (hv : Fit g v) (hw : Fit g w) (h : v.length + w.length ≤ 24) : decide (EqualW g v w) = decide (Triv g (v ++ Word.inv w)) :=
  decide_eq_decide.2 ⟨fun x => x.2.2.2, fun x => ⟨hv, hw, h, x⟩⟩
theorem equalW_not1 {g : Int} {v w : List Int} (h : ¬ Fit g v) : decide (EqualW g v w) = false := decide_eq_false fun x => h x.1
theorem equalW_not2 {g : Int} {v w : List Int} (h : ¬ Fit g w) : decide (EqualW g v w) = false := decide_eq_false fun x => h x.2.1
theorem commW_eq (g : Int) (v w : List Int) : decide (CommW g v w) = decide (EqualW g (v ++ w) (w ++ v)) := by
  refine decide_eq_decide.2 ⟨fun ⟨h1, h2, h3, h4⟩ => ?_, fun ⟨h1, h2, h3, h4⟩ => ?_⟩
  · exact ⟨fit_append.2 ⟨h1, h2, by omega⟩, fit_append.2 ⟨h2, h1, by omega⟩, by rw [List.length_append, List.length_append]; omega, h4⟩
  · rw [List.length_append, List.length_append] at h3
    exact ⟨(fit_append.1 h1).1, (fit_append.1 h1).2.1, by omega, h4⟩
theorem commW_not1 {g : Int} {v w : List Int} (h : ¬ Fit g v) : decide (CommW g v w) = false := decide_eq_false fun x => h x.1
theorem commW_not2 {g : Int} {v w : List Int} (h : ¬ Fit g w) : decide (CommW g v w) = false := decide_eq_false fun x => h x.2.1
theorem commW_big {g : Int} {v w : List Int} (h : 24 < 2 * (v.length + w.length)) : decide (CommW g v w) = false := decide_eq_false fun x => by have := x.2.2.1; omega
theorem commW_triv {g : Int} {v w : List Int} (hv : Fit g v) (hw : Fit g w) (h : 2 * (v.length + w.length) ≤ 24) : decide (CommW g v w) = decide (Triv g ((v ++ w) ++ Word.inv (w ++ v))) :=
  decide_eq_decide.2 ⟨fun x => x.2.2.2, fun x => ⟨hv, hw, h, x⟩⟩
theorem homW_not {g : Int} {l : List Int} (h : ¬ Fit g l) : homW g l = [] := if_neg h
theorem homW_of {g : Int} {l : List Int} (h : Fit g l) : homW g l = (Word.sums l).take (2 * g).toNat := if_pos h
end Dn
theorem Fresh.take {w : World} {base : Nat} {t : TypeId} {a : Option Addr} {cs : List Value} (h : Fresh w base t a cs) (n : Nat) : Fresh w base t a (cs.take n) := by
  rcases h with rfl | ⟨g, o, all, rfl, hb, hk, hc⟩
  · exact Or.inl (by simp)
  · refine Or.inr ⟨g, o, all, rfl, hb, hk, fun i v hv => hc i v ?_⟩
    rw [List.getElem?_take] at hv
    split at hv
    · exact hv
    · cases hv
theorem gives_take {w w' : World} {a : Option Addr} {c n : Nat} {l : List Int} (hn : n ≤ l.length) (hc : l.length ≤ c) (hcm : c ≤ maxLen) (hf : Fresh w' w.heap.size 3 a (intCells l)) (hb : Below w.heap.size w w') : Gives w (l.take n) (.returned (.slice a n c)) w' := by
  refine ⟨a, c, by rw [List.length_take, Nat.min_eq_left hn], by rw [List.length_take]; omega, hcm, ?_, hb⟩
  rw [show intCells (l.take n) = (intCells l).take n from by simp [intCells, List.map_take]]
  exact hf.take n

set_option maxRecDepth 10000 in
set_option maxHeartbeats 1000000 in
theorem impl_HomologyOf (g : Int) (a : Option Addr) (c : Nat) (l : List Int) (w : World) (ha : RowAt w a (intCells l)) (hl : l.length ≤ 1048576) :
    Calls Try.prog 63 #[.int .i64 g, .slice a l.length c] w fun e w' => Gives w (Dn.homW g l) e w' := by
  have hcF := impl_isGroupWord g a c l w ha (by omega)
  by_cases hF : Dn.Fit g l
  · rw [decide_eq_true hF] at hcF
    rw [Dn.homW_of hF]
    have hcS := fun W (hb : Below w.heap.size w W) => impl_LetterSums a c l W (ha.below hb) hl
    rw [sums_of hF.2.1] at hcS
    have hsl := Word.sums_len l
    generalize hS : Word.sums l = S at *
    have HcF := Lib.hid hcF; have HcS := Lib.hid hcS; have Hsl := Lib.hid hsl
    rcases Dn.gr_cases hF.1 with rfl | rfl
    all_goals
      clear hF hcF ha hcS hS hsl
      go_enter Try.func63, Try.ntmps63
      go_wp2_with fail
      refine HcF.out.mono ?_
      rintro e w1 ⟨rfl, hb1⟩
      have Hb1 := Lib.hid hb1; clear hb1
      go_wp2_with fail
      refine (HcS.out w1 Hb1.out).mono ?_
      rintro e w2 ⟨sa, sc, rfl, hsc, hscm, hfs, hb2⟩
      have Hfs := Lib.hid (hfs.mono Hb1.out.size); have Hb2 := Lib.hid (Hb1.out.trans (hb2.mono Hb1.out.size))
      clear hfs hb2
      have k1 : 2 ≤ sc := by have := Hsl.out; omega
      have k2 : 4 ≤ sc := by have := Hsl.out; omega
      have k3 : (2 : Int) ≤ (sc : Int) := by omega
      have k4 : (4 : Int) ≤ (sc : Int) := by omega
      go_wp2
      go_ret
      exact gives_take (by rw [Hsl.out]; decide) hsc hscm Hfs.out Hb2.out
  · rw [decide_eq_false hF] at hcF
    rw [Dn.homW_not hF]
    have HcF := Lib.hid hcF
    clear hcF hF
    go_enter Try.func63, Try.ntmps63
    go_wp2_with fail
    refine HcF.out.mono ?_
    rintro e w1 ⟨rfl, hb1⟩
    go_wp2
    go_ret
    exact Gives.none hb1

set_option maxRecDepth 10000 in
set_option maxHeartbeats 1000000 in
theorem spec_HomologyOf (g : Int) (a : Option Addr) (c : Nat) (l : List Int) (w : World) (ha : RowAt w a (intCells l)) (hl : l.length ≤ 1048576) :
    Calls Try.prog 64 #[.int .i64 g, .slice a l.length c] w fun e w' => Gives w (Dn.homW g l) e w' := by
  have hcF := spec_l8Fits g a c l w ha hl
  by_cases hF : Dn.Fit g l
  · rw [decide_eq_true hF] at hcF
    rw [Dn.homW_of hF]
    have hcS := fun W (hb : Below w.heap.size w W) => spec_LetterSums a c l W (ha.below hb) hl
    rw [sums_of hF.2.1] at hcS
    have hsl := Word.sums_len l
    generalize hS : Word.sums l = S at *
    have HcF := Lib.hid hcF; have HcS := Lib.hid hcS; have Hsl := Lib.hid hsl
    rcases Dn.gr_cases hF.1 with rfl | rfl
    all_goals
      clear hF hcF ha hcS hS hsl
      go_enter Try.func64, Try.ntmps64
      go_wp2_with fail
      refine HcF.out.mono ?_
      rintro e w1 ⟨rfl, hb1⟩
      have Hb1 := Lib.hid hb1; clear hb1
      go_wp2_with fail
      refine (HcS.out w1 Hb1.out).mono ?_
      rintro e w2 ⟨sa, sc, rfl, hsc, hscm, hfs, hb2⟩
      have Hfs := Lib.hid (hfs.mono Hb1.out.size); have Hb2 := Lib.hid (Hb1.out.trans (hb2.mono Hb1.out.size))
      clear hfs hb2
      have k1 : 2 ≤ sc := by have := Hsl.out; omega
      have k2 : 4 ≤ sc := by have := Hsl.out; omega
      have k3 : (2 : Int) ≤ (sc : Int) := by omega
      have k4 : (4 : Int) ≤ (sc : Int) := by omega
      go_wp2
      go_ret
      exact gives_take (by rw [Hsl.out]; decide) hsc hscm Hfs.out Hb2.out
  · rw [decide_eq_false hF] at hcF
    rw [Dn.homW_not hF]
    have HcF := Lib.hid hcF
    clear hcF hF
    go_enter Try.func64, Try.ntmps64
    go_wp2_with fail
    refine HcF.out.mono ?_
    rintro e w1 ⟨rfl, hb1⟩
    go_wp2
    go_ret
    exact own_gives (by exact own_mono (own_made (w := w1) rfl) hb1.size) rfl (hb1.alloc hb1.size _)

set_option maxRecDepth 10000 in
set_option maxHeartbeats 1000000 in
theorem impl_AreEqualWords (g : Int) (a1 a2 : Option Addr) (c1 c2 : Nat) (v u : List Int) (w : World) (ha1 : RowAt w a1 (intCells v)) (ha2 : RowAt w a2 (intCells u)) (hl1 : v.length ≤ 1000000000) (hl2 : u.length ≤ 1000000000) :
    Calls Try.prog 54 #[.int .i64 g, .slice a1 v.length c1, .slice a2 u.length c2] w fun e w' => e = .returned (.bool (decide (Dn.EqualW g v u))) ∧ Below w.heap.size w w' := by
  have hcV := impl_isGroupWord g a1 c1 v w ha1 hl1
  have hcU := fun W (hb : Below w.heap.size w W) => impl_isGroupWord g a2 c2 u W (ha2.below hb) hl2
  by_cases hV : Dn.Fit g v
  · rw [decide_eq_true hV] at hcV
    by_cases hU : Dn.Fit g u
    · rw [decide_eq_true hU] at hcU
      rw [Dn.equalW_of hV hU]
      have hv24 := hV.2.1.2
      have hu24 := hU.2.1.2
      have hcI := fun W (hb : Below w.heap.size w W) => impl_InverseWord a2 c2 u W (ha2.below hb) (by omega)
      rw [inverse_of hU.2.1] at hcI
      have hil := Word.inv_len u
      generalize hUi : Word.inv u = ui at *
      have HcV := Lib.hid hcV; have HcU := Lib.hid hcU; have HcI := Lib.hid hcI; have Ha1 := Lib.hid ha1
      have hui24 : ui.length ≤ 24 := by omega
      clear hcV hcU hcI ha1 ha2 hV hU hUi hil
      go_enter Try.func54, Try.ntmps54
      go_wp2_with fail
      refine HcV.out.mono ?_
      rintro e w1 ⟨rfl, hb1⟩
      have Hb1 := Lib.hid hb1; clear hb1
      go_wp2_with fail
      refine (HcU.out w1 Hb1.out).mono ?_
      rintro e w2 ⟨rfl, hb2⟩
      have Hb2 := Lib.hid (Hb1.out.trans (hb2.mono Hb1.out.size)); clear hb2
      go_wp2_with fail
      refine (HcI.out w2 Hb2.out).mono ?_
      rintro e w3 ⟨ia, ic, rfl, hic, hicm, hfi, hb3⟩
      have Hb3 := Lib.hid (Hb2.out.trans (hb3.mono Hb2.out.size)); have Hfi := Lib.hid hfi
      clear hb3 hfi
      have hbE : Below w.heap.size w (w3.alloc (.cells #[.slice a1 v.length c1, .slice ia ui.length ic] 42)) := Hb3.out.alloc Hb3.out.size _
      have hbO : Below w3.heap.size w3 (w3.alloc (.cells #[.slice a1 v.length c1, .slice ia ui.length ic] 42)) := (Below.refl _ _).alloc (Nat.le_refl _) _
      have hcc := cat_at [(a1, c1, v), (ia, ic, ui)] (w3.alloc (.cells #[.slice a1 v.length c1, .slice ia ui.length ic] 42)) (some ⟨w3.heap.size, 0, none⟩) 2 (by simp only [List.map_cons, List.map_nil, Part.cell]; exact (Blk.new w3 42 _).row) rfl (by
        intro p hp
        simp only [List.mem_cons, List.not_mem_nil, or_false] at hp
        rcases hp with rfl | rfl
        · exact Ha1.out.below hbE
        · exact Hfi.out.row.below hbO) (by decide) (by simp [Part.len, Part.all]; omega)
      rw [show Part.all [(a1, c1, v), (ia, ic, ui)] = v ++ ui from by simp [Part.all]] at hcc
      have hvu : (v ++ ui).length ≤ 1000000000 := by rw [List.length_append]; omega
      generalize hX : v ++ ui = X at *
      have HX := Lib.hid hX
      have Hcc := Lib.hid hcc; have HbE := Lib.hid hbE
      clear hcc hbE hbO hX
      go_wp2_with fail
      refine Hcc.out.mono ?_
      rintro e w4 ⟨xa, xc, rfl, hxc, hxcm, hfx, hb4⟩
      have Hfx := Lib.hid hfx; have Hb4 := Lib.hid (HbE.out.trans (hb4.mono HbE.out.size))
      clear hfx hb4
      have hcT := impl_IsTrivialWord g xa xc X w4 Hfx.out.row hvu
      generalize hT : decide (Dn.TrivW g X) = T at *
      have HcT := Lib.hid hcT; have HT := Lib.hid hT
      clear hcT hT
      go_wp2_with fail
      refine HcT.out.mono ?_
      rintro e w5 ⟨rfl, hb5⟩
      have Hb5 := Lib.hid (Hb4.out.trans (hb5.mono Hb4.out.size)); clear hb5
      go_wp2
      go_ret
      exact ⟨by rw [HX.out, HT.out]; rfl, Hb5.out⟩
    · rw [decide_eq_false hU] at hcU
      rw [Dn.equalW_not2 hU]
      have HcV := Lib.hid hcV; have HcU := Lib.hid hcU
      clear hcV hcU hV hU
      go_enter Try.func54, Try.ntmps54
      go_wp2_with fail
      refine HcV.out.mono ?_
      rintro e w1 ⟨rfl, hb1⟩
      have Hb1 := Lib.hid hb1; clear hb1
      go_wp2_with fail
      refine (HcU.out w1 Hb1.out).mono ?_
      rintro e w2 ⟨rfl, hb2⟩
      have Hb2 := Lib.hid (Hb1.out.trans (hb2.mono Hb1.out.size)); clear hb2
      go_wp2
      go_ret
      exact ⟨rfl, Hb2.out⟩
  · rw [decide_eq_false hV] at hcV
    rw [Dn.equalW_not1 hV]
    have HcV := Lib.hid hcV
    clear hcV hcU hV
    go_enter Try.func54, Try.ntmps54
    go_wp2_with fail
    refine HcV.out.mono ?_
    rintro e w1 ⟨rfl, hb1⟩
    go_wp2
    go_ret
    exact ⟨rfl, hb1⟩

set_option maxRecDepth 10000 in
set_option maxHeartbeats 1000000 in
theorem impl_CommuteIn (g : Int) (a1 a2 : Option Addr) (c1 c2 : Nat) (v u : List Int) (w : World) (ha1 : RowAt w a1 (intCells v)) (ha2 : RowAt w a2 (intCells u)) (hl1 : v.length ≤ 1048576) (hl2 : u.length ≤ 1048576) :
    Calls Try.prog 56 #[.int .i64 g, .slice a1 v.length c1, .slice a2 u.length c2] w fun e w' => e = .returned (.bool (decide (Dn.CommW g v u))) ∧ Below w.heap.size w w' := by
  rw [Dn.commW_eq]
  have Ha1 := Lib.hid ha1; have Ha2 := Lib.hid ha2
  clear ha1 ha2
  have hbE : Below w.heap.size w (w.alloc (.cells #[.slice a1 v.length c1, .slice a2 u.length c2] 42)) := (Below.refl _ _).alloc (Nat.le_refl _) _
  have hcc := cat_at [(a1, c1, v), (a2, c2, u)] (w.alloc (.cells #[.slice a1 v.length c1, .slice a2 u.length c2] 42)) (some ⟨w.heap.size, 0, none⟩) 2 (by simp only [List.map_cons, List.map_nil, Part.cell]; exact (Blk.new w 42 _).row) rfl (by
    intro p hp
    simp only [List.mem_cons, List.not_mem_nil, or_false] at hp
    rcases hp with rfl | rfl
    · exact Ha1.out.below hbE
    · exact Ha2.out.below hbE) (by decide) (by simp [Part.len, Part.all]; omega)
  rw [show Part.all [(a1, c1, v), (a2, c2, u)] = v ++ u from by simp [Part.all]] at hcc
  have hx1 : (v ++ u).length ≤ 1000000000 := by rw [List.length_append]; omega
  have hx2 : (u ++ v).length ≤ 1000000000 := by rw [List.length_append]; omega
  have hcc2 := fun (W : World) (hW : Below w.heap.size w W) => (show Calls Try.prog 81 #[.slice (some ⟨W.heap.size, 0, none⟩) 2 2] (W.alloc (.cells #[.slice a2 u.length c2, .slice a1 v.length c1] 42)) (fun e w' => Gives W (u ++ v) e w') from by
    have hbF : Below w.heap.size w (W.alloc (.cells #[.slice a2 u.length c2, .slice a1 v.length c1] 42)) := hW.alloc hW.size _
    have h := cat_at [(a2, c2, u), (a1, c1, v)] (W.alloc (.cells #[.slice a2 u.length c2, .slice a1 v.length c1] 42)) (some ⟨W.heap.size, 0, none⟩) 2 (by simp only [List.map_cons, List.map_nil, Part.cell]; exact (Blk.new W 42 _).row) rfl (by
      intro p hp
      simp only [List.mem_cons, List.not_mem_nil, or_false] at hp
      rcases hp with rfl | rfl
      · exact Ha2.out.below hbF
      · exact Ha1.out.below hbF) (by decide) (by simp [Part.len, Part.all]; omega)
    rw [show Part.all [(a2, c2, u), (a1, c1, v)] = u ++ v from by simp [Part.all]] at h
    exact h.mono fun e w' hg => hg.later ((Below.refl _ _).alloc (Nat.le_refl _) _))
  generalize hX : v ++ u = X at *
  generalize hY : u ++ v = Y at *
  have Hcc := Lib.hid hcc; have HbE := Lib.hid hbE; have Hcc2 := Lib.hid hcc2
  clear hcc hbE hX hY hcc2
  go_enter Try.func56, Try.ntmps56
  go_wp2_with fail
  refine Hcc.out.mono ?_
  rintro e w4 ⟨xa, xc, rfl, hxc, hxcm, hfx, hb4⟩
  have Hfx := Lib.hid hfx; have Hb4 := Lib.hid (HbE.out.trans (hb4.mono HbE.out.size))
  clear hfx hb4
  go_wp2_with fail
  refine (Hcc2.out w4 Hb4.out).mono ?_
  rintro e w5 ⟨ya, yc, rfl, hyc, hycm, hfy, hb5⟩
  have Hfy := Lib.hid hfy; have Hfx5 := Lib.hid (Hfx.out.row.below hb5); have Hb5 := Lib.hid (Hb4.out.trans (hb5.mono Hb4.out.size))
  clear hfy hb5
  have hcA := impl_AreEqualWords g xa ya xc yc X Y w5 Hfx5.out Hfy.out.row hx1 hx2
  generalize hA : decide (Dn.EqualW g X Y) = A at *
  have HcA := Lib.hid hcA; have HA := Lib.hid hA
  clear hcA hA
  go_wp2_with fail
  refine HcA.out.mono ?_
  rintro e w6 ⟨rfl, hb6⟩
  have Hb6 := Lib.hid (Hb5.out.trans (hb6.mono Hb5.out.size)); clear hb6
  go_wp2
  go_ret
  exact ⟨by rw [HA.out]; rfl, Hb6.out⟩

/-- append of a row of integers to a row of the call's own. -/
theorem append_rowI {ops : Array Oper} {rest : List Oper} {o : Oper} {a : Act} {Q : Exit → Act → World → Prop} {W : World} (hgd : o.guard = none) (s x : Operand)
    (ho : o.op = .call { callee := .builtin .append, args := #[s, x], argTypes := #[42, 42] })
    (w : World) (N : Nat) (l m : List Int) (ov : Value) (hs : a.eval s = ov) (h : RowI w N W ov l) (ad : Option Addr) (c : Nat) (hx : a.eval x = .slice ad m.length c) (hr : RowAt W ad (intCells m)) (hN : N ≤ W.heap.size) (hlen : l.length + m.length ≤ 4194304) (r : List Int) (hlm : l ++ m = r)
    (k : ∀ av cv w', RowI w N w' (.slice av r.length cv) r → wpList Try.prog ops Q rest (a.put o.dst (.slice av r.length cv)) w') : wpList Try.prog ops Q (o :: rest) a W := by
  subst hlm
  obtain ⟨i0, hi0, hz0, hz1, hz2⟩ := info_int_parts
  refine append_row hgd s x 42 ho N 3 i0 _ 8 Try.underlying42 hi0 hz0 hz1 hz2 (by rfl) ov l.length (intCells l) hs h.1 ad m.length c (intCells m) hx hr (intCells_len m) (intCells_one m) (by unfold maxLen; omega) (by omega) hN ?_
  intro v' w' hown hg
  have hown' : w'.ownsRow N 3 1 v' (l ++ m).length (intCells (l ++ m)) := by
    rw [List.length_append, show intCells (l ++ m) = intCells l ++ intCells m from by simp [intCells]]; exact hown
  obtain ⟨av, cv, rfl⟩ := own_len hown'
  exact k av cv w' ⟨hown', h.2.grown hg hN (fun k hk => (h.1.lt k hk).1)⟩

set_option maxRecDepth 10000 in
set_option maxHeartbeats 2000000 in
theorem spec_AreEqualWords (g : Int) (a1 a2 : Option Addr) (c1 c2 : Nat) (v u : List Int) (w : World) (ha1 : RowAt w a1 (intCells v)) (ha2 : RowAt w a2 (intCells u)) (hl1 : v.length ≤ 1048576) (hl2 : u.length ≤ 1048576) :
    Calls Try.prog 55 #[.int .i64 g, .slice a1 v.length c1, .slice a2 u.length c2] w fun e w' => e = .returned (.bool (decide (Dn.EqualW g v u))) ∧ Below w.heap.size w w' := by
  have hcV := spec_l8Fits g a1 c1 v w ha1 hl1
  have hcU := fun W (hb : Below w.heap.size w W) => spec_l8Fits g a2 c2 u W (ha2.below hb) hl2
  have k1 : (v.length : Int) + (u.length : Int) ≤ 2097152 := by omega
  have k0 : (0 : Int) ≤ (v.length : Int) + (u.length : Int) := by omega
  by_cases hV : Dn.Fit g v
  · rw [decide_eq_true hV] at hcV
    by_cases hU : Dn.Fit g u
    · rw [decide_eq_true hU] at hcU
      by_cases h24 : v.length + u.length ≤ 24
      · rw [Dn.equalW_triv hV hU h24]
        have hv24 := hV.2.1.2
        have hu24 := hU.2.1.2
        have hg := hV.1
        have dsum : decide ((24 : Int) < (v.length : Int) + (u.length : Int)) = false := decide_eq_false (by omega)
        have hlet : ∀ x ∈ v ++ Word.inv u, Dn.Let g x := fun x hx => by
          rcases List.mem_append.1 hx with h | h
          · exact hV.lets x h
          · exact hU.inv.lets x h
        have hcI := fun W (hb : Below w.heap.size w W) => spec_l2Inverse a2 c2 u W (ha2.below hb) (by omega) hU.2.1.1
        have hil := Word.inv_len u
        generalize hUi : Word.inv u = ui at *
        have HcV := Lib.hid hcV; have HcU := Lib.hid hcU; have HcI := Lib.hid hcI; have Ha1 := Lib.hid ha1; have Hlet := Lib.hid hlet; have Hg := Lib.hid hg
        have hui24 : ui.length ≤ 24 := by omega
        clear hcV hcU hcI ha1 ha2 hV hU hUi hil hlet hg
        go_enter Try.func55, Try.ntmps55
        go_wp2_with fail
        refine HcV.out.mono ?_
        rintro e w1 ⟨rfl, hb1⟩
        have Hb1 := Lib.hid hb1; clear hb1
        go_wp2_with fail
        refine (HcU.out w1 Hb1.out).mono ?_
        rintro e w2 ⟨rfl, hb2⟩
        have Hb2 := Lib.hid (Hb1.out.trans (hb2.mono Hb1.out.size)); clear hb2
        have HR0 := Lib.hid (RowI.made (w := w) (N := w.heap.size) Hb2.out Hb2.out.size)
        have HrV := Lib.hid (Ha1.out.below HR0.out.2)
        go_wp2_with (at_builtin; refine append_rowI rfl (.tmp 26) (.tmp 27) rfl w w.heap.size [] v _ rfl HR0.out a1 _ rfl HrV.out HR0.out.2.size (by simp; omega) v rfl ?_; intro ra rc w3 hr1)
        have HR1 := Lib.hid hr1; clear hr1
        go_wp2_with fail
        refine (HcI.out w3 HR1.out.2).mono ?_
        rintro e w4 ⟨ia, ic, rfl, hic, hicm, hfi, hb4⟩
        have HR2 := Lib.hid (HR1.out.below HR1.out.2.size hb4); have Hfi := Lib.hid hfi.row
        clear hb4 hfi
        have hlx : (v ++ ui).length ≤ 1000 := by rw [List.length_append]; omega
        generalize hX : v ++ ui = X at *
        have HX := Lib.hid hX
        clear hX
        go_wp2_with (at_builtin; refine append_rowI rfl (.tmp 28) (.tmp 30) rfl w w.heap.size v ui _ rfl HR2.out ia _ rfl Hfi.out HR2.out.2.size (by omega) X HX.out ?_; intro xa xc w5 hr3)
        have HR3 := Lib.hid hr3
        clear hr3
        obtain ⟨_, _, he, hrowX, _⟩ := (Gives.form (w := w) HR3.out.gives)
        cases he
        have hcT := spec_l8Trivial g xa xc X w5 hrowX hlx Hg.out Hlet.out
        generalize hT : decide (Dn.Triv g X) = T at *
        have HcT := Lib.hid hcT; have HT := Lib.hid hT
        clear hcT hT hrowX
        go_wp2_with fail
        refine HcT.out.mono ?_
        rintro e w6 ⟨rfl, hb6⟩
        have Hb6 := Lib.hid (HR3.out.2.trans (hb6.mono HR3.out.2.size)); clear hb6
        go_wp2
        go_ret
        exact ⟨by rw [HX.out, HT.out]; rfl, Hb6.out⟩
      · rw [Dn.equalW_big (by omega)]
        have dsum : decide ((24 : Int) < (v.length : Int) + (u.length : Int)) = true := decide_eq_true (by omega)
        have HcV := Lib.hid hcV; have HcU := Lib.hid hcU
        clear hcV hcU hV hU
        go_enter Try.func55, Try.ntmps55
        go_wp2_with fail
        refine HcV.out.mono ?_
        rintro e w1 ⟨rfl, hb1⟩
        have Hb1 := Lib.hid hb1; clear hb1
        go_wp2_with fail
        refine (HcU.out w1 Hb1.out).mono ?_
        rintro e w2 ⟨rfl, hb2⟩
        have Hb2 := Lib.hid (Hb1.out.trans (hb2.mono Hb1.out.size)); clear hb2
        go_wp2
        go_ret
        exact ⟨rfl, Hb2.out⟩
    · rw [decide_eq_false hU] at hcU
      rw [Dn.equalW_not2 hU]
      have HcV := Lib.hid hcV; have HcU := Lib.hid hcU
      clear hcV hcU hV hU
      go_enter Try.func55, Try.ntmps55
      go_wp2_with fail
      refine HcV.out.mono ?_
      rintro e w1 ⟨rfl, hb1⟩
      have Hb1 := Lib.hid hb1; clear hb1
      go_wp2_with fail
      refine (HcU.out w1 Hb1.out).mono ?_
      rintro e w2 ⟨rfl, hb2⟩
      have Hb2 := Lib.hid (Hb1.out.trans (hb2.mono Hb1.out.size)); clear hb2
      go_wp2
      go_ret
      exact ⟨rfl, Hb2.out⟩
  · rw [decide_eq_false hV] at hcV
    rw [Dn.equalW_not1 hV]
    have HcV := Lib.hid hcV
    clear hcV hcU hV
    go_enter Try.func55, Try.ntmps55
    go_wp2_with fail
    refine HcV.out.mono ?_
    rintro e w1 ⟨rfl, hb1⟩
    go_wp2
    go_ret
    exact ⟨rfl, hb1⟩

set_option maxRecDepth 10000 in
set_option maxHeartbeats 2000000 in
theorem spec_CommuteIn (g : Int) (a1 a2 : Option Addr) (c1 c2 : Nat) (v u : List Int) (w : World) (ha1 : RowAt w a1 (intCells v)) (ha2 : RowAt w a2 (intCells u)) (hl1 : v.length ≤ 1048576) (hl2 : u.length ≤ 1048576) :
    Calls Try.prog 57 #[.int .i64 g, .slice a1 v.length c1, .slice a2 u.length c2] w fun e w' => e = .returned (.bool (decide (Dn.CommW g v u))) ∧ Below w.heap.size w w' := by
  have hcV := spec_l8Fits g a1 c1 v w ha1 hl1
  have hcU := fun W (hb : Below w.heap.size w W) => spec_l8Fits g a2 c2 u W (ha2.below hb) hl2
  have k1 : (v.length : Int) + (u.length : Int) ≤ 2097152 := by omega
  have k0 : (0 : Int) ≤ (v.length : Int) + (u.length : Int) := by omega
  by_cases hV : Dn.Fit g v
  · rw [decide_eq_true hV] at hcV
    by_cases hU : Dn.Fit g u
    · rw [decide_eq_true hU] at hcU
      by_cases h24 : 2 * (v.length + u.length) ≤ 24
      · rw [Dn.commW_triv hV hU h24]
        have hv24 := hV.2.1.2
        have hu24 := hU.2.1.2
        have hg := hV.1
        have dsum : decide ((24 : Int) < 2 * ((v.length : Int) + (u.length : Int))) = false := decide_eq_false (by omega)
        have hlx : ((v ++ u) ++ Word.inv (u ++ v)).length ≤ 1000 := by rw [List.length_append, Word.inv_len, List.length_append, List.length_append]; omega
        have hUV : Dn.Fit g (u ++ v) := Dn.fit_append.2 ⟨hU, hV, by omega⟩
        have hlet : ∀ x ∈ (v ++ u) ++ Word.inv (u ++ v), Dn.Let g x := fun x hx => by
          rcases List.mem_append.1 hx with h | h
          · rcases List.mem_append.1 h with h | h
            · exact hV.lets x h
            · exact hU.lets x h
          · exact hUV.inv.lets x h
        have hcI := fun a c W (ha : RowAt W a (intCells (u ++ v))) => spec_l2Inverse a c (u ++ v) W ha (by have := hUV.2.1.2; omega) hUV.2.1.1
        have hil := Word.inv_len (u ++ v)
        have huvl : (u ++ v).length ≤ 24 := hUV.2.1.2
        have hvul : (v ++ u).length ≤ 24 := by rw [List.length_append]; omega
        have HcV := Lib.hid hcV; have HcU := Lib.hid hcU; have HcI := Lib.hid hcI; have Ha1 := Lib.hid ha1; have Ha2 := Lib.hid ha2; have Hlet := Lib.hid hlet; have Hg := Lib.hid hg
        have hui24 : (Word.inv (u ++ v)).length ≤ 24 := by omega
        clear hcV hcU hcI ha1 ha2 hV hU hUV hil hlet hg
        go_enter Try.func57, Try.ntmps57
        go_wp2_with fail
        refine HcV.out.mono ?_
        rintro e w1 ⟨rfl, hb1⟩
        have Hb1 := Lib.hid hb1; clear hb1
        go_wp2_with fail
        refine (HcU.out w1 Hb1.out).mono ?_
        rintro e w2 ⟨rfl, hb2⟩
        have Hb2 := Lib.hid (Hb1.out.trans (hb2.mono Hb1.out.size)); clear hb2
        have HR0 := Lib.hid (RowI.made (w := w) (N := w.heap.size) Hb2.out Hb2.out.size)
        have HrV := Lib.hid (Ha1.out.below HR0.out.2)
        generalize hX : v ++ u = X at *
        generalize hY : u ++ v = Y at *
        have HX := Lib.hid hX; have HY := Lib.hid hY
        clear hX hY
        go_wp2_with (first
          | (at_builtin; refine append_rowI rfl (.tmp 28) (.tmp 29) rfl w w.heap.size [] v _ rfl HR0.out a1 _ rfl HrV.out HR0.out.2.size (by simp; omega) v rfl ?_; intro ra rc w3 hr1; have HR1 := Lib.hid hr1; clear hr1; have HrU := Lib.hid (Ha2.out.below HR1.out.2))
          | (at_builtin; refine append_rowI rfl (.tmp 30) (.tmp 31) rfl w w.heap.size v u _ rfl HR1.out a2 _ rfl HrU.out HR1.out.2.size (by omega) X HX.out ?_; intro pa pc w4 hr2; have HR2 := Lib.hid hr2; clear hr2; have HS0 := Lib.hid (RowI.made (w := w4) (N := w4.heap.size) (Below.refl _ _) (Nat.le_refl _)); have HrU2 := Lib.hid ((Ha2.out.below HR2.out.2).below HS0.out.2))
          | (at_builtin; refine append_rowI rfl (.tmp 33) (.tmp 34) rfl w4 w4.heap.size [] u _ rfl HS0.out a2 _ rfl HrU2.out HS0.out.2.size (by simp; omega) u rfl ?_; intro qa qc w5 hs1; have HS1 := Lib.hid hs1; clear hs1; have HrV2 := Lib.hid ((Ha1.out.below HR2.out.2).below HS1.out.2))
          | (at_builtin; refine append_rowI rfl (.tmp 35) (.tmp 36) rfl w4 w4.heap.size u v _ rfl HS1.out a1 _ rfl HrV2.out HS1.out.2.size (by omega) Y HY.out ?_; intro ya yc w6 hs2))
        have HS2 := Lib.hid hs2
        clear hs2
        obtain ⟨_, _, he, hrowY, _⟩ := (Gives.form (w := w4) HS2.out.gives)
        cases he
        have hcI := HcI.out _ yc w6 hrowY
        have HcI2 := Lib.hid hcI
        clear hcI
        go_wp2_with fail
        refine HcI2.out.mono ?_
        rintro e w7 ⟨ia, ic, rfl, hic, hicm, hfi, hb7⟩
        have HR3 := Lib.hid ((HR2.out.below HR2.out.2.size HS2.out.2).below (Nat.le_trans HR2.out.2.size HS2.out.2.size) hb7); have Hfi := Lib.hid hfi.row
        clear hb7 hfi hrowY
        generalize hV : X ++ Word.inv Y = V at *
        have HV := Lib.hid hV
        clear hV
        go_wp2_with (at_builtin; refine append_rowI rfl (.tmp 39) (.tmp 41) rfl w w.heap.size X (Word.inv Y) _ rfl HR3.out ia _ rfl Hfi.out HR3.out.2.size (by omega) V HV.out ?_; intro xa xc w8 hr4)
        have HR4 := Lib.hid hr4
        clear hr4
        obtain ⟨_, _, he, hrowX, _⟩ := (Gives.form (w := w) HR4.out.gives)
        cases he
        have hcT := spec_l8Trivial g xa xc V w8 hrowX hlx Hg.out Hlet.out
        generalize hT : decide (Dn.Triv g V) = T at *
        have HcT := Lib.hid hcT; have HT := Lib.hid hT
        clear hcT hT hrowX
        go_wp2_with fail
        refine HcT.out.mono ?_
        rintro e w9 ⟨rfl, hb9⟩
        have Hb9 := Lib.hid (HR4.out.2.trans (hb9.mono HR4.out.2.size)); clear hb9
        go_wp2
        go_ret
        exact ⟨by rw [HX.out, HY.out, HV.out, HT.out]; rfl, Hb9.out⟩
      · rw [Dn.commW_big (by omega)]
        have dsum : decide ((24 : Int) < 2 * ((v.length : Int) + (u.length : Int))) = true := decide_eq_true (by omega)
        have HcV := Lib.hid hcV; have HcU := Lib.hid hcU
        clear hcV hcU hV hU
        go_enter Try.func57, Try.ntmps57
        go_wp2_with fail
        refine HcV.out.mono ?_
        rintro e w1 ⟨rfl, hb1⟩
        have Hb1 := Lib.hid hb1; clear hb1
        go_wp2_with fail
        refine (HcU.out w1 Hb1.out).mono ?_
        rintro e w2 ⟨rfl, hb2⟩
        have Hb2 := Lib.hid (Hb1.out.trans (hb2.mono Hb1.out.size)); clear hb2
        go_wp2
        go_ret
        exact ⟨rfl, Hb2.out⟩
    · rw [decide_eq_false hU] at hcU
      rw [Dn.commW_not2 hU]
      have HcV := Lib.hid hcV; have HcU := Lib.hid hcU
      clear hcV hcU hV hU
      go_enter Try.func57, Try.ntmps57
      go_wp2_with fail
      refine HcV.out.mono ?_
      rintro e w1 ⟨rfl, hb1⟩
      have Hb1 := Lib.hid hb1; clear hb1
      go_wp2_with fail
      refine (HcU.out w1 Hb1.out).mono ?_
      rintro e w2 ⟨rfl, hb2⟩
      have Hb2 := Lib.hid (Hb1.out.trans (hb2.mono Hb1.out.size)); clear hb2
      go_wp2
      go_ret
      exact ⟨rfl, Hb2.out⟩
  · rw [decide_eq_false hV] at hcV
    rw [Dn.commW_not1 hV]
    have HcV := Lib.hid hcV
    clear hcV hcU hV
    go_enter Try.func57, Try.ntmps57
    go_wp2_with fail
    refine HcV.out.mono ?_
    rintro e w1 ⟨rfl, hb1⟩
    go_wp2
    go_ret
    exact ⟨rfl, hb1⟩
end Go.Proofs.Ytfaagbmaekoogaa
namespace Go.Proofs.Ytfaagbmaekoogaa
open Go.RowKit

theorem fnExactRelator.spec_Relator (g : Int) (w : World) (_ : -9223372036854775808 ≤ g) (_ : g ≤ 9223372036854775807) : Calls Try.prog 59 #[.int .i64 g] w fun e w' => Gives w (Dn.rel g) e w' := Go.Proofs.Ytfaagbmaekoogaa.spec_Relator g w
theorem fnExactRelator.impl_Relator (g : Int) (w : World) (_ : -9223372036854775808 ≤ g) (_ : g ≤ 9223372036854775807) : Calls Try.prog 58 #[.int .i64 g] w fun e w' => Gives w (Dn.rel g) e w' := Go.Proofs.Ytfaagbmaekoogaa.impl_Relator g w
theorem fnExactDehnStep.spec_DehnStep (g : Int) (a : Option Addr) (c : Nat) (l : List Int) (w : World) (_ : -9223372036854775808 ≤ g) (_ : g ≤ 9223372036854775807) (ha : RowAt w a (intCells l)) (hl : l.length ≤ 1048576) :
    Calls Try.prog 48 #[.int .i64 g, .slice a l.length c] w fun e w' => Gives2 w ((Dn.stepW g l).getD []) (Dn.stepW g l).isSome e w' := Go.Proofs.Ytfaagbmaekoogaa.spec_DehnStep g a c l w ha hl
theorem fnExactDehnStep.impl_DehnStep (g : Int) (a : Option Addr) (c : Nat) (l : List Int) (w : World) (_ : -9223372036854775808 ≤ g) (_ : g ≤ 9223372036854775807) (ha : RowAt w a (intCells l)) (hl : l.length ≤ 1048576) :
    Calls Try.prog 47 #[.int .i64 g, .slice a l.length c] w fun e w' => Gives2 w ((Dn.stepW g l).getD []) (Dn.stepW g l).isSome e w' := Go.Proofs.Ytfaagbmaekoogaa.impl_DehnStep g a c l w ha hl
theorem fnExactDehnWord.spec_DehnWord (g : Int) (a : Option Addr) (c : Nat) (l : List Int) (w : World) (_ : -9223372036854775808 ≤ g) (_ : g ≤ 9223372036854775807) (ha : RowAt w a (intCells l)) (hl : l.length ≤ 1048576) :
    Calls Try.prog 60 #[.int .i64 g, .slice a l.length c] w fun e w' => Gives w (Dn.dehnW g l) e w' := Go.Proofs.Ytfaagbmaekoogaa.spec_DehnWord g a c l w ha hl
theorem fnExactDehnWord.impl_DehnWord (g : Int) (a : Option Addr) (c : Nat) (l : List Int) (w : World) (_ : -9223372036854775808 ≤ g) (_ : g ≤ 9223372036854775807) (ha : RowAt w a (intCells l)) (hl : l.length ≤ 1048576) :
    Calls Try.prog 52 #[.int .i64 g, .slice a l.length c] w fun e w' => Gives w (Dn.dehnW g l) e w' := Go.Proofs.Ytfaagbmaekoogaa.impl_DehnWord g a c l w ha hl
theorem fnExactIsTrivialWord.spec_IsTrivialWord (g : Int) (a : Option Addr) (c : Nat) (l : List Int) (w : World) (_ : -9223372036854775808 ≤ g) (_ : g ≤ 9223372036854775807) (ha : RowAt w a (intCells l)) (hl : l.length ≤ 1048576) :
    Calls Try.prog 62 #[.int .i64 g, .slice a l.length c] w fun e w' => e = .returned (.bool (decide (Dn.TrivW g l))) ∧ Below w.heap.size w w' := Go.Proofs.Ytfaagbmaekoogaa.spec_IsTrivialWord g a c l w ha hl
theorem fnExactIsTrivialWord.impl_IsTrivialWord (g : Int) (a : Option Addr) (c : Nat) (l : List Int) (w : World) (_ : -9223372036854775808 ≤ g) (_ : g ≤ 9223372036854775807) (ha : RowAt w a (intCells l)) (hl : l.length ≤ 1048576) :
    Calls Try.prog 61 #[.int .i64 g, .slice a l.length c] w fun e w' => e = .returned (.bool (decide (Dn.TrivW g l))) ∧ Below w.heap.size w w' := Go.Proofs.Ytfaagbmaekoogaa.impl_IsTrivialWord g a c l w ha (by omega)
theorem fnExactHomologyOf.spec_HomologyOf (g : Int) (a : Option Addr) (c : Nat) (l : List Int) (w : World) (_ : -9223372036854775808 ≤ g) (_ : g ≤ 9223372036854775807) (ha : RowAt w a (intCells l)) (hl : l.length ≤ 1048576) :
    Calls Try.prog 64 #[.int .i64 g, .slice a l.length c] w fun e w' => Gives w (Dn.homW g l) e w' := Go.Proofs.Ytfaagbmaekoogaa.spec_HomologyOf g a c l w ha hl
theorem fnExactHomologyOf.impl_HomologyOf (g : Int) (a : Option Addr) (c : Nat) (l : List Int) (w : World) (_ : -9223372036854775808 ≤ g) (_ : g ≤ 9223372036854775807) (ha : RowAt w a (intCells l)) (hl : l.length ≤ 1048576) :
    Calls Try.prog 63 #[.int .i64 g, .slice a l.length c] w fun e w' => Gives w (Dn.homW g l) e w' := Go.Proofs.Ytfaagbmaekoogaa.impl_HomologyOf g a c l w ha hl
theorem fnExactAreEqualWords.spec_AreEqualWords (g : Int) (a1 : Option Addr) (c1 : Nat) (v : List Int) (a2 : Option Addr) (c2 : Nat) (u : List Int) (w : World) (_ : -9223372036854775808 ≤ g) (_ : g ≤ 9223372036854775807) (ha1 : RowAt w a1 (intCells v)) (hl1 : v.length ≤ 1048576) (ha2 : RowAt w a2 (intCells u)) (hl2 : u.length ≤ 1048576) :
    Calls Try.prog 55 #[.int .i64 g, .slice a1 v.length c1, .slice a2 u.length c2] w fun e w' => e = .returned (.bool (decide (Dn.EqualW g v u))) ∧ Below w.heap.size w w' := Go.Proofs.Ytfaagbmaekoogaa.spec_AreEqualWords g a1 a2 c1 c2 v u w ha1 ha2 hl1 hl2
theorem fnExactAreEqualWords.impl_AreEqualWords (g : Int) (a1 : Option Addr) (c1 : Nat) (v : List Int) (a2 : Option Addr) (c2 : Nat) (u : List Int) (w : World) (_ : -9223372036854775808 ≤ g) (_ : g ≤ 9223372036854775807) (ha1 : RowAt w a1 (intCells v)) (hl1 : v.length ≤ 1048576) (ha2 : RowAt w a2 (intCells u)) (hl2 : u.length ≤ 1048576) :
    Calls Try.prog 54 #[.int .i64 g, .slice a1 v.length c1, .slice a2 u.length c2] w fun e w' => e = .returned (.bool (decide (Dn.EqualW g v u))) ∧ Below w.heap.size w w' := Go.Proofs.Ytfaagbmaekoogaa.impl_AreEqualWords g a1 a2 c1 c2 v u w ha1 ha2 (by omega) (by omega)
theorem fnExactCommuteIn.spec_CommuteIn (g : Int) (a1 : Option Addr) (c1 : Nat) (v : List Int) (a2 : Option Addr) (c2 : Nat) (u : List Int) (w : World) (_ : -9223372036854775808 ≤ g) (_ : g ≤ 9223372036854775807) (ha1 : RowAt w a1 (intCells v)) (hl1 : v.length ≤ 1048576) (ha2 : RowAt w a2 (intCells u)) (hl2 : u.length ≤ 1048576) :
    Calls Try.prog 57 #[.int .i64 g, .slice a1 v.length c1, .slice a2 u.length c2] w fun e w' => e = .returned (.bool (decide (Dn.CommW g v u))) ∧ Below w.heap.size w w' := Go.Proofs.Ytfaagbmaekoogaa.spec_CommuteIn g a1 a2 c1 c2 v u w ha1 ha2 hl1 hl2
theorem fnExactCommuteIn.impl_CommuteIn (g : Int) (a1 : Option Addr) (c1 : Nat) (v : List Int) (a2 : Option Addr) (c2 : Nat) (u : List Int) (w : World) (_ : -9223372036854775808 ≤ g) (_ : g ≤ 9223372036854775807) (ha1 : RowAt w a1 (intCells v)) (hl1 : v.length ≤ 1048576) (ha2 : RowAt w a2 (intCells u)) (hl2 : u.length ≤ 1048576) :
    Calls Try.prog 56 #[.int .i64 g, .slice a1 v.length c1, .slice a2 u.length c2] w fun e w' => e = .returned (.bool (decide (Dn.CommW g v u))) ∧ Below w.heap.size w w' := Go.Proofs.Ytfaagbmaekoogaa.impl_CommuteIn g a1 a2 c1 c2 v u w ha1 ha2 hl1 hl2
theorem Dn.stepW_len (g : Int) (l : List Int) : ((Dn.stepW g l).getD []).length ≤ 1000000 := by
  unfold Dn.stepW
  by_cases h : Dn.Fit g l
  · rw [if_pos h]
    cases hs : Dn.step g (Word.red l) with
    | none => simp
    | some r =>
      have := Dn.step_len h.1 hs
      have := h.red.2.1.2
      simp only [Option.getD_some]; omega
  · rw [if_neg h]; simp
theorem Dn.dehnW_len (g : Int) (l : List Int) : (Dn.dehnW g l).length ≤ 1000000 := by
  unfold Dn.dehnW
  by_cases h : Dn.Fit g l
  · rw [if_pos h]
    have := Dn.dehn_len h.1 _ (Word.red l) (Nat.le_refl _)
    have := h.red.2.1.2
    omega
  · rw [if_neg h]; simp
theorem Dn.homW_len (g : Int) (l : List Int) : (Dn.homW g l).length ≤ 1000000 := by
  unfold Dn.homW
  by_cases h : Dn.Fit g l
  · rw [if_pos h, List.length_take, Word.sums_len]; omega
  · rw [if_neg h]; simp
end Go.Proofs.Ytfaagbmaekoogaa
namespace Go.Proofs.Ytfaagbmaekoogaa
open Word

namespace Am
/-- The letters of the group with two handles: their sides, and what they are there. -/
def side (x : Int) : Bool := decide (2 < x ∨ x < -2)
def ren (x : Int) : Int := if 2 < x then 5 - x else if x < -2 then -5 - x else x
def unren (s : Bool) (y : Int) : Int := if s then (if 0 < y then 5 - y else -5 - y) else y
def Lt (x : Int) : Prop := x ≠ 0 ∧ -4 ≤ x ∧ x ≤ 4
theorem unren_ren {x : Int} (h : Lt x) : unren (side x) (ren x) = x := by
  obtain ⟨h0, h1, h2⟩ := h
  have : x = -4 ∨ x = -3 ∨ x = -2 ∨ x = -1 ∨ x = 1 ∨ x = 2 ∨ x = 3 ∨ x = 4 := by omega
  rcases this with rfl | rfl | rfl | rfl | rfl | rfl | rfl | rfl <;> decide
theorem side_neg (x : Int) : side (-x) = side x := by
  unfold side; apply decide_eq_decide.2; omega
theorem ren_neg (x : Int) : ren (-x) = -ren x := by
  unfold ren; split <;> split <;> (try split) <;> (try split) <;> omega
theorem ren_back {x y : Int} (hx : Lt x) (hy : Lt y) (hs : side x = side y) (h : ren y = -ren x) : y = -x := by
  rw [← unren_ren hy, h, ← ren_neg, ← hs, ← side_neg, unren_ren]
  obtain ⟨h0, h1, h2⟩ := hx
  exact ⟨by omega, by omega, by omega⟩
noncomputable def L (x : Int) (n : St) : St := act (side x) [ren x] n
noncomputable def actW (w : List Int) (n : St) : St := w.foldr L n
theorem actW_alt {w : List Int} {n : St} (h : Alt n.2) : Alt (actW w n).2 := by
  induction w with
  | nil => exact h
  | cons x w ih => exact act_alt ih
theorem actW_append (u v : List Int) (n : St) : actW (u ++ v) n = actW u (actW v n) := by
  unfold actW; rw [List.foldr_append]
theorem L_L {x : Int} {n : St} (h : Alt n.2) : L x (L (-x) n) = n := by
  unfold L
  rw [side_neg, act_act h, ren_neg]
  show act _ (red [ren x, -ren x]) n = n
  rw [red_pair, act_one h]
/-- One side's letters act as their word there. -/
theorem actW_side {s : Bool} {u : List Int} (hu : ∀ x ∈ u, side x = s) {n : St} (h : Alt n.2) : actW u n = act s (red (u.map ren)) n := by
  induction u with
  | nil => exact (act_one h).symm
  | cons x u ih =>
    show L x (actW u n) = _
    rw [ih (fun y hy => hu y (List.mem_cons_of_mem _ hy))]
    unfold L
    rw [hu x (List.mem_cons_self ..), act_act h, mul, red_right]
    rfl
theorem ren_rd {s : Bool} {u : List Int} (hu : ∀ x ∈ u, side x = s) (hl : ∀ x ∈ u, Lt x) (h : Rd u) : Rd (u.map ren) := by
  induction u with
  | nil => trivial
  | cons x u ih =>
    have := ih (fun y hy => hu y (List.mem_cons_of_mem _ hy)) (fun y hy => hl y (List.mem_cons_of_mem _ hy)) h.tail
    cases u with
    | nil => trivial
    | cons y u =>
      refine ⟨fun e => h.1 (ren_back (hl x (by simp)) (hl y (by simp)) ((hu x (by simp)).trans (hu y (by simp)).symm) e), this⟩
theorem unmap {s : Bool} {u : List Int} (hu : ∀ x ∈ u, side x = s) (hl : ∀ x ∈ u, Lt x) : (u.map ren).map (unren s) = u := by
  induction u with
  | nil => rfl
  | cons x u ih =>
    have := ih (fun y hy => hu y (List.mem_cons_of_mem _ hy)) (fun y hy => hl y (List.mem_cons_of_mem _ hy))
    rw [List.map_cons, List.map_cons, this]
    congr 1
    rw [← hu x (List.mem_cons_self ..)]
    exact unren_ren (hl x (List.mem_cons_self ..))
theorem P_snoc (n : Nat) : P (n + 1) = P n ++ Z := by
  induction n with
  | zero => rfl
  | succ n ih => exact congrArg (fun l => 1 :: 2 :: -1 :: -2 :: l) ih
theorem M_snoc (n : Nat) : M (n + 1) = M n ++ Zi := by
  induction n with
  | zero => rfl
  | succ n ih => exact congrArg (fun l => 2 :: 1 :: -2 :: -1 :: l) ih
theorem P_at : ∀ (m : Nat) (u t : List Int), P m = u ++ 1 :: t → Pw u
  | 0, [], t, h => by cases h
  | 0, _ :: _, t, h => by cases h
  | m + 1, [], t, h => ⟨0, rfl⟩
  | m + 1, [a], t, h => by simp [P] at h
  | m + 1, [a, b], t, h => by simp [P] at h
  | m + 1, [a, b, c], t, h => by simp [P] at h
  | m + 1, a :: b :: c :: d :: u, t, h => by
    simp only [P, List.cons_append, List.cons.injEq] at h
    obtain ⟨rfl, rfl, rfl, rfl, h⟩ := h
    obtain ⟨k, hk⟩ := P_at m u t h
    refine ⟨1 + k, ?_⟩
    rw [← zp_add, ← hk]
    have : Rd (1 :: 2 :: -1 :: -2 :: u) := Rd.left (v := 1 :: t) (by
      show Rd (1 :: 2 :: -1 :: -2 :: (u ++ 1 :: t))
      rw [← h]; exact P_rd (m + 1))
    exact (red_of_rd this).symm
theorem P_at2 : ∀ (m : Nat) (u t : List Int), P m ≠ u ++ 2 :: 1 :: t
  | 0, [], t, h => by cases h
  | 0, _ :: _, t, h => by cases h
  | m + 1, [], t, h => by simp [P] at h
  | m + 1, [a], t, h => by simp [P] at h
  | m + 1, [a, b], t, h => by simp [P] at h
  | m + 1, [a, b, c], t, h => by simp [P] at h
  | m + 1, a :: b :: c :: d :: u, t, h => by
    simp only [P, List.cons_append, List.cons.injEq] at h
    exact P_at2 m u t h.2.2.2.2
theorem M_at : ∀ (m : Nat) (u t : List Int), M m = u ++ 2 :: t → Pw u
  | 0, [], t, h => by cases h
  | 0, _ :: _, t, h => by cases h
  | m + 1, [], t, h => ⟨0, rfl⟩
  | m + 1, [a], t, h => by simp [M] at h
  | m + 1, [a, b], t, h => by simp [M] at h
  | m + 1, [a, b, c], t, h => by simp [M] at h
  | m + 1, a :: b :: c :: d :: u, t, h => by
    simp only [M, List.cons_append, List.cons.injEq] at h
    obtain ⟨rfl, rfl, rfl, rfl, h⟩ := h
    obtain ⟨k, hk⟩ := M_at m u t h
    refine ⟨-1 + k, ?_⟩
    rw [← zp_add, ← hk]
    have : Rd (2 :: 1 :: -2 :: -1 :: u) := Rd.left (v := 2 :: t) (by
      show Rd (2 :: 1 :: -2 :: -1 :: (u ++ 2 :: t))
      rw [← h]; exact M_rd (m + 1))
    exact (red_of_rd this).symm
theorem M_at2 : ∀ (m : Nat) (u t : List Int), M m ≠ u ++ 1 :: 2 :: t
  | 0, [], t, h => by cases h
  | 0, _ :: _, t, h => by cases h
  | m + 1, [], t, h => by simp [M] at h
  | m + 1, [a], t, h => by simp [M] at h
  | m + 1, [a, b], t, h => by simp [M] at h
  | m + 1, [a, b, c], t, h => by simp [M] at h
  | m + 1, a :: b :: c :: d :: u, t, h => by
    simp only [M, List.cons_append, List.cons.injEq] at h
    exact M_at2 m u t h.2.2.2.2
theorem zp_at {k : Int} (hk : k ≠ 0) {u r : List Int} (h : Pw (u ++ (zp k ++ r))) : Pw u := by
  obtain ⟨m, hm⟩ := h
  cases m with
  | ofNat m =>
    cases k with
    | ofNat k => cases k with
      | zero => exact absurd rfl hk
      | succ k => exact P_at m u _ hm.symm
    | negSucc k => exact absurd hm.symm (P_at2 m u _)
  | negSucc m =>
    cases k with
    | ofNat k => cases k with
      | zero => exact absurd rfl hk
      | succ k => exact absurd hm.symm (M_at2 (m + 1) u _)
    | negSucc k => exact M_at (m + 1) u _ hm.symm
/-- The parts of five letters that matter. -/
def pieces : List (List Int) := [[1, 2, -1, -2, 3], [4, 3, -4, -3, 2], [-4, 1, 2, -1, -2], [-1, 4, 3, -4, -3], [3, 4, -3, -4, 1], [2, 1, -2, -1, 4], [-2, 3, 4, -3, -4], [-3, 2, 1, -2, -1]]
def NoP (w : List Int) : Prop := ∀ p ∈ pieces, ∀ a b, w ≠ a ++ (p ++ b)
theorem NoP.right {u v : List Int} (h : NoP (u ++ v)) : NoP v := fun p hp a b e => h p hp (u ++ a) b (by rw [e, List.append_assoc])
theorem zp_succ {k : Int} (h : 0 < k) : ∃ n, zp k = P n ++ Z ∧ zp k = Z ++ P n := by
  cases k with
  | ofNat n => cases n with
    | zero => exact absurd h (by decide)
    | succ n => exact ⟨n, P_snoc n, rfl⟩
  | negSucc n => exact absurd h (by omega)
theorem zp_pred {k : Int} (h : k < 0) : ∃ n, zp k = M n ++ Zi ∧ zp k = Zi ++ M n := by
  cases k with
  | ofNat n => exact absurd h (by simp only [Int.ofNat_eq_natCast]; omega)
  | negSucc n => exact ⟨n, M_snoc n, rfl⟩
theorem side_ne {x y : Int} {s : Bool} (hx : side x = s) (hy : side y ≠ s) : side y = !s := by
  cases s <;> cases h : side y <;> simp_all
/-- Behind a power: no letter that takes of it. -/
theorem behind {u w : List Int} {s : Bool} {k : Int} {y : Int} (hu : ∀ x ∈ u, side x = s) (hl : ∀ x ∈ u, Lt x) (hk : u.map ren = zp k) (hw : w.head? = some y) (hy : Lt y) (hs : side y = !s) (h : NoP (u ++ w)) :
    (0 < k → ren y ≠ 2) ∧ (k < 0 → ren y ≠ 1) := by
  obtain ⟨t, rfl⟩ : ∃ t, w = y :: t := by
    cases w with
    | nil => cases hw
    | cons a t => cases hw; exact ⟨t, rfl⟩
  have hun := unmap hu hl
  rw [hk] at hun
  have hyy := unren_ren hy
  rw [hs] at hyy
  constructor
  · intro hk0 e
    obtain ⟨n, hn, _⟩ := zp_succ hk0
    rw [hn, List.map_append] at hun
    rw [e] at hyy
    cases s with
    | false => exact h [1, 2, -1, -2, 3] (by decide) (((P n).map (unren false))) t (by rw [← hun, ← hyy, List.append_assoc]; rfl)
    | true => exact h [4, 3, -4, -3, 2] (by decide) (((P n).map (unren true))) t (by rw [← hun, ← hyy, List.append_assoc]; rfl)
  · intro hk0 e
    obtain ⟨n, hn, _⟩ := zp_pred hk0
    rw [hn, List.map_append] at hun
    rw [e] at hyy
    cases s with
    | false => exact h [2, 1, -2, -1, 4] (by decide) (((M n).map (unren false))) t (by rw [← hun, ← hyy, List.append_assoc]; rfl)
    | true => exact h [3, 4, -3, -4, 1] (by decide) (((M n).map (unren true))) t (by rw [← hun, ← hyy, List.append_assoc]; rfl)
/-- Ahead of a power: likewise. -/
theorem ahead {u s1 w1 : List Int} {s : Bool} {k : Int} {y : Int} (hu : ∀ x ∈ s1, side x = s) (hl : ∀ x ∈ s1, Lt x) (hk : s1.map ren = zp k) (hw : u.getLast? = some y) (hy : Lt y) (hs : side y = !s) (h : NoP (u ++ (s1 ++ w1))) :
    (0 < k → ren y ≠ -1) ∧ (k < 0 → ren y ≠ -2) := by
  obtain ⟨t, rfl⟩ : ∃ t, u = t ++ [y] := by
    rcases snoc_cases u with rfl | ⟨t, a, rfl⟩
    · cases hw
    · simp at hw; exact ⟨t, by rw [hw]⟩
  have hun := unmap hu hl
  rw [hk] at hun
  have hyy := unren_ren hy
  rw [hs] at hyy
  constructor
  · intro hk0 e
    obtain ⟨n, _, hn⟩ := zp_succ hk0
    rw [hn, List.map_append] at hun
    rw [e] at hyy
    cases s with
    | false => exact h [-4, 1, 2, -1, -2] (by decide) t ((P n).map (unren false) ++ w1) (by rw [← hun, ← hyy]; simp; exact ⟨rfl, rfl⟩)
    | true => exact h [-1, 4, 3, -4, -3] (by decide) t ((P n).map (unren true) ++ w1) (by rw [← hun, ← hyy]; simp; exact ⟨rfl, rfl⟩)
  · intro hk0 e
    obtain ⟨n, _, hn⟩ := zp_pred hk0
    rw [hn, List.map_append] at hun
    rw [e] at hyy
    cases s with
    | false => exact h [-3, 2, 1, -2, -1] (by decide) t ((M n).map (unren false) ++ w1) (by rw [← hun, ← hyy]; simp; exact ⟨rfl, rfl⟩)
    | true => exact h [-2, 3, 4, -3, -4] (by decide) t ((M n).map (unren true) ++ w1) (by rw [← hun, ← hyy]; simp; exact ⟨rfl, rfl⟩)
theorem split_side : ∀ (w : List Int) (x : Int), w.head? = some x → ∃ u v, w = u ++ v ∧ u.head? = some x ∧ (∀ y ∈ u, side y = side x) ∧ ∀ y, v.head? = some y → side y = !side x := by
  intro w
  induction w with
  | nil => intro x h; cases h
  | cons a w ih =>
    intro x h
    cases h
    cases w with
    | nil => exact ⟨[a], [], rfl, rfl, by simp, fun y hy => by cases hy⟩
    | cons b w =>
      by_cases e : side b = side a
      · obtain ⟨u, v, h1, h2, h3, h4⟩ := ih b rfl
        refine ⟨a :: u, v, by rw [h1]; rfl, rfl, ?_, fun y hy => by rw [h4 y hy, e]⟩
        intro y hy
        rcases List.mem_cons.1 hy with rfl | hy
        · rfl
        · rw [h3 y hy, e]
      · refine ⟨[a], b :: w, rfl, rfl, by simp, fun y hy => ?_⟩
        cases hy
        cases h1 : side a <;> cases h2 : side b <;> simp_all
theorem zp_head {k : Int} (h : k ≠ 0) : (0 < k ∧ (zp k).head? = some 1 ∧ (zp k).getLast? = some (-2)) ∨ (k < 0 ∧ (zp k).head? = some 2 ∧ (zp k).getLast? = some (-1)) := by
  rcases (show 0 < k ∨ k < 0 by omega) with hk | hk
  · obtain ⟨n, h1, h2⟩ := zp_succ hk
    refine Or.inl ⟨hk, ?_, ?_⟩
    · rw [h2]; rfl
    · rw [h1]; simp [Z]
  · obtain ⟨n, h1, h2⟩ := zp_pred hk
    refine Or.inr ⟨hk, ?_, ?_⟩
    · rw [h2]; rfl
    · rw [h1]; simp [Zi]
/-- The word begins with a power. -/
def Fst (w : List Int) (x : Int) (k : Int) : Prop := ∃ s1 w1, w = s1 ++ w1 ∧ s1.map ren = zp k ∧ k ≠ 0 ∧ ∀ y ∈ s1, side y = side x
/-- A power as a whole. -/
def QA (w : List Int) : Prop := ∃ K k x, (∀ n : St, Alt n.2 → actW w n = (K + n.1, n.2)) ∧ w.head? = some x ∧ Fst w x k ∧ K ≠ 0 ∧ (0 < k ↔ 0 < K)
/-- Blocks. -/
def QB (w : List Int) : Prop := ∃ t B Bl x, Blocks ((t, B) :: Bl) ∧ (∀ y ∈ (t, B) :: Bl, Rd y.2) ∧ (∀ n : St, Alt n.2 → actW w n = acts ((t, B) :: Bl) n) ∧ w.head? = some x ∧ B.head? = some (ren x) ∧ (side x = t ∨ ∃ k r, k ≠ 0 ∧ B = zp k ++ r ∧ Fst w x k)
theorem Fst.head {w : List Int} {x k : Int} (h : Fst w x k) (hx : w.head? = some x) : (0 < k ∧ ren x = 1) ∨ (k < 0 ∧ ren x = 2) := by
  obtain ⟨s1, w1, rfl, h2, h3, h4⟩ := h
  cases s1 with
  | nil => rcases zp_head h3 with ⟨_, e, _⟩ | ⟨_, e, _⟩ <;> rw [← h2] at e <;> cases e
  | cons a s1 =>
    cases hx
    rcases zp_head h3 with ⟨hk, e, _⟩ | ⟨hk, e, _⟩
    · rw [← h2] at e; exact Or.inl ⟨hk, Option.some.inj e⟩
    · rw [← h2] at e; exact Or.inr ⟨hk, Option.some.inj e⟩
theorem map_last {u : List Int} {y : Int} (h : u.getLast? = some y) : (u.map ren).getLast? = some (ren y) := by
  rw [List.getLast?_map, h]; rfl
theorem map_last_of {u : List Int} {z : Int} (h : (u.map ren).getLast? = some z) : ∃ y, u.getLast? = some y ∧ ren y = z := by
  rw [List.getLast?_map] at h
  cases e : u.getLast? with
  | none => rw [e] at h; cases h
  | some y => rw [e] at h; cases h; exact ⟨y, rfl, rfl⟩
/-- A power ahead of a word: where it meets the word, nothing cancels. -/
theorem join_behind {u w B : List Int} {s : Bool} {k x : Int} (hu : ∀ x ∈ u, side x = s) (hl : ∀ x ∈ u, Lt x) (hk : u.map ren = zp k) (hk0 : k ≠ 0) (hw : w.head? = some x) (hx : Lt x) (hs : side x = !s) (h : NoP (u ++ w)) (hB : Rd B) (hBx : B.head? = some (ren x)) : Rd (zp k ++ B) := by
  refine (zp_rd k).join hB fun a b ha hb => ?_
  rw [hBx] at hb; cases hb
  obtain ⟨h1, h2⟩ := behind hu hl hk hw hx hs h
  rcases zp_head hk0 with ⟨hk, _, e⟩ | ⟨hk, _, e⟩
  · rw [e] at ha; cases ha; exact h1 hk
  · rw [e] at ha; cases ha; exact h2 hk
/-- A word ahead of a power: likewise. -/
theorem join_ahead {u w B : List Int} {s : Bool} {k x : Int} (hu : ∀ y ∈ u, side y = s) (hl : ∀ x ∈ u, Lt x) (hlw : ∀ x ∈ w, Lt x) (hr : Rd (u.map ren)) (hw : w.head? = some x) (hs : side x = !s) (hF : Fst w x k) (h : NoP (u ++ w)) (hB : Rd B) (hBx : B.head? = some (ren x)) : Rd (u.map ren ++ B) := by
  refine hr.join hB fun a b ha hb => ?_
  rw [hBx] at hb; cases hb
  obtain ⟨y, hy, rfl⟩ := map_last_of ha
  have hy1 : y ∈ u := List.mem_of_getLast? hy
  have hhead := hF.head hw
  obtain ⟨s1, w1, rfl, h2, h3, h4⟩ := hF
  obtain ⟨g1, g2⟩ := ahead (s := side x) h4 (fun z hz => hlw z (List.mem_append_left _ hz)) h2 hy (hl y hy1) (by rw [hu y hy1, hs]; simp) h
  rcases hhead with ⟨hk, e⟩ | ⟨hk, e⟩
  · rw [e]; have := g1 hk; omega
  · rw [e]; have := g2 hk; omega
theorem mul_of_rd {u v : List Int} (h : Rd (u ++ v)) : mul u v = u ++ v := red_of_rd h
theorem Fst.of {u w : List Int} {x k : Int} (hk : u.map ren = zp k) (hk0 : k ≠ 0) (hu : ∀ y ∈ u, side y = side x) : Fst (u ++ w) x k := ⟨u, w, rfl, hk, hk0, hu⟩
theorem head_map {u : List Int} {x : Int} (h : u.head? = some x) : (u.map ren).head? = some (ren x) := by
  cases u with
  | nil => cases h
  | cons a u => cases h; rfl
theorem head_app {u v : List Int} {x : Int} (h : u.head? = some x) : (u ++ v).head? = some x := by
  cases u with
  | nil => cases h
  | cons a u => cases h; rfl
theorem step_Q {u w : List Int} {x : Int} (hr : Rd (u ++ w)) (hl : ∀ y ∈ u ++ w, Lt y) (hp : NoP (u ++ w)) (hx : u.head? = some x) (hu : ∀ y ∈ u, side y = side x) (hv : ∀ y, w.head? = some y → side y = !side x) (hw : w = [] ∨ QA w ∨ QB w) : QA (u ++ w) ∨ QB (u ++ w) := by
  have hlu : ∀ y ∈ u, Lt y := fun y hy => hl y (List.mem_append_left _ hy)
  have hlw : ∀ y ∈ w, Lt y := fun y hy => hl y (List.mem_append_right _ hy)
  have hU : Rd (u.map ren) := ren_rd hu hlu hr.left
  have hact : ∀ n : St, Alt n.2 → actW (u ++ w) n = act (side x) (u.map ren) (actW w n) := fun n hn => by
    rw [actW_append, actW_side hu (actW_alt hn), red_of_rd hU]
  have hxx : (u ++ w).head? = some x := head_app hx
  by_cases hpw : Pw (u.map ren)
  · obtain ⟨k, hk⟩ := hpw
    have hk0 : k ≠ 0 := by
      rintro rfl
      have := head_map hx
      rw [hk] at this; cases this
    rcases hw with rfl | ⟨K, k', x', h1, h2, h3, h4, h5⟩ | ⟨t, B, Bl, x', h1, h2, h3, h4, h5, h6⟩
    · refine Or.inl ⟨k, k, x, fun n hn => ?_, hxx, Fst.of hk hk0 hu, hk0, Iff.rfl⟩
      rw [hact n hn, hk]; exact act_zp (actW_alt (w := []) hn)
    · have hx' : x' ∈ w := List.mem_of_head? h2
      have hb := behind hu hlu hk h2 (hlw x' hx') (hv x' h2) hp
      have hsg : 0 < k ↔ 0 < k' := by
        rcases h3.head h2 with ⟨e1, e2⟩ | ⟨e1, e2⟩
        · refine ⟨fun _ => e1, fun _ => ?_⟩
          rcases (show 0 < k ∨ k < 0 by omega) with g | g
          · exact g
          · exact absurd e2 (hb.2 g)
        · refine ⟨fun g => absurd e2 (hb.1 g), fun g => by omega⟩
      have hk'0 : k' ≠ 0 := by obtain ⟨_, _, _, _, g, _⟩ := h3; exact g
      refine Or.inl ⟨k + K, k, x, fun n hn => ?_, hxx, Fst.of hk hk0 hu, by omega, by omega⟩
      rw [hact n hn, hk, h1 n hn, act_zp (show Alt (K + n.1, n.2).2 from hn)]
      simp only [Int.add_assoc]
    · have hx' : x' ∈ w := List.mem_of_head? h4
      have hj := join_behind hu hlu hk hk0 h4 (hlw x' hx') (hv x' h4) hp (h2 _ (List.mem_cons_self ..)) h5
      have hnp : ¬ Pw (zp k ++ B) := fun e => h1.head (Pw.of_left (k := k) (h2 _ (List.mem_cons_self ..)) (by rw [mul_of_rd hj]; exact e))
      refine Or.inr ⟨t, zp k ++ B, Bl, x, Blocks.cons h1.tail hnp h1.free, ?_, fun n hn => ?_, hxx, ?_, Or.inr ⟨k, B, hk0, rfl, Fst.of hk hk0 hu⟩⟩
      · intro y hy
        rcases List.mem_cons.1 hy with rfl | hy
        · exact hj
        · exact h2 y (List.mem_cons_of_mem _ hy)
      · rw [hact n hn, hk, h3 n hn]
        have ha : Alt (acts Bl n).2 := acts_alt hn
        show act (side x) (zp k) (act t B (acts Bl n)) = act t (zp k ++ B) (acts Bl n)
        rw [act_zp (act_alt ha), ← act_zp (s := t) (act_alt ha), act_act ha, mul_of_rd hj]
      · rw [← hk]; exact head_app (head_map hx)
  · rcases hw with rfl | ⟨K, k', x', h1, h2, h3, h4, h5⟩ | ⟨t, B, Bl, x', h1, h2, h3, h4, h5, h6⟩
    · refine Or.inr ⟨side x, u.map ren, [], x, hpw, by simpa using hU, fun n hn => ?_, hxx, head_map hx, Or.inl rfl⟩
      rw [hact n hn]; rfl
    · have hBx : (zp K).head? = some (ren x') := by
        rcases h3.head h2 with ⟨e1, e2⟩ | ⟨e1, e2⟩
        · rcases zp_head h4 with ⟨_, e, _⟩ | ⟨_, e, _⟩
          · rw [e, e2]
          · omega
        · rcases zp_head h4 with ⟨_, e, _⟩ | ⟨_, e, _⟩
          · obtain ⟨_, _, _, _, g, _⟩ := h3; omega
          · rw [e, e2]
      have hj := join_ahead hu hlu hlw hU h2 (hv x' h2) h3 hp (zp_rd K) hBx
      have hnp : ¬ Pw (u.map ren ++ zp K) := fun e => hpw (Pw.of_right (k := K) hU (by rw [mul_of_rd hj]; exact e))
      refine Or.inr ⟨side x, u.map ren ++ zp K, [], x, hnp, by simpa using hj, fun n hn => ?_, hxx, head_app (head_map hx), Or.inl rfl⟩
      rw [hact n hn, h1 n hn, ← act_zp (s := side x) hn, act_act hn, mul_of_rd hj]; rfl
    · have hs := hv x' h4
      by_cases ht : side x = t
      · subst ht
        rcases h6 with h6 | ⟨k, r, hk0, hB, hF⟩
        · rw [hs] at h6; cases e : side x <;> rw [e] at h6 <;> cases h6
        · have hj := join_ahead hu hlu hlw hU h4 hs hF hp (h2 _ (List.mem_cons_self ..)) h5
          have hnp : ¬ Pw (u.map ren ++ B) := fun e => hpw (zp_at hk0 (by rw [hB] at e; exact e))
          refine Or.inr ⟨side x, u.map ren ++ B, Bl, x, Blocks.cons h1.tail hnp h1.free, ?_, fun n hn => ?_, hxx, head_app (head_map hx), Or.inl rfl⟩
          · intro y hy
            rcases List.mem_cons.1 hy with rfl | hy
            · exact hj
            · exact h2 y (List.mem_cons_of_mem _ hy)
          · rw [hact n hn, h3 n hn]
            have ha : Alt (acts Bl n).2 := acts_alt hn
            show act (side x) (u.map ren) (act (side x) B (acts Bl n)) = act (side x) (u.map ren ++ B) (acts Bl n)
            rw [act_act ha, mul_of_rd hj]
      · refine Or.inr ⟨side x, u.map ren, (t, B) :: Bl, x, Blocks.cons (x := (side x, u.map ren)) h1 hpw (fun y hy => by cases hy; exact fun e => ht e.symm), ?_, fun n hn => ?_, hxx, head_map hx, Or.inl rfl⟩
        · intro y hy
          rcases List.mem_cons.1 hy with rfl | hy
          · exact hU
          · exact h2 y hy
        · rw [hact n hn, h3 n hn]; rfl
theorem all_Q : ∀ (n : Nat) (w : List Int), w.length ≤ n → Rd w → (∀ y ∈ w, Lt y) → NoP w → w = [] ∨ QA w ∨ QB w := by
  intro n
  induction n with
  | zero => intro w hn _ _ _; exact Or.inl (List.eq_nil_of_length_eq_zero (by omega))
  | succ n ih =>
    intro w hn hr hl hp
    cases w with
    | nil => exact Or.inl rfl
    | cons a w =>
      obtain ⟨u, v, h1, h2, h3, h4⟩ := split_side (a :: w) a rfl
      rw [h1] at hr hl hp hn ⊢
      have hul : 0 < u.length := by cases u with
        | nil => cases h2
        | cons _ _ => simp
      rw [List.length_append] at hn
      exact Or.inr (step_Q hr hl hp h2 h3 h4 (ih v (by omega) hr.right (fun y hy => hl y (List.mem_append_right _ hy)) hp.right))
/-- A word without inverse neighbours and without such parts leads away, unless it is empty. -/
theorem away {w : List Int} (hr : Rd w) (hl : ∀ y ∈ w, Lt y) (hp : NoP w) (h : actW w (0, []) = (0, [])) : w = [] := by
  rcases all_Q w.length w (Nat.le_refl _) hr hl hp with e | ⟨K, k, x, h1, h2, h3, h4, h5⟩ | ⟨t, B, Bl, x, h1, h2, h3, h4, h5, h6⟩
  · exact e
  · rw [h1 (0, []) trivial] at h
    have := congrArg Prod.fst h
    simp at this; omega
  · rw [h3 (0, []) trivial] at h
    have := (h1.away h2).1
    rw [h] at this
    simp at this
/-- The relator acts as nothing. -/
theorem rel_act (n : St) (h : Alt n.2) : actW [1, 2, -1, -2, 3, 4, -3, -4] n = n := by
  rw [show [1, 2, -1, -2, 3, 4, -3, -4] = [1, 2, -1, -2] ++ ([3, 4, -3, -4] : List Int) from rfl, actW_append]
  have h2 : Alt (actW [3, 4, -3, -4] n).2 := actW_alt h
  rw [actW_side (s := false) (u := [1, 2, -1, -2]) (by decide) h2, show red ([1, 2, -1, -2].map ren) = zp 1 from by decide, act_zp h2,
    actW_side (s := true) (u := [3, 4, -3, -4]) (by decide) h, show red ([3, 4, -3, -4].map ren) = zp (-1) from by decide, act_zp h]
  simp only [← Int.add_assoc]
  show (0 + n.1, n.2) = n
  rw [Int.zero_add]
end Am
end Go.Proofs.Ytfaagbmaekoogaa
namespace Go.Proofs.Ytfaagbmaekoogaa
open Word

namespace Dn
/-- Letters that act on something: two inverse letters undo each other, and the relator of two handles does nothing. -/
structure Acts (α : Type) where
  act : Int → α → α
  V : α → Prop
  keep : ∀ x n, V n → V (act x n)
  back : ∀ x n, V n → act x (act (-x) n) = n
  rel : ∀ n, V n → [1, 2, -1, -2, 3, 4, -3, -4].foldr act n = n
section
variable {α : Type} (R : Acts α)
def Acts.on (w : List Int) (n : α) : α := w.foldr R.act n
theorem Acts.on_append (u v : List Int) (n : α) : R.on (u ++ v) n = R.on u (R.on v n) := by unfold Acts.on; rw [List.foldr_append]
theorem Acts.on_keep (w : List Int) {n : α} (h : R.V n) : R.V (R.on w n) := by
  induction w with
  | nil => exact h
  | cons x w ih => exact R.keep x _ ih
theorem Acts.on_inv (w : List Int) {n : α} (h : R.V n) : R.on w (R.on (Word.inv w) n) = n := by
  induction w generalizing n with
  | nil => rfl
  | cons x w ih =>
    rw [Word.inv_cons, R.on_append]
    show R.act x (R.on w (R.on (Word.inv w) (R.act (-x) n))) = n
    rw [ih (R.keep _ _ h), R.back x n h]
theorem Acts.inv_on (w : List Int) {n : α} (h : R.V n) : R.on (Word.inv w) (R.on w n) = n := by
  have := R.on_inv (Word.inv w) h
  rwa [Am.inv_inv] at this
theorem Acts.on_step (s : List Int) (x : Int) {n : α} (h : R.V n) : R.on (redStep s x) n = R.on s (R.act x n) := by
  by_cases hx : s.getLast? = some (-x)
  · rcases Am.snoc_cases s with rfl | ⟨t, y, rfl⟩
    · cases hx
    · simp at hx; subst hx
      rw [Am.redStep_snoc_back, R.on_append]
      show _ = R.on t (R.act (-x) (R.act x n))
      have := R.back (-x) n h
      rw [Int.neg_neg] at this
      rw [this]
  · rw [Am.redStep_on hx, R.on_append]; rfl
theorem Acts.on_fold (v : List Int) : ∀ (s : List Int) {n : α}, R.V n → R.on (v.foldl redStep s) n = R.on s (R.on v n) := by
  induction v with
  | nil => intro s n _; rfl
  | cons x v ih =>
    intro s n h
    rw [List.foldl_cons, ih _ h, R.on_step _ _ (R.on_keep v h)]; rfl
theorem Acts.on_red (w : List Int) {n : α} (h : R.V n) : R.on (red w) n = R.on w n := R.on_fold w [] h
/-- It does nothing. -/
def Acts.T (w : List Int) : Prop := ∀ n, R.V n → R.on w n = n
theorem Acts.T.inv {w : List Int} (h : R.T w) : R.T (Word.inv w) := fun n hn => by
  have := R.inv_on w hn
  rwa [h n hn] at this
theorem Acts.T.swap {u v : List Int} (h : R.T (u ++ v)) : R.T (v ++ u) := fun n hn => by
  have h1 : ∀ m, R.V m → R.on u (R.on v m) = m := fun m hm => by rw [← R.on_append]; exact h m hm
  have h2 := h1 (R.on (Word.inv v) n) (R.on_keep _ hn)
  rw [R.on_inv v hn] at h2
  rw [R.on_append, h2, R.on_inv v hn]
theorem Acts.T.turn {w : List Int} (h : R.T w) (k : Int) : R.T (Word.turn w k) := by
  unfold Word.turn
  refine Acts.T.swap R ?_
  rw [List.take_append_drop]; exact h
theorem Acts.cand (t : Nat) : R.T (cand 2 t) := by
  unfold Dn.cand
  refine Acts.T.turn R ?_ t
  have hr : R.T (Dn.rel 2) := fun n hn => R.rel n hn
  split
  · exact hr.inv
  · exact hr
theorem Acts.part {p q : List Int} (h : R.T (p ++ q)) {n : α} (hn : R.V n) : R.on (Word.inv q) n = R.on p n := by
  have h1 := h (R.on (Word.inv q) n) (R.on_keep _ hn)
  rw [R.on_append, R.on_inv q hn] at h1
  exact h1.symm
theorem bestTo_take (g : Int) (v : List Int) (t : Nat) : v.take (bestTo g v t).1 = (bestTo g v t).2.take (bestTo g v t).1 := by
  induction t with
  | zero => rfl
  | succ t ih =>
    rw [bestTo_succ]; unfold pick; split
    · exact lcp_take v _
    · exact ih
theorem Acts.on_out {w : List Int} {i : Nat} {n : α} (hn : R.V n) : R.on (w.take i ++ (Word.inv ((bestTo 2 (w.drop i) 16).2.drop (bestTo 2 (w.drop i) 16).1) ++ w.drop (i + (bestTo 2 (w.drop i) 16).1))) n = R.on w n := by
  have ht := bestTo_take 2 (w.drop i) 16
  have hm := bestTo_mem 2 (w.drop i) 16
  generalize bestTo 2 (w.drop i) 16 = p at *
  have hT : R.T (p.2.take p.1 ++ p.2.drop p.1) := by
    rw [List.take_append_drop]
    rcases hm with e | ⟨k, _, e⟩
    · rw [e]; intro n _; rfl
    · rw [e]; exact R.cand k
  have hw : w = w.take i ++ ((w.drop i).take p.1 ++ w.drop (i + p.1)) := by
    rw [← List.drop_drop, List.take_append_drop, List.take_append_drop]
  conv => rhs; rw [hw]
  rw [R.on_append, R.on_append, R.on_append, R.on_append, R.part hT (R.on_keep _ hn), ht]
theorem Acts.on_stepAt {w r : List Int} {i : Nat} (h : stepAt 2 w i = some r) {n : α} (hn : R.V n) : R.on r n = R.on w n := by
  unfold stepAt at h
  split at h
  · cases h
    show R.on (red _) n = _
    rw [R.on_red _ hn]
    exact R.on_out hn
  · cases h
theorem Acts.on_dehn : ∀ (m : Nat) (w : List Int), w.length ≤ m → ∀ {n : α}, R.V n → R.on (dehn 2 w) n = R.on w n := by
  intro m
  induction m with
  | zero => intro w hm n hn; rw [dehn_none (step_no fun j hj => by omega)]
  | succ m ih =>
    intro w hm n hn
    cases h : step 2 w with
    | none => rw [dehn_none h]
    | some r =>
      have hl := step_len (g := 2) (by unfold Gr; omega) h
      obtain ⟨i, _, e⟩ := step_some h
      rw [dehn_some (by unfold Gr; omega) h, ih r (by omega) hn, R.on_stepAt e hn]
theorem Acts.triv {w : List Int} (h : Triv 2 w) : R.T w := fun n hn => by
  unfold Triv at h
  rw [if_pos rfl] at h
  have h1 := R.on_dehn (red w).length (red w) (Nat.le_refl _) hn
  rw [h, R.on_red w hn] at h1
  exact h1.symm
end
/-- The amalgam. -/
noncomputable def RA : Acts Am.St := ⟨Am.L, fun n => Am.Alt n.2, fun _ _ h => Am.act_alt h, fun _ _ h => Am.L_L h, fun n h => Am.rel_act n h⟩
/-- Sums of letters. -/
def RS (j : Nat) : Acts Int := ⟨fun x n => wt j x + n, fun _ => True, fun _ _ h => h, fun x n _ => by rw [wt_neg]; omega, fun n _ => by
  simp only [List.foldr_cons, List.foldr_nil]
  have h1 := wt_neg j 1
  have h2 := wt_neg j 2
  have h3 := wt_neg j 3
  have h4 := wt_neg j 4
  omega⟩
theorem RS_on (j : Nat) (w : List Int) (n : Int) : (RS j).on w n = tot j w + n := by
  induction w with
  | nil => simp [Acts.on, tot]
  | cons x w ih =>
    show wt j x + (RS j).on w n = _
    rw [ih, tot_cons]; omega
theorem triv_tot {w : List Int} (h : Triv 2 w) (j : Nat) : tot j w = 0 := by
  have := (RS j).triv h 0 trivial
  rw [RS_on] at this; omega
theorem bestTo_ge (g : Int) (v : List Int) : ∀ (m t : Nat), t < m → lcp v (cand g t) ≤ (bestTo g v m).1 := by
  intro m
  induction m with
  | zero => intro t h; omega
  | succ m ih =>
    intro t h
    rw [bestTo_succ]
    by_cases e : t = m
    · subst e
      unfold pick; split <;> (first | omega | (simp only; omega))
    · have := ih t (by omega)
      unfold pick; split <;> (first | omega | (simp only; omega))
theorem lcp_common : ∀ (p b r : List Int), p <+: r → p.length ≤ lcp (p ++ b) r
  | [], b, r, _ => Nat.zero_le _
  | x :: p, b, [], h => by have := h.length_le; simp at this
  | x :: p, b, y :: r, h => by
    rw [List.cons_prefix_cons] at h
    show _ ≤ lcp (x :: (p ++ b)) (y :: r)
    unfold lcp
    rw [if_pos h.1]
    have := lcp_common p b r h.2
    simp only [List.length_cons]; omega
theorem piece_cand : ∀ p ∈ Am.pieces, p.length = 5 ∧ ∃ t, t < 16 ∧ p <+: cand 2 t := by decide
theorem nop_of {w : List Int} (h : step 2 w = none) : Am.NoP w := by
  intro p hp a b e
  obtain ⟨h5, t, ht, hpre⟩ := piece_cand p hp
  have hi : a.length < w.length := by rw [e]; simp; omega
  have hs := step_none h hi
  have hdrop : w.drop a.length = p ++ b := by rw [e]; simp
  have h1 := lcp_common p b (cand 2 t) hpre
  have h2 := bestTo_ge 2 (p ++ b) 16 t ht
  unfold stepAt at hs
  rw [hdrop, if_pos (by show (2 * 2 : Int) < ((bestTo 2 (p ++ b) 16).1 : Int); omega)] at hs
  cases hs
theorem dehn_stop : ∀ (m : Nat) (w : List Int), w.length ≤ m → step 2 (dehn 2 w) = none := by
  intro m
  induction m with
  | zero => intro w hm; rw [dehn_none (step_no fun j hj => by omega)]; exact step_no fun j hj => by omega
  | succ m ih =>
    intro w hm
    cases h : step 2 w with
    | none => rw [dehn_none h]; exact h
    | some r =>
      have hl := step_len (g := 2) (by unfold Gr; omega) h
      rw [dehn_some (by unfold Gr; omega) h]
      exact ih r (by omega)
theorem dehn_keeps {p : List Int → Prop} (hp : ∀ w r, p w → step 2 w = some r → p r) : ∀ (m : Nat) (w : List Int), w.length ≤ m → p w → p (dehn 2 w) := by
  intro m
  induction m with
  | zero => intro w hm hw; rw [dehn_none (step_no fun j hj => by omega)]; exact hw
  | succ m ih =>
    intro w hm hw
    cases h : step 2 w with
    | none => rw [dehn_none h]; exact hw
    | some r =>
      have hl := step_len (g := 2) (by unfold Gr; omega) h
      rw [dehn_some (by unfold Gr; omega) h]
      exact ih r (by omega) (hp w r hw h)
/-- Dehn's theorem: what does nothing is rewritten to nothing. -/
theorem triv_of {w : List Int} (hl : ∀ x ∈ w, Let 2 x) (h : RA.T w) : Triv 2 w := by
  unfold Triv
  rw [if_pos rfl]
  have hg : Gr 2 := by unfold Gr; omega
  have hk := dehn_keeps (p := fun w => Am.Rd w ∧ ∀ x ∈ w, Let 2 x) (fun w r hw hs => ⟨by rw [← step_red hs]; exact Am.red_rd r, step_letters hg hw.2 hs⟩) (red w).length (red w) (Nat.le_refl _) ⟨Am.red_rd w, red_mem hl⟩
  have hn := dehn_stop (red w).length (red w) (Nat.le_refl _)
  have hon : RA.on (dehn 2 (red w)) (0, []) = (0, []) := by
    have h0 : RA.V (0, []) := trivial
    rw [RA.on_dehn (red w).length (red w) (Nat.le_refl _) h0, RA.on_red w h0, h _ h0]
  refine Am.away hk.1 (fun y hy => ?_) (nop_of hn) hon
  obtain ⟨⟨h1, h2, h3⟩, h4⟩ := hk.2 y hy
  exact ⟨h1, by omega, by omega⟩
theorem triv_iff {w : List Int} (hl : ∀ x ∈ w, Let 2 x) : Triv 2 w ↔ RA.T w := ⟨fun h => RA.triv h, fun h => triv_of hl h⟩

/-- What the law asks. -/
theorem triv_inv {g : Int} {w : List Int} (hg : Gr g) (hl : ∀ x ∈ w, Let g x) (h : Triv g w) : Triv g (Word.inv w) := by
  rcases gr_cases hg with rfl | rfl
  · unfold Triv at h ⊢
    rw [if_neg (by decide)] at h ⊢
    rw [tot_inv, tot_inv]; omega
  · exact triv_of (inv_letters (p := Let 2) (fun _ => let_neg) hl) (Acts.T.inv RA (RA.triv h))
theorem tot_turn (j : Nat) (l : List Int) (k : Int) : tot j (Word.turn l k) = tot j l := by
  unfold Word.turn
  rw [tot_append]
  conv => rhs; rw [← List.take_append_drop (k % (l.length : Int)).toNat l, tot_append]
  omega
theorem triv_turn {g : Int} {w : List Int} (hg : Gr g) (hl : ∀ x ∈ w, Let g x) (h : Triv g w) (k : Int) : Triv g (Word.turn w k) := by
  rcases gr_cases hg with rfl | rfl
  · unfold Triv at h ⊢
    rw [if_neg (by decide)] at h ⊢
    rw [tot_turn, tot_turn]; exact h
  · exact triv_of (fun x hx => hl x (turn_mem hx)) (Acts.T.turn RA (RA.triv h) k)
theorem triv_sum {g : Int} {w : List Int} (hg : Gr g) (hl : Lets g w) (h : Triv g w) (j : Nat) : tot j w = 0 := by
  rcases gr_cases hg with rfl | rfl
  · unfold Triv at h
    rw [if_neg (by decide)] at h
    match j with
    | 0 => exact h.1
    | 1 => exact h.2
    | j + 2 => exact tot_far hl (by omega)
  · exact triv_tot h j
theorem tot_redStep (j : Nat) (s : List Int) (x : Int) : tot j (redStep s x) = tot j s + wt j x := by
  by_cases hx : s.getLast? = some (-x)
  · rcases Am.snoc_cases s with rfl | ⟨t, y, rfl⟩
    · cases hx
    · simp at hx; subst hx
      rw [Am.redStep_snoc_back, tot_append, tot_one, wt_neg]; omega
  · rw [Am.redStep_on hx, tot_append, tot_one]
theorem tot_red (j : Nat) (l : List Int) : tot j (red l) = tot j l := by
  have key : ∀ (m s : List Int), tot j (m.foldl redStep s) = tot j s + tot j m := by
    intro m
    induction m with
    | nil => intro s; simp [tot]
    | cons x m ih => intro s; rw [List.foldl_cons, ih, tot_redStep, tot_cons]; omega
  rw [red, key]; simp [tot]
theorem tot_cand {g : Int} (hg : Gr g) (t j : Nat) : tot j (cand g t) = 0 := by
  have hr : tot j (Dn.rel g) = 0 := by
    have h1 := wt_neg j 1
    have h2 := wt_neg j 2
    have h3 := wt_neg j 3
    have h4 := wt_neg j 4
    rcases gr_cases hg with rfl | rfl
    · show tot j [1, 2, -1, -2] = 0
      rw [tot_cons, tot_cons, tot_cons, tot_cons, show tot j [] = 0 from rfl]; omega
    · show tot j [1, 2, -1, -2, 3, 4, -3, -4] = 0
      rw [tot_cons, tot_cons, tot_cons, tot_cons, tot_cons, tot_cons, tot_cons, tot_cons, show tot j [] = 0 from rfl]; omega
  unfold cand
  rw [tot_turn]
  split
  · rw [tot_inv, hr]; rfl
  · exact hr
theorem tot_step {g : Int} (hg : Gr g) {w r : List Int} (h : step g w = some r) (j : Nat) : tot j r = tot j w := by
  obtain ⟨i, hi, e⟩ := step_some h
  unfold stepAt at e
  split at e
  · cases e
    have ht := bestTo_take g (w.drop i) (8 * g).toNat
    have hm := bestTo_mem g (w.drop i) (8 * g).toNat
    unfold out
    generalize bestTo g (w.drop i) (8 * g).toNat = p at *
    have hT : tot j (p.2.take p.1) + tot j (p.2.drop p.1) = 0 := by
      rw [← tot_append, List.take_append_drop]
      rcases hm with e | ⟨k, _, e⟩
      · rw [e]; rfl
      · rw [e]; exact tot_cand hg k j
    have hw : w = w.take i ++ ((w.drop i).take p.1 ++ w.drop (i + p.1)) := by
      rw [← List.drop_drop, List.take_append_drop, List.take_append_drop]
    conv => rhs; rw [hw]
    rw [tot_red, tot_append, tot_append, tot_append, tot_append, tot_inv, ht]; omega
  · cases e
/-- A step is shorter, and trivial together with the word. -/
theorem stepW_facts {g : Int} {l r : List Int} (h : stepW g l = some r) : r.length < (Word.reduce l).length ∧ (TrivW g r ↔ TrivW g l) := by
  unfold stepW at h
  split at h
  · rename_i hF
    have hg := hF.1
    have hrd : Word.reduce l = red l := if_pos hF.2.1
    have hlen := step_len hg h
    have hL := step_letters hg hF.red.lets h
    have hFr : Fit g r := Fit.mk hg hL (by have := hF.red.2.1.2; omega)
    refine ⟨by rw [hrd]; exact hlen, ⟨fun ⟨_, h2⟩ => ⟨hF, ?_⟩, fun ⟨_, h2⟩ => ⟨hFr, ?_⟩⟩⟩
    · rcases gr_cases hg with rfl | rfl
      · unfold Triv at h2 ⊢
        rw [if_neg (by decide)] at h2 ⊢
        rwa [tot_step hg h, tot_step hg h, tot_red, tot_red] at h2
      · unfold Triv at h2 ⊢
        rw [if_pos rfl] at h2 ⊢
        rw [dehn_some hg h, ← step_red h]; exact h2
    · rcases gr_cases hg with rfl | rfl
      · unfold Triv at h2 ⊢
        rw [if_neg (by decide)] at h2 ⊢
        rwa [tot_step hg h, tot_step hg h, tot_red, tot_red]
      · unfold Triv at h2 ⊢
        rw [if_pos rfl] at h2 ⊢
        rwa [step_red h, ← dehn_some hg h]
  · cases h
theorem homW_eq {g : Int} {v u : List Int} (hv : Fit g v) (hu : Fit g u) (h : ∀ j, tot j v = tot j u) : homW g v = homW g u := by
  unfold homW
  rw [if_pos hv, if_pos hu, sums_list hv.2.1.1, sums_list hu.2.1.1]
  congr 1
  exact List.map_congr_left fun j _ => h j
theorem homW_zero {g : Int} {l : List Int} (h : TrivW g l) : (homW g l).sum = 0 ∧ ∀ x ∈ homW g l, x = 0 := by
  have key : ∀ x ∈ homW g l, x = 0 := by
    unfold homW
    rw [if_pos h.1, sums_list h.1.2.1.1]
    intro x hx
    obtain ⟨j, _, rfl⟩ := List.mem_map.1 (List.mem_of_mem_take hx)
    exact triv_sum h.1.1 h.1.2.2 h.2 j
  refine ⟨?_, key⟩
  generalize homW g l = L at key
  induction L with
  | nil => rfl
  | cons x L ih =>
    rw [List.sum_cons, ih (fun y hy => key y (List.mem_cons_of_mem _ hy)), key x (List.mem_cons_self ..)]; rfl
theorem trivW_inv {g : Int} {l : List Int} (h : TrivW g l) : TrivW g (Word.inverse l) := by
  rw [show Word.inverse l = Word.inv l from if_pos h.1.2.1]
  exact ⟨h.1.inv, triv_inv h.1.1 h.1.lets h.2⟩
theorem trivW_turn {g : Int} {l : List Int} (h : TrivW g l) (k : Int) : TrivW g (Word.turned l k) := by
  rw [show Word.turned l k = Word.turn l k from if_pos h.1.2.1]
  exact ⟨Fit.mk h.1.1 (fun x hx => h.1.lets x (turn_mem hx)) (by rw [turn_len]; exact h.1.2.1.2), triv_turn h.1.1 h.1.lets h.2 k⟩
theorem equalW_symm {g : Int} {v u : List Int} (h : EqualW g v u) : EqualW g u v ∧ homW g v = homW g u := by
  obtain ⟨h1, h2, h3, h4⟩ := h
  have hl : ∀ x ∈ v ++ Word.inv u, Let g x := fun x hx => by
    rcases List.mem_append.1 hx with h | h
    · exact h1.lets x h
    · exact h2.inv.lets x h
  have h5 := triv_inv h1.1 hl h4
  rw [Am.inv_append, Am.inv_inv] at h5
  refine ⟨⟨h2, h1, by omega, h5⟩, homW_eq h1 h2 fun j => ?_⟩
  have := triv_sum h1.1 (fun x hx => (hl x hx).2) h4 j
  rw [tot_append, tot_inv] at this; omega
theorem trivW_rel : TrivW 1 (Dn.rel 1) ∧ TrivW 2 (Dn.rel 2) := by decide +kernel
theorem commW_one : CommW 1 [1] [1, 1] ∧ CommW 2 [1] [1, 1] := by decide +kernel

/-- Three sheets. -/
def img (x : Int) (s : Nat) : Nat :=
  if x = 1 ∨ x = 4 then (if s = 0 then 1 else if s = 1 then 2 else if s = 2 then 0 else s)
  else if x = -1 ∨ x = -4 then (if s = 0 then 2 else if s = 1 then 0 else if s = 2 then 1 else s)
  else if x = 2 ∨ x = -2 ∨ x = 3 ∨ x = -3 then (if s = 0 then 1 else if s = 1 then 0 else s)
  else s
theorem img_back (x : Int) (s : Nat) : img x (img (-x) s) = s := by
  unfold img
  by_cases h1 : x = 1 ∨ x = 4
  · rw [if_pos h1, if_neg (show ¬ (-x = 1 ∨ -x = 4) by omega), if_pos (show -x = -1 ∨ -x = -4 by omega)]
    by_cases a : s = 0 <;> by_cases b : s = 1 <;> by_cases c : s = 2 <;> simp_all
  · by_cases h2 : x = -1 ∨ x = -4
    · rw [if_neg h1, if_pos h2, if_pos (show -x = 1 ∨ -x = 4 by omega)]
      by_cases a : s = 0 <;> by_cases b : s = 1 <;> by_cases c : s = 2 <;> simp_all
    · by_cases h3 : x = 2 ∨ x = -2 ∨ x = 3 ∨ x = -3
      · rw [if_neg h1, if_neg h2, if_pos h3, if_neg (show ¬ (-x = 1 ∨ -x = 4) by omega), if_neg (show ¬ (-x = -1 ∨ -x = -4) by omega), if_pos (show -x = 2 ∨ -x = -2 ∨ -x = 3 ∨ -x = -3 by omega)]
        by_cases a : s = 0 <;> by_cases b : s = 1 <;> simp_all
      · rw [if_neg h1, if_neg h2, if_neg h3, if_neg (show ¬ (-x = 1 ∨ -x = 4) by omega), if_neg (show ¬ (-x = -1 ∨ -x = -4) by omega), if_neg (show ¬ (-x = 2 ∨ -x = -2 ∨ -x = 3 ∨ -x = -3) by omega)]
theorem img_lt (x : Int) {s : Nat} (h : s < 3) : img x s < 3 := by
  unfold img
  split
  · split
    · omega
    · split
      · omega
      · split <;> omega
  · split
    · split
      · omega
      · split
        · omega
        · split <;> omega
    · split
      · split
        · omega
        · split <;> omega
      · exact h
/-- Letters act inversely here, so that a row of images read from the left is the action of the inverse word. -/
def RP : Acts Nat := ⟨fun x s => img (-x) s, fun s => s < 3, fun x s h => img_lt _ h, fun x s _ => by have := img_back (-x) s; exact this, fun s h => by
  have : s = 0 ∨ s = 1 ∨ s = 2 := by omega
  rcases this with rfl | rfl | rfl <;> decide⟩
theorem RP_on (w : List Int) : ∀ s, RP.on (Word.inv w) s = w.foldl (fun s x => img x s) s := by
  induction w with
  | nil => intro s; rfl
  | cons x w ih =>
    intro s
    rw [Word.inv_cons, RP.on_append, ih]
    show w.foldl _ (img (-(-x)) s) = _
    rw [Int.neg_neg]; rfl
theorem sheets {w : List Int} (h : Triv 2 w) {s : Nat} (hs : s < 3) : w.foldl (fun s x => img x s) s = s := by
  rw [← RP_on]
  exact Acts.T.inv RP (RP.triv h) s hs
end Dn
end Go.Proofs.Ytfaagbmaekoogaa
namespace Go.Proofs.Ytfaagbmaekoogaa
open Go.RowKit

def byteCells (l : List Int) : List Value := l.map (Value.int .u8)
/-- The cursor in block g: the bytes, a place, a number. -/
def CurAt (w : World) (g : Nat) : Prop := ∃ (a : Option Addr) (c : Nat) (l : List Int) (i : Nat) (h : Int), Blk w g 95 #[.slice a l.length c, .int .i64 i, .int .i64 h] ∧ RowAt w a (byteCells l) ∧ (∀ x ∈ l, 0 ≤ x ∧ x ≤ 255) ∧
  i ≤ l.length ∧ l.length ≤ 9223372036854775807 ∧ (byteCells l ≠ [] → ∀ b o, a = some ⟨b, o, none⟩ → b < g)
/-- A number of so many is returned. -/
def Num0 (n : Int) (e : Ending) : Prop := ∃ x : Int, e = .returned (.int .i64 x) ∧ 0 ≤ x ∧ x < n
theorem and_byte (z : Int) : 0 ≤ bits .and .i64 z 255 ∧ bits .and .i64 z 255 < 256 := by
  have h : (BitVec.ofInt 64 z &&& BitVec.ofInt 64 255).toNat ≤ 255 := by
    rw [BitVec.toNat_and]
    exact Nat.and_le_right
  have e : bits .and .i64 z 255 = IntKind.i64.wrap ((BitVec.ofInt 64 z &&& BitVec.ofInt 64 255).toNat : Int) := rfl
  rw [e, IntKind.wrap_i64]
  omega
theorem byteCells_at {w : World} {a : Option Addr} {l : List Int} (h : RowAt w a (byteCells l)) {i : Nat} (hi : i < l.length) : ∃ b o, a = some ⟨b, o, none⟩ ∧ b < w.heap.size ∧ w.cell? ⟨b, o + i, none⟩ = some (.int .u8 l[i]) := by
  obtain ⟨b, o, rfl, hb, hc⟩ := h.at (i := i) (by simpa [byteCells] using hi)
  exact ⟨b, o, rfl, hb, hc i _ (by simp [byteCells, hi])⟩
theorem row_far {w w' : World} {a : Option Addr} {cs : List Value} {g : Nat} (h : RowAt w a cs) (ho : w.grownBy w' (some g)) (hne : cs ≠ [] → ∀ b o, a = some ⟨b, o, none⟩ → b ≠ g) : RowAt w' a cs := by
  rcases h with h | ⟨b, o, rfl, hlt, hc⟩
  · exact Or.inl h
  · by_cases h0 : cs = []
    · exact Or.inl h0
    · exact Or.inr ⟨b, o, rfl, Nat.lt_of_lt_of_le hlt ho.size, fun i v hv => ho.cell (hc i v hv) (fun e => hne h0 b o rfl (by injection e))⟩
theorem only_drewN {a w : World} {row : Option Nat} (h : a.grownBy w row) (n : Nat) : a.grownBy (w.drewN n) row := ⟨h.os, h.tape, h.output, h.size, h.block⟩
theorem only_drew {a w : World} {row : Option Nat} (h : a.grownBy w row) : a.grownBy w.drew row := ⟨h.os, h.tape, h.output, h.size, h.block⟩

set_option maxRecDepth 10000 in
set_option maxHeartbeats 1000000 in
theorem l1Byte (g : Nat) (w : World) (hc : CurAt w g) :
    Calls Try.prog 137 #[.pointer (some ⟨g, 0, none⟩)] w fun e w' => Num0 256 e ∧ CurAt w' g ∧ w.grownBy w' (some g) := by
  obtain ⟨a, c, l, i, h, hk, hr, hl, h1, h2, hne⟩ := hc
  have c0 : w.cell? ⟨g, 0, none⟩ = some (.slice a l.length c) := hk.cell 0
  have c1 : w.cell? ⟨g, 1, none⟩ = some (.int .i64 i) := hk.cell 1
  have c2 : w.cell? ⟨g, 2, none⟩ = some (.int .i64 h) := hk.cell 2
  have f1 := hk.frozen 1
  have f2 := hk.frozen 2
  have Hk := Lib.hid hk; clear hk
  have Hl := Lib.hid hl; have Hne := Lib.hid hne; clear hl hne
  by_cases hlt : i < l.length
  · obtain ⟨b, o, rfl, hbw, hcell⟩ := byteCells_at hr hlt
    have hbg : b ≠ g := Nat.ne_of_lt <| Hne.out (by intro e; rw [byteCells, List.map_eq_nil_iff] at e; rw [e] at hlt; simp at hlt) b o rfl
    have hx := Hl.out l[i] (List.getElem_mem hlt)
    generalize l[i] = x at hcell hx
    have hi0 : (0 : Int) ≤ (i : Int) := by omega
    have hi1 : (i : Int) < (l.length : Int) := by omega
    go_enter Try.func137, Try.ntmps137
    go_wp2
    go_quiet (fail)
    go_wp2
    go_quiet (fail)
    go_wp2
    go_quiet (fail)
    go_wp2
    go_ret
    refine ⟨⟨_, rfl, and_byte _⟩, ⟨some ⟨b, o, none⟩, c, l, i + 1, wrap64 (wrap64 (h * 6364136223846793005) + 1442695040888963407), ?_, row_far hr ?_ (fun h b o e => Nat.ne_of_lt (Hne.out h b o e)), Hl.out, by omega, h2, Hne.out⟩, ?_⟩
    · refine (Blk.put (cs := #[.slice (some ⟨b, o, none⟩) l.length c, .int .i64 i, .int .i64 (wrap64 (wrap64 (h * 6364136223846793005) + 1442695040888963407))]) ?_ 1 _)
      repeat (first | apply Blk.drewN | apply Blk.drew)
      exact Hk.out.put 2 _
    all_goals
      refine only_setCell ?_ (Or.inl rfl) _
      repeat (first | apply only_drewN | apply only_drew)
      exact only_setCell (World.grownBy.refl _ _) (Or.inl rfl) _
  · have hge : (l.length : Int) ≤ (i : Int) := by omega
    go_enter Try.func137, Try.ntmps137
    go_wp2
    go_quiet (fail)
    go_wp2
    go_quiet (fail)
    go_wp2
    go_ret
    refine ⟨⟨_, rfl, and_byte _⟩, ⟨a, c, l, i, wrap64 (wrap64 (h * 6364136223846793005) + 1442695040888963407), ?_, row_far hr ?_ (fun h b o e => Nat.ne_of_lt (Hne.out h b o e)), Hl.out, h1, h2, Hne.out⟩, ?_⟩
    · repeat (first | apply Blk.drewN | apply Blk.drew)
      exact Hk.out.put 2 _
    all_goals
      repeat (first | apply only_drewN | apply only_drew)
      exact only_setCell (World.grownBy.refl _ _) (Or.inl rfl) _
theorem CurAt.lt {w : World} {g : Nat} (h : CurAt w g) : g < w.heap.size := by
  obtain ⟨a, c, l, i, h, hk, _⟩ := h
  exact hk.lt
theorem CurAt.alloc {w : World} {g : Nat} (h : CurAt w g) (o : Obj) : CurAt (w.alloc o) g := by
  obtain ⟨a, c, l, i, h, hk, hr, rest⟩ := h
  exact ⟨a, c, l, i, h, hk.alloc o, hr.below ((Below.refl _ _).alloc (Nat.le_refl _) o), rest⟩
theorem CurAt.below {w w' : World} {g : Nat} (h : CurAt w g) (hb : Below w.heap.size w w') : CurAt w' g := by
  have hlt := h.lt
  obtain ⟨a, c, l, i, h, hk, hr, rest⟩ := h
  exact ⟨a, c, l, i, h, hk.below hb hlt, hr.below hb, rest⟩
/-- The cursor, where what turned lies above it. -/
theorem CurAt.above {w w' : World} {g : Nat} {row : Option Nat} (h : CurAt w g) (hg : w.grownBy w' row) (hr : ∀ k, row = some k → g < k) : CurAt w' g := by
  obtain ⟨a, c, l, i, h, hk, hrow, hl, h1, h2, hne⟩ := h
  refine ⟨a, c, l, i, h, hk.grown hg (fun e => by have := hr g e.symm; omega), ?_, hl, h1, h2, hne⟩
  cases hrw : row with
  | none => exact hrow.below (by subst hrw; exact ⟨hg.os, hg.tape, hg.output, hg.size, fun k hk => hg.block k hk (by simp)⟩)
  | some k => subst hrw; exact row_far hrow hg (fun h b o e => by have := hne h b o e; have := hr k rfl; omega)
/-- What a call over the cursor comes to: its answer, the cursor, nothing else turned. -/
def Drawn (w : World) (g : Nat) (A : Ending → Prop) (e : Ending) (w' : World) : Prop := A e ∧ CurAt w' g ∧ w.grownBy w' (some g)

set_option maxRecDepth 10000 in
set_option maxHeartbeats 1000000 in
theorem l1Below (g : Nat) (n : Int) (w : World) (hc : CurAt w g) (h0 : 0 < n) (hn : n ≤ 4294967296) :
    Calls Try.prog 75 #[.pointer (some ⟨g, 0, none⟩), .int .i64 n] w (Drawn w g (Num0 n)) := by
  have h0' : ¬ n ≤ 0 := by omega
  have hz : ¬ n = 0 := by omega
  have hz1 : (n == 0) = false := by rw [beq_eq_false_iff_ne]; omega
  by_cases h256 : n ≤ 256
  · go_enter Try.func75, Try.ntmps75
    go_wp2_with fail
    refine (l1Byte g w hc).mono ?_
    rintro e w1 ⟨⟨x, rfl, hx0, hx1⟩, hc1, hg1⟩
    go_wp2
    go_ret
    exact ⟨⟨_, rfl, Int.emod_nonneg _ hz, Int.emod_lt_of_pos _ h0⟩, hc1, hg1⟩
  · go_enter Try.func75, Try.ntmps75
    go_wp2_with fail
    refine (l1Byte g w hc).mono ?_
    rintro e w1 ⟨⟨x, rfl, hx0, hx1⟩, hc1, hg1⟩
    go_wp2_with fail
    refine (l1Byte g w1 hc1).mono ?_
    rintro e w2 ⟨⟨y, rfl, hy0, hy1⟩, hc2, hg2⟩
    go_wp2_with fail
    refine (l1Byte g w2 hc2).mono ?_
    rintro e w3 ⟨⟨z, rfl, hz0, hz1⟩, hc3, hg3⟩
    go_wp2_with fail
    refine (l1Byte g w3 hc3).mono ?_
    rintro e w4 ⟨⟨u, rfl, hu0, hu1⟩, hc4, hg4⟩
    go_wp2
    go_ret
    exact ⟨⟨_, rfl, Int.emod_nonneg _ hz, Int.emod_lt_of_pos _ h0⟩, hc4, ((hg1.trans hg2).trans hg3).trans hg4⟩

/-- A new cursor over what stands at a. -/
def NewCur (w : World) (e : Ending) (w' : World) : Prop := ∃ g, e = .returned (.pointer (some ⟨g, 0, none⟩)) ∧ w.heap.size ≤ g ∧ CurAt w' g ∧ Below w.heap.size w w'
set_option maxRecDepth 100000 in
set_option maxHeartbeats 1000000 in
theorem l1New (a : Option Addr) (c : Nat) (l : List Int) (w : World) (ha : RowAt w a (byteCells l)) (hb : ∀ x ∈ l, 0 ≤ x ∧ x ≤ 255) (hsz : l.length ≤ 1048576) :
    Calls Try.prog 73 #[.slice a l.length c] w (NewCur w) := by
  have Hb := Lib.hid hb; clear hb
  have Ha := Lib.hid ha
  go_enter Try.func73, Try.ntmps73
  go_wp2
  go_loop [3, 4] (fun hv iv => ∃ i : Nat, ∃ h : Int, i ≤ l.length ∧ iv = .int .i64 i ∧ hv = .int .i64 h) (fun _ iv => l.length - (intOf iv).toNat)
  case atStart => exact ⟨0, _, by omega, rfl, rfl⟩
  case round =>
    obtain ⟨i, h, hi, rfl, rfl⟩ := hrel
    have fin : NewCur w (.returned (.pointer (some ⟨w.heap.size, 0, none⟩))) (w.alloc (.cells #[.slice a l.length c, .int .i64 0, .int .i64 h] 95)) := by
      have hbl : Below w.heap.size w (w.alloc (.cells #[.slice a l.length c, .int .i64 0, .int .i64 h] 95)) := (Below.refl _ _).alloc (Nat.le_refl _) _
      refine ⟨_, rfl, Nat.le_refl _, ⟨a, c, l, 0, h, Blk.new _ _ _, Ha.out.below hbl, Hb.out, Nat.zero_le _, by omega, fun h0 b o e => ?_⟩, hbl⟩
      rcases Ha.out with he | ⟨b', o', e', hlt, _⟩
      · exact absurd he h0
      · rw [e'] at e
        injection e with e
        injection e with e1 e2
        omega
    have Fin := Lib.hid fin; clear fin
    by_cases hlt : i < l.length
    · obtain ⟨b, o, rfl, hbw, hcell⟩ := byteCells_at ha hlt
      have hx := Hb.out l[i] (List.getElem_mem hlt)
      generalize l[i] = x at hcell hx
      by_cases h4 : i < 4000
      · go_wp2
        go_round
        case rel => exact ⟨i + 1, _, by omega, by go_num, rfl⟩
        case measure => simp [intOf]; omega
      · go_wp2
        go_ret
        exact Fin.out
    · go_wp2
      go_ret
      exact Fin.out

theorem Drawn.trans {w w1 : World} {g : Nat} {A : Ending → Prop} {e : Ending} {w' : World} (h1 : w.grownBy w1 (some g)) (h : Drawn w1 g A e w') : Drawn w g A e w' := ⟨h.1, h.2.1, h1.trans h.2.2⟩

def IsBool (e : Ending) : Prop := ∃ b : Bool, e = .returned (.bool b)
set_option maxRecDepth 10000 in
set_option maxHeartbeats 1000000 in
theorem l1Once (g : Nat) (n : Int) (w : World) (hc : CurAt w g) (h0 : 0 < n) (hn : n ≤ 4294967296) :
    Calls Try.prog 77 #[.pointer (some ⟨g, 0, none⟩), .int .i64 n] w (Drawn w g IsBool) := by
  go_enter Try.func77, Try.ntmps77
  go_wp2_with fail
  refine (l1Below g n w hc h0 hn).mono ?_
  rintro e w1 ⟨⟨x, rfl, hx0, hx1⟩, hc1, hg1⟩
  go_wp2
  go_ret
  exact ⟨⟨_, rfl⟩, hc1, hg1⟩

def OneOf (l : List Value) (e : Ending) : Prop := ∃ v, v ∈ l ∧ e = .returned v
set_option maxRecDepth 10000 in
set_option maxHeartbeats 1000000 in
theorem l1PickInt (g gl c : Nat) (l : List Int) (w : World) (hc : CurAt w g) (hk : Blk w gl 3 (intCells l).toArray) (hne : gl ≠ g) (h0 : 0 < l.length) (hn : l.length ≤ 1000) :
    Calls Try.prog 95 #[.pointer (some ⟨g, 0, none⟩), .slice (some ⟨gl, 0, none⟩) l.length c] w (Drawn w g (OneOf (intCells l))) := by
  go_enter Try.func95, Try.ntmps95
  go_wp2_with fail
  refine (l1Below g l.length w hc (by omega) (by omega)).mono ?_
  rintro e w1 ⟨⟨x, rfl, hx0, hx1⟩, hc1, hg1⟩
  obtain ⟨i, rfl⟩ := Int.eq_ofNat_of_zero_le hx0
  have hi : i < l.length := by omega
  have hcell : w1.cell? ⟨gl, i, none⟩ = some (.int .i64 l[i]) := by
    rw [(hk.grown hg1 (by simpa using hne)).cell i]; simp [intCells, hi]
  have hm : Value.int .i64 l[i] ∈ intCells l := List.mem_map.2 ⟨_, List.getElem_mem hi, rfl⟩
  go_wp2
  go_ret
  exact ⟨⟨_, hm, rfl⟩, hc1, hg1⟩

end Go.Proofs.Ytfaagbmaekoogaa
namespace Go.Proofs.Ytfaagbmaekoogaa
open Go.RowKit

namespace Bytes
/-- The cells of bytes. -/
def cells (l : List UInt8) : List Value := l.map fun b => Value.int .u8 (b.toNat : Int)
theorem cells_snoc (l : List UInt8) (b : UInt8) : cells l ++ [.int .u8 (b.toNat : Int)] = cells (l ++ [b]) := by simp [cells]
theorem conv_own (w : World) (base : Nat) (v : Value) (l : List UInt8) (h : w.ownsRow base 5 1 v l.length (cells l)) :
    (convert 22 9 v).run Try.prog w = .ok (.string ⟨l.toArray⟩) w := by
  obtain ⟨_, ⟨rfl, h0⟩ | ⟨g, cap, cur, rfl, hb, hh, hn, hm, hc, ht⟩⟩ := h
  · obtain rfl : l = [] := List.eq_nil_of_length_eq_zero h0
    rw [run_convert_bytes_string w 22 9 5 none 0 0 Try.underlying22 Try.underlying5 Try.underlying9]; rfl
  · refine run_convert_bytes_back w 22 9 5 ⟨g, 0, none⟩ cap l Try.underlying22 Try.underlying5 Try.underlying9 (fun j hj => ?_)
    have e : (⟨g, 0, none⟩ : Addr).add j = ⟨g, j, none⟩ := by unfold Addr.add; split <;> simp_all
    rw [e, cell_of_row w g j cur _ _ hh]
    have h1 : (cells l)[j]? = some (Value.int .u8 (l[j].toNat : Int)) := by simp [cells, hj]
    rw [← ht, List.getElem?_take] at h1
    rw [if_pos (by simpa using hj)] at h1
    simpa using h1
theorem info : (Try.prog.info? 5).map (fun i => (i.zero, i.size, i.bytes)) = some (some (.int .u8 0), 1, 1) := by kernel_rfl
theorem info_ex : ∃ i, Try.prog.info? 5 = some i ∧ i.zero = some (.int .u8 0) ∧ i.size = 1 ∧ i.bytes = 1 := by
  obtain ⟨i, h1, h2, h3, h4⟩ := info_parts info
  exact ⟨i, h1, h2, h3, h4⟩
theorem make_cap (n : Nat) (hn : n ≤ 1048576) (w : World) : ∃ cs : Array Value, cs.size = n ∧ (Instr.makeSlice 22 (.int .i64 0) (.int .i64 (n : Int))).run Try.prog w = .ok (.slice (some ⟨w.heap.size, 0, none⟩) 0 n) (w.alloc (.cells cs 5)) := by
  obtain ⟨i0, hi, hz0, hz1, hz2⟩ := info_ex
  have h := run_make_rowN (P := Try.prog) 22 5 i0 _ Try.underlying22 hi hz0 .i64 .i64 0 n (Nat.zero_le _) (by rw [hz2]; omega) (by omega) w
  refine ⟨_, ?_, h⟩
  rw [hz1, Nat.mul_one]
  show (madeCells #[Value.int .u8 0] n).size = n
  rw [made_one]; simp
end Bytes
theorem ownB_len {w : World} {base n : Nat} {e : TypeId} {v : Value} {xs : List Value} (h : w.ownsRow base e 1 v n xs) : ∃ a cap, v = .slice a n cap := by
  obtain ⟨_, ⟨h1, rfl⟩ | ⟨g, cap, cur, h1, hg, hh, hle, hmx, hc, ht⟩⟩ := h
  · exact ⟨none, 0, h1⟩
  · exact ⟨_, cap, h1⟩
end Go.Proofs.Ytfaagbmaekoogaa
namespace Go.Proofs.Ytfaagbmaekoogaa
open Go.RowKit

theorem letter_cases {x : Int} (h : Word.Letter x) : x = -8 ∨ x = -7 ∨ x = -6 ∨ x = -5 ∨ x = -4 ∨ x = -3 ∨ x = -2 ∨ x = -1 ∨ x = 1 ∨ x = 2 ∨ x = 3 ∨ x = 4 ∨ x = 5 ∨ x = 6 ∨ x = 7 ∨ x = 8 := by
  obtain ⟨h0, h1, h2⟩ := h; omega
theorem text_take {l : List Int} {i : Nat} (h : i < l.length) : Word.text (l.take (i + 1)) = Word.text (l.take i) ++ [Word.low l[i]] := by
  unfold Word.text
  rw [List.take_succ_eq_append_getElem h, List.map_append]; rfl
theorem text_len (l : List Int) : (Word.text l).length = l.length := by simp [Word.text]
/-- The text of the letters. -/
def txt (l : List Int) : ByteArray := ⟨(Word.text l).toArray⟩
theorem txt_nil : txt [] = ⟨#[]⟩ := rfl
theorem txt_size (l : List Int) : (txt l).size = l.length := by
  show (Word.text l).toArray.size = _
  simp [text_len]
theorem txt_step {l : List Int} {i : Nat} (h : i < l.length) {s : ByteArray} (hs : s = ⟨#[Word.low l[i]]⟩) : txt (l.take i) ++ s = txt (l.take (i + 1)) := by
  rw [hs]
  apply ByteArray.ext
  unfold txt
  rw [text_take h]
  simp
theorem cut_low (j : Nat) (hj : j < 8) : ByteArray.extract ⟨#[97, 98, 99, 100, 101, 102, 103, 104]⟩ j (j + 1) = ⟨#[Word.low ((j : Int) + 1)]⟩ := by
  rcases (by omega : j = 0 ∨ j = 1 ∨ j = 2 ∨ j = 3 ∨ j = 4 ∨ j = 5 ∨ j = 6 ∨ j = 7) with rfl | rfl | rfl | rfl | rfl | rfl | rfl | rfl <;> rfl
theorem cut_up (j : Nat) (hj : j < 8) : ByteArray.extract ⟨#[65, 66, 67, 68, 69, 70, 71, 72]⟩ j (j + 1) = ⟨#[Word.low (-((j : Int) + 1))]⟩ := by
  rcases (by omega : j = 0 ∨ j = 1 ∨ j = 2 ∨ j = 3 ∨ j = 4 ∨ j = 5 ∨ j = 6 ∨ j = 7) with rfl | rfl | rfl | rfl | rfl | rfl | rfl | rfl <;> rfl
theorem said_text {l : List Int} (h : Word.IsW l) (hn : l.length ≠ 0) : Word.said l = Word.text l := by
  rw [Word.said, if_pos h, if_neg (by intro e; rw [e] at hn; exact hn rfl)]
theorem said_not {l : List Int} (h : ¬ Word.IsW l) : Word.said l = [] := if_neg h
theorem said_nil : Word.said [] = [45] := by
  rw [Word.said, if_pos ⟨(fun _ h => by cases h), by decide⟩, if_pos rfl]




end Go.Proofs.Ytfaagbmaekoogaa
namespace Go.Proofs.Ytfaagbmaekoogaa
open Go.RowKit

/-- Some integers in memory of the call's own; the cursor goes on. -/
def Bent (w : World) (g most : Nat) (A : List Int → Prop) (e : Ending) (w' : World) : Prop := ∃ v l, e = .returned v ∧ w'.ownsRow w.heap.size 3 1 v (l : List Int).length (intCells l) ∧ l.length ≤ most ∧ A l ∧ CurAt w' g ∧ w.grownBy w' (some g)
theorem Bent.row {w w' : World} {g most : Nat} {A : List Int → Prop} {e : Ending} (h : Bent w g most A e w') : ∃ a c l, e = .returned (.slice a (l : List Int).length c) ∧ l.length ≤ c ∧ RowAt w' a (intCells l) ∧ l.length ≤ most ∧ A l ∧ CurAt w' g ∧ w.grownBy w' (some g) := by
  obtain ⟨v, l, rfl, ho, hm, hA, hc, hg⟩ := h
  obtain ⟨a, c, rfl, hle, hf⟩ := own_fresh ho (intCells_len l)
  exact ⟨a, c, l, rfl, hle, hf.row, hm, hA, hc, hg⟩
theorem grown_both {w wr w1 : World} {g : Nat} {row : Option Nat} (hg : w.grownBy wr (some g)) (h1 : wr.grownBy w1 row) (hr : ∀ k, row = some k → w.heap.size ≤ k) : w.grownBy w1 (some g) :=
  ⟨h1.os.trans hg.os, h1.tape.trans hg.tape, h1.output.trans hg.output, Nat.le_trans hg.size h1.size, fun i hi hne => (h1.block i (Nat.lt_of_lt_of_le hi hg.size) (fun e => by have := hr i e.symm; omega)).trans (hg.block i hi hne)⟩

theorem own_cur {w w' : World} {base n g : Nat} {e : TypeId} {v : Value} {xs : List Value} (h : w.ownsRow base e 1 v n xs) (hg : w.grownBy w' (some g)) (hgl : g < base) : w'.ownsRow base e 1 v n xs :=
  h.kept hg (by
    rcases h.2 with ⟨hv, _⟩ | ⟨k, cap, cur, hv, hk, _⟩
    · left; rw [hv]; rfl
    · right; rw [hv]; simp [Value.ownBlock]; omega)
def sliceLen' : Value → Nat
  | .slice _ n _ => n
  | _ => 0
def Small (l : List Int) : Prop := ∀ x ∈ l, -9 ≤ x ∧ x ≤ 9

set_option maxRecDepth 10000 in
set_option maxHeartbeats 1000000 in
theorem l2Draw (g most : Nat) (letters m : Int) (w : World) (hc : CurAt w g) (hl1 : 1 ≤ letters) (hl8 : letters ≤ 8) (hm : most ≤ 100) (hmm : m = (most : Int)) :
    Calls Try.prog 125 #[.pointer (some ⟨g, 0, none⟩), .int .i64 letters, .int .i64 m] w (Bent w g most (fun l => ∀ x ∈ l, Word.Letter x)) := by
  obtain ⟨i0, hi0, hz0, hz1, hz2⟩ := info_int_parts
  have Hi0 := Lib.hid hi0; have Hz0 := Lib.hid hz0; have Hz1 := Lib.hid hz1; have Hz2 := Lib.hid hz2
  clear hi0 hz0 hz1 hz2
  have Hmm := Lib.hid hmm
  have hm0 : 0 ≤ m := by omega
  have hm1 : m ≤ 100 := by omega
  clear hmm
  have hgl := hc.lt
  have hc1 : CurAt (w.alloc (.cells #[] 3)) g := hc.alloc _
  have hg1 : w.grownBy (w.alloc (.cells #[] 3)) (some g) := only_of_below ((Below.refl _ w).alloc (Nat.le_refl _) _) _
  go_enter Try.func125, Try.ntmps125
  go_wp2_with fail
  refine (l1Below g (m + 1) _ hc1 (by omega) (by omega)).mono ?_
  rintro e w1 ⟨⟨n0, rfl, hn0, hn1⟩, hc1', hg1'⟩
  have ho := (own_made (w := w) rfl).kept hg1' (.inr (by simp [Value.ownBlock]; omega))
  have hgw := hg1.trans hg1'
  go_wp2
  go_loopw [7, 8, 9] (fun ov nv _ wr => ∃ (r : Nat) (l : List Int), nv = .int .i64 r ∧ r + l.length ≤ most ∧ wr.ownsRow w.heap.size 3 1 ov l.length (intCells l) ∧ Hid (∀ x ∈ l, Word.Letter x) ∧ Hid (CurAt wr g ∧ w.grownBy wr (some g))) (fun _ nv _ _ => (intOf nv).toNat)
  case atStart => exact ⟨n0.toNat, [], by rw [show ((n0.toNat : Nat) : Int) = n0 from by omega], by have := Hmm.out; simp; omega, ho, Lib.hid (fun _ h => by cases h), Lib.hid ⟨hc1', hgw⟩⟩
  case round =>
    obtain ⟨r, l, rfl, hrl, hown, hL, hcg⟩ := hrel
    obtain ⟨av, cv, rfl⟩ := own_len hown
    by_cases hr : r = 0
    · subst hr
      have Hown := Lib.hid hown; clear hown
      go_wp2
      go_ret
      exact ⟨_, l, rfl, Hown.out, by omega, hL.out, hcg.out.1, hcg.out.2⟩
    · have hr' : (0 : Int) < (r : Int) := by omega
      have hsz0 : w.heap.size ≤ wr.heap.size := hcg.out.2.size
      have Hown := Lib.hid hown; clear hown
      go_wp2_with fail
      refine (l1Below g letters wr hcg.out.1 (by omega) (by omega)).mono ?_
      rintro e w2 ⟨⟨x, rfl, hx0, hx1⟩, hc2, hg2⟩
      have hown2 := own_cur Hown.out hg2 hgl
      have Hown2 := Lib.hid hown2; clear hown2 Hown
      go_wp2_with fail
      refine (l1Once g 2 w2 hc2 (by omega) (by omega)).mono ?_
      rintro e w3 ⟨⟨neg, rfl⟩, hc3, hg3⟩
      have hown3 := own_cur Hown2.out hg3 hgl
      have hgw3 := (hcg.out.2.trans hg2).trans hg3
      have Hgw3 := Lib.hid hgw3; have Hc3 := Lib.hid hc3
      have hNle : w.heap.size ≤ w3.heap.size := hgw3.size
      have hq1 : l.length + 1 ≤ maxLen := by unfold maxLen; omega
      have hq2 : (l.length + 1) * 8 ≤ 140737488355328 := by omega
      clear hgw3 hc3 hc2 hg2 hg3 Hown2
      cases neg with
      | false =>
        go_wp2_with (at_builtin; refine append_one rfl (.tmp 27) (.tmp 29) 42 rfl w.heap.size 3 i0 _ 8 Try.underlying42 Hi0.out Hz0.out Hz1.out Hz2.out (by rfl) _ _ _ rfl hown3 (by rfl) _ rfl hq1 hq2 hNle ?_; intro v1 w4 hown4 hg4 _)
        go_roundw
        case rel =>
          have hrow : ∀ k, (Value.slice av l.length cv).ownBlock = some k → w.heap.size ≤ k := fun k hk => (hown3.lt k hk).1
          refine ⟨r - 1, l ++ [1 + x], by go_num, by simp; omega, ?_, Lib.hid ?_, Lib.hid ⟨(Hc3.out.alloc _).above hg4 (fun k hk => by have := hrow k hk; omega), grown_both (Hgw3.out.trans (World.grownBy_alloc _ _ _)) hg4 hrow⟩⟩
          · rw [List.length_append, ← intCells_snoc]; exact hown4
          · intro y hy
            rcases List.mem_append.1 hy with h | h
            · exact hL.out y h
            · simp at h; rw [h, Word.letter_iff]; omega
        case measure => simp [intOf]; omega
      | true =>
        go_wp2_with (at_builtin; refine append_one rfl (.tmp 27) (.tmp 29) 42 rfl w.heap.size 3 i0 _ 8 Try.underlying42 Hi0.out Hz0.out Hz1.out Hz2.out (by rfl) _ _ _ rfl hown3 (by rfl) _ rfl hq1 hq2 hNle ?_; intro v1 w4 hown4 hg4 _)
        go_roundw
        case rel =>
          have hrow : ∀ k, (Value.slice av l.length cv).ownBlock = some k → w.heap.size ≤ k := fun k hk => (hown3.lt k hk).1
          refine ⟨r - 1, l ++ [-(1 + x)], by go_num, by simp; omega, ?_, Lib.hid ?_, Lib.hid ⟨(Hc3.out.alloc _).above hg4 (fun k hk => by have := hrow k hk; omega), grown_both (Hgw3.out.trans (World.grownBy_alloc _ _ _)) hg4 hrow⟩⟩
          · rw [List.length_append, ← intCells_snoc]; exact hown4
          · intro y hy
            rcases List.mem_append.1 hy with h | h
            · exact hL.out y h
            · simp at h; rw [h, Word.letter_iff]; omega
        case measure => simp [intOf]; omega

end Go.Proofs.Ytfaagbmaekoogaa
namespace Go.Proofs.Ytfaagbmaekoogaa
open Go.RowKit

/-- append of a row of integers to a row of the call's own, and where the row lies then. -/
theorem append_rowN {ops : Array Oper} {rest : List Oper} {o : Oper} {a : Act} {Q : Exit → Act → World → Prop} {W : World} (hgd : o.guard = none) (s x : Operand)
    (ho : o.op = .call { callee := .builtin .append, args := #[s, x], argTypes := #[42, 42] })
    (N : Nat) (l m : List Int) (ov : Value) (hs : a.eval s = ov) (h : W.ownsRow N 3 1 ov l.length (intCells l)) (ad : Option Addr) (c : Nat) (hx : a.eval x = .slice ad m.length c) (hr : RowAt W ad (intCells m)) (hN : N ≤ W.heap.size) (hlen : l.length + m.length ≤ 4194304) (r : List Int) (hlm : l ++ m = r)
    (k : ∀ av cv w', w'.ownsRow N 3 1 (.slice av r.length cv) r.length (intCells r) → W.grownBy w' ov.ownBlock → ((Value.slice av r.length cv).ownBlock = ov.ownBlock ∨ (Value.slice av r.length cv).ownBlock = some W.heap.size) → wpList Try.prog ops Q rest (a.put o.dst (.slice av r.length cv)) w') : wpList Try.prog ops Q (o :: rest) a W := by
  subst hlm
  obtain ⟨i0, hi0, hz0, hz1, hz2⟩ := info_int_parts
  have hap : intCells (l ++ m) = intCells l ++ intCells m := by simp [intCells]
  rcases hr with he | ⟨b, off, rfl, hlt, hc⟩
  · obtain rfl : m = [] := by simpa [intCells] using he
    have hv : ∃ bo cap, ov = .slice bo l.length cap ∧ l.length ≤ cap := by
      obtain ⟨_, ⟨h1, h2⟩ | ⟨g, cap, cur, h1, _, _, hle, _⟩⟩ := h
      · exact ⟨none, 0, by rw [h1, h2], by omega⟩
      · exact ⟨_, cap, h1, hle⟩
    obtain ⟨bo, cap, rfl, hle⟩ := hv
    have hsrc : Src Try.prog i0.size 42 (.slice ad 0 c) 0 [] W := by
      cases ad with
      | none => exact Src.ofNil W Try.underlying42 c
      | some ad => exact Src.ofSlice W Try.underlying42 ad 0 c [] (by simp) (fun j u hj => by simp at hj) (fun _ h => by cases h)
    refine Lib.wpList_append_run_sl W hgd s x 42 ho _ _ hs hx (run_append_nothing W 42 42 o.type 3 i0 Try.underlying42 hi0 bo l.length cap hle _ hsrc) ?_
    have e : (l ++ ([] : List Int)).length = l.length := by simp
    have := k bo cap W (by rw [List.append_nil]; exact h) (World.grownBy.refl _ _) (by rw [e]; exact Or.inl rfl)
    rw [e] at this; exact this
  · have hadd : ∀ j, (⟨b, off, none⟩ : Addr).add j = ⟨b, off + j, none⟩ := fun j => by unfold Addr.add; split <;> simp_all
    refine wpList_append_new hgd s x 42 ho N 3 i0 _ 1 8 Try.underlying42 hi0 hz0 hz1 hz2 (by rfl) (by decide) ov l.length (intCells l) hs h ⟨b, off, none⟩ m.length c (intCells m) hx (by rw [intCells_len, Nat.mul_one]) (fun j u hj => by rw [hadd]; exact hc j u hj) (intCells_one m) (by unfold maxLen; omega) (by omega) hN ?_
    intro v' w' hown hg hloc
    have hown' : w'.ownsRow N 3 1 v' (l ++ m).length (intCells (l ++ m)) := by rw [List.length_append, hap]; exact hown
    obtain ⟨av, cv, rfl⟩ := own_len hown'
    exact k av cv w' hown' hg hloc

/-- The cursor goes on, nothing else that was there has turned. -/
def CurG (w : World) (g : Nat) (W : World) : Prop := CurAt W g ∧ w.grownBy W (some g)
theorem CurG.drawn {w W W' : World} {g : Nat} (h : CurG w g W) (hc : CurAt W' g) (hg : W.grownBy W' (some g)) : CurG w g W' := ⟨hc, h.2.trans hg⟩
theorem CurG.below {w W W' : World} {g : Nat} (h : CurG w g W) (hb : Below W.heap.size W W') : CurG w g W' := ⟨h.1.below hb, h.2.trans (only_of_below hb _)⟩
theorem CurG.alloc {w W : World} {g : Nat} (h : CurG w g W) (o : Obj) : CurG w g (W.alloc o) := h.below ((Below.refl _ _).alloc (Nat.le_refl _) _)
theorem CurG.row {w W W' : World} {g : Nat} {row : Option Nat} (h : CurG w g W) (hg : W.grownBy W' row) (hgw : g < w.heap.size) (hr : ∀ k, row = some k → w.heap.size ≤ k) : CurG w g W' :=
  ⟨h.1.above hg (fun k hk => by have := hr k hk; omega), grown_both h.2 hg hr⟩
theorem CurG.size {w W : World} {g : Nat} (h : CurG w g W) : w.heap.size ≤ W.heap.size := h.2.size
/-- A row of the call's own stays where another's block turns. -/
theorem own_off {w w' : World} {base n : Nat} {row : Option Nat} {e : TypeId} {v : Value} {xs : List Value} (h : w.ownsRow base e 1 v n xs) (hg : w.grownBy w' row) (hne : ∀ k, v.ownBlock = some k → row ≠ some k) : w'.ownsRow base e 1 v n xs :=
  h.kept hg (by
    cases hvb : v.ownBlock with
    | none => exact .inl rfl
    | some k => exact .inr fun e => hne k hvb e.symm)
theorem own_below {w w' : World} {base n : Nat} {e : TypeId} {v : Value} {xs : List Value} (h : w.ownsRow base e 1 v n xs) (hb : Below w.heap.size w w') : w'.ownsRow base e 1 v n xs :=
  own_keep h hb (fun k hk => (h.lt k hk).2)
theorem own_at {w : World} {base c : Nat} {e : TypeId} {a : Option Addr} {l : List Int} (h : w.ownsRow base e 1 (.slice a l.length c) l.length (intCells l)) : RowAt w a (intCells l) := by
  obtain ⟨a', c', h1, _, hf⟩ := own_fresh h (intCells_len l)
  injection h1 with h1
  rw [h1]; exact hf.row
theorem own_cap {w : World} {base c : Nat} {e : TypeId} {a : Option Addr} {l : List Int} (h : w.ownsRow base e 1 (.slice a l.length c) l.length (intCells l)) : l.length ≤ c := by
  obtain ⟨a', c', h1, hle, _⟩ := own_fresh h (intCells_len l)
  injection h1 with _ _ h1
  rw [h1]; exact hle

/-- A number and a word. -/
def DrawnGW (w : World) (g : Nat) (e : Ending) (w' : World) : Prop := ∃ (G : Int) (a : Option Addr) (c : Nat) (l : List Int), e = .returned (.tuple #[.int .i64 G, .slice a l.length c]) ∧ -10 ≤ G ∧ G ≤ 10 ∧ RowAt w' a (intCells l) ∧ l.length ≤ 100 ∧ l.length ≤ c ∧ CurG w g w'
set_option maxRecDepth 100000 in
set_option maxHeartbeats 8000000 in
theorem l8Draw (g : Nat) (w : World) (hc : CurAt w g) :
    Calls Try.prog 118 #[.pointer (some ⟨g, 0, none⟩)] w (DrawnGW w g) := by
  have hgw := hc.lt
  have Hcur := Lib.hid (show CurG w g w from ⟨hc, World.grownBy.refl _ _⟩)
  go_enter Try.func118, Try.ntmps118
  go_wp2_with fail
  refine (l1Below g 2 w hc (by omega) (by omega)).mono ?_
  rintro e w1 ⟨⟨G0, rfl, hG0, hG1⟩, hc1, hg1⟩
  have Hcur1 := Lib.hid ((Hcur.out.drawn hc1 hg1).alloc (.cells #[] 3))
  have Hown1 := Lib.hid (own_mono (own_made (w := w1) rfl) hg1.size)
  clear hc1 hg1 hc
  go_wp2_with fail
  refine (l1Below g 3 _ Hcur1.out.1 (by omega) (by omega)).mono ?_
  rintro e w2 ⟨⟨n0, rfl, hn0, hn1⟩, hc2, hg2⟩
  have Hown2 := Lib.hid (own_cur Hown1.out hg2 hgw)
  have Hcur2 := Lib.hid (Hcur1.out.drawn hc2 hg2)
  clear hc2 hg2
  have hGr : Dn.Gr (1 + G0) := by unfold Dn.Gr; omega
  have hK0 : 1 ≤ 1 + G0 := by omega
  have hK1 : 1 + G0 ≤ 2 := by omega
  clear hG0 hG1
  generalize 1 + G0 = K at *
  go_wp2
  go_loopw [5, 6, 7, 8] (fun ov nv _ _ wr => ∃ (r : Nat) (l : List Int) (oa : Option Addr) (oc : Nat), nv = .int .i64 r ∧ ov = .slice oa l.length oc ∧ 12 * r + l.length ≤ 24 ∧ Hid (wr.ownsRow w.heap.size 3 1 (.slice oa l.length oc) l.length (intCells l) ∧ CurG w g wr)) (fun _ nv _ _ _ => (intOf nv).toNat)
  case atStart => exact ⟨n0.toNat, [], _, _, by rw [show ((n0.toNat : Nat) : Int) = n0 from by omega], rfl, by simp; omega, Lib.hid ⟨Hown2.out, Hcur2.out⟩⟩
  case round =>
    obtain ⟨r, l, oa, oc, rfl, rfl, hrl, hh⟩ := hrel
    by_cases hr : r = 0
    · subst hr
      have hl24 : l.length ≤ 24 := by omega
      have Ho := Lib.hid hh.out.1; have Hc := Lib.hid hh.out.2
      clear hh hrl
      go_wp2_with fail
      refine (l1Once g 2 wr Hc.out.1 (by omega) (by omega)).mono ?_
      rintro e w3 ⟨⟨once, rfl⟩, hc3, hg3⟩
      have Ho3 := Lib.hid (own_cur Ho.out hg3 hgw); have Hc3 := Lib.hid (Hc.out.drawn hc3 hg3)
      clear hc3 hg3
      cases once with
      | false =>
        have d24 : decide ((24 : Int) < (l.length : Int)) = false := decide_eq_false (by omega)
        have d24n : decide (24 < l.length) = false := decide_eq_false (by omega)
        go_wp2_with fail
        refine (l1Below g 20 w3 Hc3.out.1 (by omega) (by omega)).mono ?_
        rintro e w7 ⟨⟨z, rfl, hz0, hz1⟩, hc7, hg7⟩
        have Ho7 := Lib.hid (own_cur Ho3.out hg7 hgw); have Hc7 := Lib.hid (Hc3.out.drawn hc7 hg7)
        clear hc7 hg7
        by_cases h0 : z = 0
        · have t0 : (z == 0) = true := beq_iff_eq.2 h0
          have hg8 := Hc7.out.1.lt
          go_wp2_with fail
          refine (l1PickInt g w7.heap.size 3 [0, 3, 1] _ (Hc7.out.1.alloc _) (Blk.new _ _ _) (by omega) (by decide) (by decide)).mono ?_
          rintro e w8 ⟨⟨u, hu, rfl⟩, hc8, hg8'⟩
          have hz : ∃ z : Int, u = .int .i64 z ∧ -10 ≤ z ∧ z ≤ 10 := by
            simp only [intCells, List.map_cons, List.map_nil, List.mem_cons, List.mem_nil_iff, or_false] at hu
            rcases hu with rfl | rfl | rfl
            · exact ⟨0, rfl, by omega, by omega⟩
            · exact ⟨3, rfl, by omega, by omega⟩
            · exact ⟨1, rfl, by omega, by omega⟩
          obtain ⟨y, rfl, hy0, hy1⟩ := hz
          have Ho8 := Lib.hid (own_cur (Ho7.out.alloc _) hg8' hgw); have Hc8 := Lib.hid ((Hc7.out.alloc _).drawn hc8 hg8')
          clear hu hc8 hg8'
          go_wp2
          go_ret2
          exact ⟨y, oa, oc, l, rfl, hy0, hy1, own_at Ho8.out, by omega, own_cap Ho8.out, Hc8.out⟩
        · have t0 : (z == 0) = false := beq_eq_false_iff_ne.2 h0
          by_cases h1 : z = 1
          · have t1 : (z == 1) = true := beq_iff_eq.2 h1
            have hg8 := Hc7.out.1.lt
            go_wp2_with fail
            refine (l1PickInt g w7.heap.size 3 [3, 5, 9] _ (Hc7.out.1.alloc _) (Blk.new _ _ _) (by omega) (by decide) (by decide)).mono ?_
            rintro e w8 ⟨⟨u, hu, rfl⟩, hc8, hg8'⟩
            have hz : ∃ z : Int, u = .int .i64 z := by
              simp only [intCells, List.map_cons, List.map_nil, List.mem_cons, List.mem_nil_iff, or_false] at hu
              rcases hu with rfl | rfl | rfl
              · exact ⟨3, rfl⟩
              · exact ⟨5, rfl⟩
              · exact ⟨9, rfl⟩
            obtain ⟨y, rfl⟩ := hz
            have Ho8 := Lib.hid ((own_cur (Ho7.out.alloc _) hg8' hgw).alloc (.cells #[.int .i64 y] 3)); have Hc8 := Lib.hid (((Hc7.out.alloc _).drawn hc8 hg8').alloc (.cells #[.int .i64 y] 3))
            have Hl8 := Lib.hid (show RowAt (w8.alloc (.cells #[.int .i64 y] 3)) (some ⟨w8.heap.size, 0, none⟩) (intCells [y]) from (Blk.new w8 3 #[.int .i64 y]).row)
            obtain ⟨Y, hY⟩ : ∃ Y, l ++ [y] = Y := ⟨_, rfl⟩
            have hYl : Y.length ≤ 29 := by rw [← hY, List.length_append]; simp; omega
            have HY := Lib.hid hY
            clear hu hc8 hg8' hY
            go_wp2_with (at_builtin; refine append_rowN rfl (.tmp 62) (.tmp 66) rfl w.heap.size l [y] _ rfl Ho8.out _ _ rfl Hl8.out Hc8.out.size (by simp; omega) Y HY.out ?_; intro a9 c9 w9 hown9 hg9 hl9)
            have Ho9 := Lib.hid hown9; have Hc9 := Lib.hid (Hc8.out.row hg9 hgw (fun k hk => (Ho8.out.lt k hk).1))
            clear hown9 hg9 hl9
            go_ret2
            exact ⟨K, a9, c9, Y, rfl, by omega, by omega, own_at Ho9.out, by omega, own_cap Ho9.out, Hc9.out⟩
          · have t1 : (z == 1) = false := beq_eq_false_iff_ne.2 h1
            go_wp2
            go_ret2
            exact ⟨K, oa, oc, l, rfl, by omega, by omega, own_at Ho7.out, by omega, own_cap Ho7.out, Hc7.out⟩
      | true =>
        go_wp2_with fail
        refine (l2Draw g 4 (2 * K) 4 w3 Hc3.out.1 (by omega) (by omega) (by omega) rfl).mono ?_
        rintro e w4 ⟨xv, x, rfl, hownx, hx2, hxL, hc4, hg4⟩
        obtain ⟨xa, xc, rfl⟩ := own_len hownx
        have Hx4 := Lib.hid (own_at hownx)
        have Ho4 := Lib.hid (own_cur Ho3.out hg4 hgw); have Hc4 := Lib.hid (Hc3.out.drawn hc4 hg4)
        clear hownx hc4 hg4 hxL
        obtain ⟨m, hm⟩ : ∃ m, l ++ x = m := ⟨_, rfl⟩
        have hml : m.length ≤ 28 := by rw [← hm, List.length_append]; omega
        have Hm := Lib.hid hm
        clear hm
        by_cases h24 : m.length ≤ 24
        · have d24 : decide ((24 : Int) < (m.length : Int)) = false := decide_eq_false (by omega)
          have d24n : decide (24 < m.length) = false := decide_eq_false (by omega)
          go_wp2_with (at_builtin; refine append_rowN rfl (.tmp 42) (.tmp 46) rfl w.heap.size l x _ rfl Ho4.out xa _ rfl Hx4.out Hc4.out.size (by omega) m Hm.out ?_; intro a5 c5 w5 hown5 hg5 hl5; have Ho5 := Lib.hid hown5; have Hc5 := Lib.hid (Hc4.out.row hg5 hgw (fun k hk => (Ho4.out.lt k hk).1)); clear hown5 hg5 hl5)
          go_wp2_with fail
          refine (l1Below g 20 w5 Hc5.out.1 (by omega) (by omega)).mono ?_
          rintro e w7 ⟨⟨z, rfl, hz0, hz1⟩, hc7, hg7⟩
          have Ho7 := Lib.hid (own_cur Ho5.out hg7 hgw); have Hc7 := Lib.hid (Hc5.out.drawn hc7 hg7)
          clear hc7 hg7
          by_cases h0 : z = 0
          · have t0 : (z == 0) = true := beq_iff_eq.2 h0
            have hg8 := Hc7.out.1.lt
            go_wp2_with fail
            refine (l1PickInt g w7.heap.size 3 [0, 3, 1] _ (Hc7.out.1.alloc _) (Blk.new _ _ _) (by omega) (by decide) (by decide)).mono ?_
            rintro e w8 ⟨⟨u, hu, rfl⟩, hc8, hg8'⟩
            have hz : ∃ z : Int, u = .int .i64 z ∧ -10 ≤ z ∧ z ≤ 10 := by
              simp only [intCells, List.map_cons, List.map_nil, List.mem_cons, List.mem_nil_iff, or_false] at hu
              rcases hu with rfl | rfl | rfl
              · exact ⟨0, rfl, by omega, by omega⟩
              · exact ⟨3, rfl, by omega, by omega⟩
              · exact ⟨1, rfl, by omega, by omega⟩
            obtain ⟨y, rfl, hy0, hy1⟩ := hz
            have Ho8 := Lib.hid (own_cur (Ho7.out.alloc _) hg8' hgw); have Hc8 := Lib.hid ((Hc7.out.alloc _).drawn hc8 hg8')
            clear hu hc8 hg8'
            go_wp2
            go_ret2
            exact ⟨y, a5, c5, m, rfl, hy0, hy1, own_at Ho8.out, by omega, own_cap Ho8.out, Hc8.out⟩
          · have t0 : (z == 0) = false := beq_eq_false_iff_ne.2 h0
            by_cases h1 : z = 1
            · have t1 : (z == 1) = true := beq_iff_eq.2 h1
              have hg8 := Hc7.out.1.lt
              go_wp2_with fail
              refine (l1PickInt g w7.heap.size 3 [3, 5, 9] _ (Hc7.out.1.alloc _) (Blk.new _ _ _) (by omega) (by decide) (by decide)).mono ?_
              rintro e w8 ⟨⟨u, hu, rfl⟩, hc8, hg8'⟩
              have hz : ∃ z : Int, u = .int .i64 z := by
                simp only [intCells, List.map_cons, List.map_nil, List.mem_cons, List.mem_nil_iff, or_false] at hu
                rcases hu with rfl | rfl | rfl
                · exact ⟨3, rfl⟩
                · exact ⟨5, rfl⟩
                · exact ⟨9, rfl⟩
              obtain ⟨y, rfl⟩ := hz
              have Ho8 := Lib.hid ((own_cur (Ho7.out.alloc _) hg8' hgw).alloc (.cells #[.int .i64 y] 3)); have Hc8 := Lib.hid (((Hc7.out.alloc _).drawn hc8 hg8').alloc (.cells #[.int .i64 y] 3))
              have Hl8 := Lib.hid (show RowAt (w8.alloc (.cells #[.int .i64 y] 3)) (some ⟨w8.heap.size, 0, none⟩) (intCells [y]) from (Blk.new w8 3 #[.int .i64 y]).row)
              obtain ⟨Y, hY⟩ : ∃ Y, m ++ [y] = Y := ⟨_, rfl⟩
              have hYl : Y.length ≤ 29 := by rw [← hY, List.length_append]; simp; omega
              have HY := Lib.hid hY
              clear hu hc8 hg8' hY
              go_wp2_with (at_builtin; refine append_rowN rfl (.tmp 62) (.tmp 66) rfl w.heap.size m [y] _ rfl Ho8.out _ _ rfl Hl8.out Hc8.out.size (by simp; omega) Y HY.out ?_; intro a9 c9 w9 hown9 hg9 hl9)
              have Ho9 := Lib.hid hown9; have Hc9 := Lib.hid (Hc8.out.row hg9 hgw (fun k hk => (Ho8.out.lt k hk).1))
              clear hown9 hg9 hl9
              go_ret2
              exact ⟨K, a9, c9, Y, rfl, by omega, by omega, own_at Ho9.out, by omega, own_cap Ho9.out, Hc9.out⟩
            · have t1 : (z == 1) = false := beq_eq_false_iff_ne.2 h1
              go_wp2
              go_ret2
              exact ⟨K, a5, c5, m, rfl, by omega, by omega, own_at Ho7.out, by omega, own_cap Ho7.out, Hc7.out⟩
        · have d24 : decide ((24 : Int) < (m.length : Int)) = true := decide_eq_true (by omega)
          have d24n : decide (24 < m.length) = true := decide_eq_true (by omega)
          go_wp2_with (at_builtin; refine append_rowN rfl (.tmp 42) (.tmp 46) rfl w.heap.size l x _ rfl Ho4.out xa _ rfl Hx4.out Hc4.out.size (by omega) m Hm.out ?_; intro a5 c5 w5 hown5 hg5 hl5; have hc5c := own_cap hown5; have hc24 : 24 ≤ c5 := (by omega); have hc24i : (24 : Int) ≤ (c5 : Int) := (by omega); have Ho5 := Lib.hid hown5; have Hc5 := Lib.hid (Hc4.out.row hg5 hgw (fun k hk => (Ho4.out.lt k hk).1)); clear hown5 hg5 hl5)
          obtain ⟨gb, gcap, hgf, hgle, hgm⟩ := own_form Ho5.out (by omega)
          injection hgf with hgf1 hgf2 hgf3
          subst hgf1
          subst hgf3
          obtain ⟨M2, hM2⟩ : ∃ M2, m.take 24 = M2 := ⟨_, rfl⟩
          have hM2l : M2.length = 24 := by rw [← hM2, List.length_take]; omega
          have HoT := Lib.hid (show w5.ownsRow w.heap.size 3 1 (.slice (some ⟨gb, 0, none⟩) M2.length c5) M2.length (intCells M2) from by
            rw [hM2l, ← hM2, ← intCells_take]
            exact own_take Ho5.out (by omega))
          have hc24 : 24 ≤ c5 := by omega
          have hc24i : (24 : Int) ≤ (c5 : Int) := by omega
          have hM2e := Lib.hid hM2l
          have hM2le : M2.length ≤ 24 := by omega
          clear hM2 hgm
          unfold maxLen at *
          have HoT24 := HoT
          rw [hM2l] at HoT24
          clear hM2l
          go_wp2_with fail
          refine (l1Below g 20 w5 Hc5.out.1 (by omega) (by omega)).mono ?_
          rintro e w7 ⟨⟨z, rfl, hz0, hz1⟩, hc7, hg7⟩
          have Ho7 := Lib.hid (own_cur HoT.out hg7 hgw); have Hc7 := Lib.hid (Hc5.out.drawn hc7 hg7)
          clear hc7 hg7
          by_cases h0 : z = 0
          · have t0 : (z == 0) = true := beq_iff_eq.2 h0
            have hg8 := Hc7.out.1.lt
            go_wp2_with fail
            refine (l1PickInt g w7.heap.size 3 [0, 3, 1] _ (Hc7.out.1.alloc _) (Blk.new _ _ _) (by omega) (by decide) (by decide)).mono ?_
            rintro e w8 ⟨⟨u, hu, rfl⟩, hc8, hg8'⟩
            have hz : ∃ z : Int, u = .int .i64 z ∧ -10 ≤ z ∧ z ≤ 10 := by
              simp only [intCells, List.map_cons, List.map_nil, List.mem_cons, List.mem_nil_iff, or_false] at hu
              rcases hu with rfl | rfl | rfl
              · exact ⟨0, rfl, by omega, by omega⟩
              · exact ⟨3, rfl, by omega, by omega⟩
              · exact ⟨1, rfl, by omega, by omega⟩
            obtain ⟨y, rfl, hy0, hy1⟩ := hz
            have Ho8 := Lib.hid (own_cur (Ho7.out.alloc _) hg8' hgw); have Hc8 := Lib.hid ((Hc7.out.alloc _).drawn hc8 hg8')
            clear hu hc8 hg8'
            go_wp2
            go_ret2
            exact ⟨y, (some ⟨gb, 0, none⟩), c5, M2, by rw [hM2e.out]; rfl, hy0, hy1, own_at Ho8.out, by omega, own_cap Ho8.out, Hc8.out⟩
          · have t0 : (z == 0) = false := beq_eq_false_iff_ne.2 h0
            by_cases h1 : z = 1
            · have t1 : (z == 1) = true := beq_iff_eq.2 h1
              have hg8 := Hc7.out.1.lt
              go_wp2_with fail
              refine (l1PickInt g w7.heap.size 3 [3, 5, 9] _ (Hc7.out.1.alloc _) (Blk.new _ _ _) (by omega) (by decide) (by decide)).mono ?_
              rintro e w8 ⟨⟨u, hu, rfl⟩, hc8, hg8'⟩
              have hz : ∃ z : Int, u = .int .i64 z := by
                simp only [intCells, List.map_cons, List.map_nil, List.mem_cons, List.mem_nil_iff, or_false] at hu
                rcases hu with rfl | rfl | rfl
                · exact ⟨3, rfl⟩
                · exact ⟨5, rfl⟩
                · exact ⟨9, rfl⟩
              obtain ⟨y, rfl⟩ := hz
              have Ho8 := Lib.hid ((own_cur (Ho7.out.alloc _) hg8' hgw).alloc (.cells #[.int .i64 y] 3)); have Hc8 := Lib.hid (((Hc7.out.alloc _).drawn hc8 hg8').alloc (.cells #[.int .i64 y] 3))
              have Hl8 := Lib.hid (show RowAt (w8.alloc (.cells #[.int .i64 y] 3)) (some ⟨w8.heap.size, 0, none⟩) (intCells [y]) from (Blk.new w8 3 #[.int .i64 y]).row)
              obtain ⟨Y, hY⟩ : ∃ Y, M2 ++ [y] = Y := ⟨_, rfl⟩
              have hYl : Y.length ≤ 29 := by rw [← hY, List.length_append]; simp; omega
              have HY := Lib.hid hY
              clear hu hc8 hg8' hY
              go_wp2_with (at_builtin; refine append_rowN rfl (.tmp 62) (.tmp 66) rfl w.heap.size M2 [y] _ (show _ = Value.slice (some ⟨gb, 0, none⟩) M2.length c5 from by rw [hM2e.out]; rfl) Ho8.out _ _ rfl Hl8.out Hc8.out.size (by simp; omega) Y HY.out ?_; intro a9 c9 w9 hown9 hg9 hl9)
              have Ho9 := Lib.hid hown9; have Hc9 := Lib.hid (Hc8.out.row hg9 hgw (fun k hk => (Ho8.out.lt k hk).1))
              clear hown9 hg9 hl9
              go_ret2
              exact ⟨K, a9, c9, Y, rfl, by omega, by omega, own_at Ho9.out, by omega, own_cap Ho9.out, Hc9.out⟩
            · have t1 : (z == 1) = false := beq_eq_false_iff_ne.2 h1
              go_wp2
              go_ret2
              exact ⟨K, (some ⟨gb, 0, none⟩), c5, M2, by rw [hM2e.out]; rfl, by omega, by omega, own_at Ho7.out, by omega, own_cap Ho7.out, Hc7.out⟩
    · have hr' : (0 : Int) < (r : Int) := by omega
      go_wp2_with fail
      refine (l2Draw g 2 (2 * K) 2 wr hh.out.2.1 (by omega) (by omega) (by omega) rfl).mono ?_
      rintro e w3 ⟨xv, x, rfl, hownx, hx2, hxL, hc3, hg3⟩
      obtain ⟨xa, xc, rfl⟩ := own_len hownx
      have Hx3 := Lib.hid hownx
      have Hx3lt := Lib.hid (show ∀ k, (Value.slice xa x.length xc).ownBlock = some k → wr.heap.size ≤ k ∧ k < w3.heap.size from fun k hk => hownx.lt k hk)
      have Ho3lt := Lib.hid (show ∀ k, (Value.slice oa l.length oc).ownBlock = some k → w.heap.size ≤ k ∧ k < wr.heap.size from fun k hk => hh.out.1.lt k hk)
      have Ho3 := Lib.hid (own_cur hh.out.1 hg3 hgw)
      have Hcur3 := Lib.hid (hh.out.2.drawn hc3 hg3)
      have Hs3 := Lib.hid hg3.size
      have HxL := Lib.hid hxL
      clear hownx hc3 hg3 hxL
      go_wp2_with fail
      refine (spec_Relator K w3).mono ?_
      rintro e w4 ⟨ra, rc, rfl, hrc, hrcm, hfr, hb4⟩
      have Hr4 := Lib.hid hfr
      have Hx4 := Lib.hid (own_below Hx3.out hb4); have Ho4 := Lib.hid (own_below Ho3.out hb4); have Hcur4 := Lib.hid (Hcur3.out.below hb4)
      have Hs4 := Lib.hid hb4.size
      clear hfr hb4
      go_wp2_with fail
      refine (l1Below g 8 w4 Hcur4.out.1 (by omega) (by omega)).mono ?_
      rintro e w5 ⟨⟨t0, rfl, ht0, ht1⟩, hc5, hg5⟩
      have hgx : g < wr.heap.size := Nat.lt_of_lt_of_le hgw hh.out.2.size
      have Hx5 := Lib.hid (own_cur Hx4.out hg5 hgx)
      have Ho5 := Lib.hid (own_cur Ho4.out hg5 hgw); have Hcur5 := Lib.hid (Hcur4.out.drawn hc5 hg5)
      have Hr5 := Lib.hid (Hr4.out.keeps hg5 (fun k hk => by injection hk with hk; have := Hs3.out; omega))
      have Hs5 := Lib.hid hg5.size
      clear hc5 hg5
      go_wp2_with fail
      refine (spec_l2Turn ra rc (Dn.rel K) t0 w5 Hr5.out.row (by have := Dn.rel_len8 K; omega) hrc (by omega) (by omega)).mono ?_
      rintro e w6 ⟨ta, tc, rfl, htc, htcm, hft, hb6⟩
      have hT8 : (Word.turn (Dn.rel K) t0).length ≤ 8 := by rw [Word.turn_len]; exact Dn.rel_len8 K
      have hTL : ∀ y ∈ Word.turn (Dn.rel K) t0, Word.Letter y := fun y hy => (Dn.rel_w K).1 y (Word.turn_mem hy)
      generalize Word.turn (Dn.rel K) t0 = T at *
      have HTL := Lib.hid hTL
      have Ht6 := Lib.hid hft
      have Hx6 := Lib.hid (own_below Hx5.out hb6); have Ho6 := Lib.hid (own_below Ho5.out hb6); have Hcur6 := Lib.hid (Hcur5.out.below hb6)
      have Hs6 := Lib.hid hb6.size
      clear hft hb6 hTL
      go_wp2_with fail
      refine (l1Once g 2 w6 Hcur6.out.1 (by omega) (by omega)).mono ?_
      rintro e w7 ⟨⟨once, rfl⟩, hc7, hg7⟩
      have Hx7 := Lib.hid (own_cur Hx6.out hg7 hgx)
      have Ho7 := Lib.hid (own_cur Ho6.out hg7 hgw); have Hcur7 := Lib.hid (Hcur6.out.drawn hc7 hg7)
      have Ht7 := Lib.hid (Ht6.out.keeps hg7 (fun k hk => by injection hk with hk; have := Hs3.out; have := Hs4.out; have := Hs5.out; omega))
      have Hs7 := Lib.hid hg7.size
      clear hc7 hg7
      cases once with
      | false =>
        have HoW := Ho7; have HxW := Hx7; have HcW := Hcur7
        have HqW := Lib.hid (Ht7.out.mono (Nat.le_refl _))
        obtain ⟨X1, hX1⟩ : ∃ X1, l ++ x = X1 := ⟨_, rfl⟩
        obtain ⟨X2, hX2⟩ : ∃ X2, X1 ++ T = X2 := ⟨_, rfl⟩
        obtain ⟨X3, hX3⟩ : ∃ X3, X2 ++ Word.inv x = X3 := ⟨_, rfl⟩
        have l1 : X1.length = l.length + x.length := by rw [← hX1, List.length_append]
        have l2 : X2.length = X1.length + T.length := by rw [← hX2, List.length_append]
        have l3 : X3.length = X2.length + x.length := by rw [← hX3, List.length_append, Word.inv_len]
        have m1 : X1.length ≤ 26 := by omega
        have m2 : X2.length ≤ 34 := by omega
        have m3 : 12 * (r - 1) + X3.length ≤ 24 := by omega
        have HX1 := Lib.hid hX1; have HX2 := Lib.hid hX2; have HX3 := Lib.hid hX3
        clear hX1 hX2 hX3 l1 l2 l3
        have HsW := Lib.hid (show w3.heap.size ≤ w7.heap.size from by have := Hs4.out; have := Hs5.out; have := Hs6.out; have := Hs7.out; omega)
        go_wp2_with (first
          | (at_builtin; refine append_rowN rfl (.tmp 32) (.tmp 33) rfl w.heap.size l x _ rfl HoW.out xa _ rfl (own_at HxW.out) HcW.out.size (by omega) X1 HX1.out ?_; intro a1 c1 w9 hown9 hg9 hl9; have Hv9 := Lib.hid (show ∀ k, (Value.slice a1 X1.length c1).ownBlock = some k → (w.heap.size ≤ k ∧ k < wr.heap.size) ∨ k = w7.heap.size from fun k hk => hl9.elim (fun e => Or.inl (Ho3lt.out k (e.symm.trans hk))) (fun e => Or.inr (Option.some.inj (hk.symm.trans e)))); have Hx9 := Lib.hid (own_off HxW.out hg9 (fun k hk e => by have := Hx3lt.out k hk; have := Ho3lt.out k e; omega)); have Hq9 := Lib.hid (HqW.out.keeps hg9 (fun k hk => by have := Ho3lt.out k hk; have := Hs3.out; have := Hs4.out; have := Hs5.out; omega)); have Hc9 := Lib.hid (HcW.out.row hg9 hgw (fun k hk => (Ho3lt.out k hk).1)); have Ho9 := Lib.hid hown9; have Hs9 := Lib.hid hg9.size; clear hown9 hg9 hl9)
          | (at_builtin; refine append_rowN rfl (.tmp 34) (.tmp 35) rfl w.heap.size X1 T _ rfl Ho9.out ta _ rfl Hq9.out.row Hc9.out.size (by omega) X2 HX2.out ?_; intro a2 c2 w10 hown10 hg10 hl10; have Hx10 := Lib.hid (own_off Hx9.out hg10 (fun k hk e => by have := Hx3lt.out k hk; have := Hv9.out k e; have := HsW.out; omega)); have Hc10 := Lib.hid (Hc9.out.row hg10 hgw (fun k hk => by have := Hv9.out k hk; have := HcW.out.size; omega)); have Ho10 := Lib.hid hown10; clear hown10 hg10 hl10))
        go_wp2_with fail
        refine (spec_l2Inverse xa xc x w10 (own_at Hx10.out) (by omega) HxL.out).mono ?_
        rintro e w11 ⟨ia, ic, rfl, hic, hicm, hfi, hb11⟩
        have Hi11 := Lib.hid hfi; have Ho11 := Lib.hid (own_below Ho10.out hb11); have Hc11 := Lib.hid (Hc10.out.below hb11)
        have hil : (Word.inv x).length ≤ 2 := by rw [Word.inv_len]; exact hx2
        clear hfi hb11
        generalize Word.inv x = ix at *
        go_wp2_with (at_builtin; refine append_rowN rfl (.tmp 36) (.tmp 38) rfl w.heap.size X2 ix _ rfl Ho11.out ia _ rfl Hi11.out.row Hc11.out.size (by omega) X3 HX3.out ?_; intro a3 c3 w12 hown12 hg12 hl12)
        have Hc12 := Lib.hid (Hc11.out.row hg12 hgw (fun k hk => (Ho11.out.lt k hk).1)); have Ho12 := Lib.hid hown12
        clear hown12 hg12 hl12
        go_roundw
        case rel => exact ⟨r - 1, X3, a3, c3, by go_num, rfl, m3, Lib.hid ⟨Ho12.out, Hc12.out⟩⟩
        case measure => simp [intOf]; omega
      | true =>
        go_wp2_with fail
        refine (spec_l2Inverse ta tc T w7 Ht7.out.row (by omega) HTL.out).mono ?_
        rintro e w8 ⟨qa, qc, rfl, hqc, hqcm, hfq, hb8⟩
        have HoW := Lib.hid (own_below Ho7.out hb8); have HxW := Lib.hid (own_below Hx7.out hb8); have HcW := Lib.hid (Hcur7.out.below hb8)
        have hs8 := hb8.size
        have HqW := Lib.hid (hfq.mono (show w5.heap.size ≤ w7.heap.size from Nat.le_trans Hs6.out Hs7.out))
        have hiT : (Word.inv T).length ≤ 8 := by rw [Word.inv_len]; exact hT8
        have Hs8 := Lib.hid hs8
        clear hfq hb8 hs8
        generalize Word.inv T = TI at *
        obtain ⟨X1, hX1⟩ : ∃ X1, l ++ x = X1 := ⟨_, rfl⟩
        obtain ⟨X2, hX2⟩ : ∃ X2, X1 ++ TI = X2 := ⟨_, rfl⟩
        obtain ⟨X3, hX3⟩ : ∃ X3, X2 ++ Word.inv x = X3 := ⟨_, rfl⟩
        have l1 : X1.length = l.length + x.length := by rw [← hX1, List.length_append]
        have l2 : X2.length = X1.length + TI.length := by rw [← hX2, List.length_append]
        have l3 : X3.length = X2.length + x.length := by rw [← hX3, List.length_append, Word.inv_len]
        have m1 : X1.length ≤ 26 := by omega
        have m2 : X2.length ≤ 34 := by omega
        have m3 : 12 * (r - 1) + X3.length ≤ 24 := by omega
        have HX1 := Lib.hid hX1; have HX2 := Lib.hid hX2; have HX3 := Lib.hid hX3
        clear hX1 hX2 hX3 l1 l2 l3
        have HsW := Lib.hid (show w3.heap.size ≤ w8.heap.size from by have := Hs4.out; have := Hs5.out; have := Hs6.out; have := Hs7.out; have := Hs8.out; omega)
        go_wp2_with (first
          | (at_builtin; refine append_rowN rfl (.tmp 32) (.tmp 33) rfl w.heap.size l x _ rfl HoW.out xa _ rfl (own_at HxW.out) HcW.out.size (by omega) X1 HX1.out ?_; intro a1 c1 w9 hown9 hg9 hl9; have Hv9 := Lib.hid (show ∀ k, (Value.slice a1 X1.length c1).ownBlock = some k → (w.heap.size ≤ k ∧ k < wr.heap.size) ∨ k = w8.heap.size from fun k hk => hl9.elim (fun e => Or.inl (Ho3lt.out k (e.symm.trans hk))) (fun e => Or.inr (Option.some.inj (hk.symm.trans e)))); have Hx9 := Lib.hid (own_off HxW.out hg9 (fun k hk e => by have := Hx3lt.out k hk; have := Ho3lt.out k e; omega)); have Hq9 := Lib.hid (HqW.out.keeps hg9 (fun k hk => by have := Ho3lt.out k hk; have := Hs3.out; have := Hs4.out; have := Hs5.out; omega)); have Hc9 := Lib.hid (HcW.out.row hg9 hgw (fun k hk => (Ho3lt.out k hk).1)); have Ho9 := Lib.hid hown9; have Hs9 := Lib.hid hg9.size; clear hown9 hg9 hl9)
          | (at_builtin; refine append_rowN rfl (.tmp 34) (.tmp 35) rfl w.heap.size X1 TI _ rfl Ho9.out qa _ rfl Hq9.out.row Hc9.out.size (by omega) X2 HX2.out ?_; intro a2 c2 w10 hown10 hg10 hl10; have Hx10 := Lib.hid (own_off Hx9.out hg10 (fun k hk e => by have := Hx3lt.out k hk; have := Hv9.out k e; have := HsW.out; omega)); have Hc10 := Lib.hid (Hc9.out.row hg10 hgw (fun k hk => by have := Hv9.out k hk; have := HcW.out.size; omega)); have Ho10 := Lib.hid hown10; clear hown10 hg10 hl10))
        go_wp2_with fail
        refine (spec_l2Inverse xa xc x w10 (own_at Hx10.out) (by omega) HxL.out).mono ?_
        rintro e w11 ⟨ia, ic, rfl, hic, hicm, hfi, hb11⟩
        have Hi11 := Lib.hid hfi; have Ho11 := Lib.hid (own_below Ho10.out hb11); have Hc11 := Lib.hid (Hc10.out.below hb11)
        have hil : (Word.inv x).length ≤ 2 := by rw [Word.inv_len]; exact hx2
        clear hfi hb11
        generalize Word.inv x = ix at *
        go_wp2_with (at_builtin; refine append_rowN rfl (.tmp 36) (.tmp 38) rfl w.heap.size X2 ix _ rfl Ho11.out ia _ rfl Hi11.out.row Hc11.out.size (by omega) X3 HX3.out ?_; intro a3 c3 w12 hown12 hg12 hl12)
        have Hc12 := Lib.hid (Hc11.out.row hg12 hgw (fun k hk => (Ho11.out.lt k hk).1)); have Ho12 := Lib.hid hown12
        clear hown12 hg12 hl12
        go_roundw
        case rel => exact ⟨r - 1, X3, a3, c3, by go_num, rfl, m3, Lib.hid ⟨Ho12.out, Hc12.out⟩⟩
        case measure => simp [intOf]; omega
end Go.Proofs.Ytfaagbmaekoogaa
