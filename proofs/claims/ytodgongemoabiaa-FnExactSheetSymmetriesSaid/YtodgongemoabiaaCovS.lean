/-
  The walks of SheetSymmetries, the program's and the model's.
-/
import Derived.Test.YtodgongemoabiaaBase
import Derived.Test.YtodgongemoabiaaSlice
import Derived.Test.YtodgongemoabiaaIntRow
import Derived.Test.YtodgongemoabiaaInts
import Derived.Test.YtodgongemoabiaaOwn
import Derived.Test.YtodgongemoabiaaGrid
import Derived.Test.YtodgongemoabiaaGivesRows
import Derived.Test.YtodgongemoabiaaWord
import Derived.Test.YtodgongemoabiaaClass
import Derived.Test.YtodgongemoabiaaLab
import Derived.Test.YtodgongemoabiaaMap
import Derived.Test.YtodgongemoabiaaMapA
import Derived.Test.YtodgongemoabiaaEnds
import Derived.Test.YtodgongemoabiaaGraphEn
import Derived.Test.YtodgongemoabiaaCov
import Derived.Test.YtodgongemoabiaaCovA
import Derived.Test.YtodgongemoabiaaCovP
import Derived.Test.YtodgongemoabiaaCovQ
import Derived.Test.YtodgongemoabiaaCovB
import Derived.Test.YtodgongemoabiaaCovAll
import Derived.Test.YtodgongemoabiaaCovPer
import Derived.Deep.QuietTactic
import Derived.BigQuiet
import Derived.StillTailTactics
namespace Go.Proofs.Ytodgongemoabiaa
open Go.RowKit

/-- The commuting of two permutations below j. -/
def Cv.CommTo (p q : List Int) (j : Nat) : Prop := ∀ s, s < j → Mp.at_ p (Mp.at_ q s) = Mp.at_ q (Mp.at_ p s)
theorem Cv.CommTo.step {p q : List Int} {j : Nat} (h : Cv.CommTo p q j) (e : Mp.at_ p (Mp.at_ q j) = Mp.at_ q (Mp.at_ p j)) : Cv.CommTo p q (j + 1) := fun s hs => by
  rcases Nat.lt_or_ge s j with h1 | h1
  · exact h s h1
  · rw [show s = j by omega]; exact e
set_option maxRecDepth 10000 in
set_option maxHeartbeats 1000000 in
theorem impl_doCommute (ap aq : Option Addr) (cp cq n : Nat) (p q : List Int) (w : World) (hp : RowAt w ap (intCells p)) (hq : RowAt w aq (intCells q)) (hpP : Mp.IsP p) (hqP : Mp.IsP q) (hpl : p.length = n) (hql : q.length = n) (hn : n ≤ 1000) :
    Calls Try.prog 159 #[.slice ap n cp, .slice aq n cq] w fun e w' => e = .returned (.bool (decide (Cv.Comm p q))) ∧ Below w.heap.size w w' := by
  obtain ⟨V, hV⟩ : ∃ V, decide (Cv.Comm p q) = V := ⟨_, rfl⟩
  rw [hV]
  have hcp : ∀ s, s < n → ∃ b o, ap = some ⟨b, o, none⟩ ∧ ∀ W, Below w.heap.size w W → W.cell? ⟨b, o + s, none⟩ = some (.int .i64 ((Mp.at_ p s : Nat) : Int)) := fun s hs => by
    obtain ⟨b, o, e, hb, hc⟩ := intCells_get? hp (Mp.at_get hpP (d := s) (by omega))
    exact ⟨b, o, e, fun W hW => by rw [hW.cell hb]; exact hc⟩
  have hcq : ∀ s, s < n → ∃ b o, aq = some ⟨b, o, none⟩ ∧ ∀ W, Below w.heap.size w W → W.cell? ⟨b, o + s, none⟩ = some (.int .i64 ((Mp.at_ q s : Nat) : Int)) := fun s hs => by
    obtain ⟨b, o, e, hb, hc⟩ := intCells_get? hq (Mp.at_get hqP (d := s) (by omega))
    exact ⟨b, o, e, fun W hW => by rw [hW.cell hb]; exact hc⟩
  have hpn : ∀ s, s < n → Mp.at_ p s < n := fun s hs => by have := Mp.at_lt hpP (d := s) (by omega); omega
  have hqn : ∀ s, s < n → Mp.at_ q s < n := fun s hs => by have := Mp.at_lt hqP (d := s) (by omega); omega
  have HV := Lib.hid hV; have Hcp := Lib.hid hcp; have Hcq := Lib.hid hcq; have Hpn := Lib.hid hpn; have Hqn := Lib.hid hqn; have Hql := Lib.hid hql
  clear hV hcp hcq hpn hqn hp hq hpP hqP hpl hql
  go_enter Try.func159, Try.ntmps159
  go_wp2
  go_loopw [5, 8] (fun _ iv wr => ∃ i : Nat, i ≤ n ∧ iv = .int .i64 i ∧ Hid (Cv.CommTo p q i) ∧ Hid (Below w.heap.size w wr)) (fun _ iv _ => n - (intOf iv).toNat)
  case atStart => exact ⟨0, by omega, rfl, Lib.hid (fun s h => absurd h (by omega)), Lib.hid (Below.refl _ _)⟩
  case round =>
    obtain ⟨i, hi, rfl, hto, hb⟩ := hrel
    by_cases hlt : i < n
    · obtain ⟨bp, op, rfl, hc1⟩ := Hcp.out i hlt
      obtain ⟨bq, oq, rfl, hc2⟩ := Hcq.out i hlt
      obtain ⟨_, _, e3, hc3⟩ := Hcp.out (Mp.at_ q i) (Hqn.out i hlt)
      cases e3
      obtain ⟨_, _, e4, hc4⟩ := Hcq.out (Mp.at_ p i) (Hpn.out i hlt)
      cases e4
      have d1 := hc1 wr hb.out
      have d2 := hc2 wr hb.out
      have d3 := hc3 wr hb.out
      have d4 := hc4 wr hb.out
      have hx := Hpn.out i hlt
      have hy := Hqn.out i hlt
      have Hno := Lib.hid (show Mp.at_ p (Mp.at_ q i) ≠ Mp.at_ q (Mp.at_ p i) → V = false from fun hne => by rw [← HV.out]; exact decide_eq_false fun h => hne (h i (by rw [Hql.out]; exact hlt)))
      have Hst := Lib.hid (fun e => hto.out.step (j := i) e)
      generalize hu : Mp.at_ p (Mp.at_ q i) = u at *
      generalize hv : Mp.at_ q (Mp.at_ p i) = v at *
      generalize Mp.at_ p i = x at *
      generalize Mp.at_ q i = y at *
      have i0 : (0 : Int) ≤ (i : Int) := by omega
      have i1 : (i : Int) < (n : Int) := by omega
      have x0 : (0 : Int) ≤ (x : Int) := by omega
      have x1 : (x : Int) < (n : Int) := by omega
      have y0 : (0 : Int) ≤ (y : Int) := by omega
      have y1 : (y : Int) < (n : Int) := by omega
      clear hc1 hc2 hc3 hc4 hu hv
      by_cases he : u = v
      · have dne : ((u : Int) != (v : Int)) = false := by simp [he]
        have He := Lib.hid he
        clear he
        go_wp2
        go_quiet (fail)
        go_wp2
        go_roundw
        case rel => exact ⟨i + 1, by omega, by go_num, Lib.hid (Hst.out He.out), Lib.hid (below_drewN hb.out _)⟩
        case measure => simp [intOf]; omega
      · have dne : ((u : Int) != (v : Int)) = true := by simp; omega
        have Hd := Lib.hid (Hno.out he)
        clear he
        go_wp2
        go_quiet (fail)
        go_wp2
        go_ret
        exact ⟨by rw [Hd.out]; rfl, below_drewN hb.out _⟩
    · obtain rfl : n = i := by omega
      have Hd := Lib.hid (show V = true by rw [← HV.out]; exact decide_eq_true fun s hs => hto.out s (by rw [Hql.out] at hs; exact hs))
      go_wp2
      go_ret
      exact ⟨by rw [Hd.out]; rfl, hb.out⟩

set_option maxRecDepth 10000 in
set_option maxHeartbeats 1000000 in
theorem impl_symm1 (aq ap : Option Addr) (cq cp n B : Nat) (p q : List Int) (w : World) (hp : RowAt w ap (intCells p)) (hq : RowAt w aq (intCells q)) (hpP : Mp.IsP p) (hqP : Mp.IsP q) (hpl : p.length = n) (hql : q.length = n) (hn : n ≤ 1000) (c0 : w.cell? ⟨B, 0, none⟩ = some (.slice ap n cp)) :
    Calls Try.prog 158 #[.slice aq n cq, .pointer (some ⟨B, 0, none⟩)] w fun e w' => e = .returned (.bool (!decide (Cv.Comm p q))) ∧ Below w.heap.size w w' := by
  have Hc := Lib.hid (impl_doCommute ap aq cp cq n p q w hp hq hpP hqP hpl hql hn)
  generalize decide (Cv.Comm p q) = v at *
  clear hp hq hpP hqP hpl hql
  go_enter Try.func158, Try.ntmps158
  go_wp2_with fail
  refine Hc.out.mono ?_
  rintro e w3 ⟨rfl, hb3⟩
  have Hb3 := Lib.hid hb3; clear hb3
  go_wp2
  go_ret
  exact ⟨rfl, Hb3.out⟩
set_option maxRecDepth 10000 in
set_option maxHeartbeats 1000000 in
theorem lib_IndexFuncS (a ap : Option Addr) (cap cp n B : Nat) (L : List (List Int)) (p : List Int) (w : World) (ha : GridAt w a L) (hl : L.length ≤ 1000) (hL : ∀ q ∈ L, q.length = n ∧ Mp.IsP q) (hp : RowAt w ap (intCells p)) (hpP : Mp.IsP p) (hpl : p.length = n) (hn : n ≤ 1000) (hB : B < w.heap.size) (c0 : w.cell? ⟨B, 0, none⟩ = some (.slice ap n cp)) :
    Calls Try.prog 179 #[.slice a L.length cap, .func (.func 158) #[] #[.pointer (some ⟨B, 0, none⟩)]] w fun e w' => (∃ z : Int, e = .returned (.int .i64 z) ∧ decide (0 ≤ z) = !decide (Cv.Symm L p)) ∧ Below w.heap.size w w' := by
  have Ha := Lib.hid ha; have HL := Lib.hid hL; have Hc0 := Lib.hid c0; have Hp := Lib.hid hp; have HpP := Lib.hid hpP; have Hpl := Lib.hid hpl
  clear ha hL c0 hp hpP hpl
  go_enter Try.func179, Try.ntmps179
  go_wp2
  go_loopw [5, 8] (fun _ iv wr => ∃ i : Nat, i ≤ L.length ∧ iv = .int .i64 i ∧ Hid (∀ q ∈ L.take i, Cv.Comm p q) ∧ Hid (Below w.heap.size w wr)) (fun _ iv _ => L.length - (intOf iv).toNat)
  case atStart => exact ⟨0, by omega, rfl, Lib.hid (fun q h => by simp at h), Lib.hid (Below.refl _ _)⟩
  case round =>
    obtain ⟨i, hi, rfl, hno, hb⟩ := hrel
    by_cases hlt : i < L.length
    · obtain ⟨q, hq⟩ := get_some hlt
      obtain ⟨b, o, ai, ci, rfl, hbw, hcell, hrow⟩ := (Ha.out.below hb.out).get hq
      obtain ⟨hq1, hq2⟩ := HL.out q (get_mem hq)
      rw [hq1] at hcell
      have hcl := impl_symm1 ai ap ci cp n B p q wr (Hp.out.below hb.out) hrow HpP.out hq2 Hpl.out hq1 hn (by rw [hb.out.cell hB]; exact Hc0.out)
      have Hq := Lib.hid hq; clear hq hrow hq1
      have hlt' : (i : Int) < (L.length : Int) := by omega
      by_cases he : Cv.Comm p q
      · rw [decide_eq_true he] at hcl
        have Hno := Lib.hid (show ∀ r ∈ L.take (i + 1), Cv.Comm p r from fun r hr => by
          obtain ⟨hi2, e2⟩ := List.getElem?_eq_some_iff.1 Hq.out
          rw [List.take_succ_eq_append_getElem hi2, List.mem_append, List.mem_singleton] at hr
          rcases hr with hr | hr
          · exact hno.out r hr
          · rw [hr, e2]; exact he)
        have Hcl := Lib.hid hcl
        clear he hcl
        go_wp2_with fail
        refine Hcl.out.mono ?_
        rintro e w3 ⟨rfl, hb3⟩
        have Hb3 := Lib.hid (hb.out.trans (hb3.mono hb.out.size)); clear hb3
        go_wp2
        go_roundw
        case rel => exact ⟨i + 1, by omega, by go_num, Hno, Hb3⟩
        case measure => simp [intOf]; omega
      · rw [decide_eq_false he] at hcl
        have Hres := Lib.hid (show decide ((0 : Int) ≤ (i : Int)) = !decide (Cv.Symm L p) by rw [decide_eq_true (show (0 : Int) ≤ (i : Int) by omega), decide_eq_false fun h => he (h q (get_mem Hq.out))]; rfl)
        have Hcl := Lib.hid hcl
        clear he hcl
        go_wp2_with fail
        refine Hcl.out.mono ?_
        rintro e w3 ⟨rfl, hb3⟩
        go_wp2
        go_ret
        exact ⟨⟨_, rfl, Hres.out⟩, hb.out.trans (hb3.mono hb.out.size)⟩
    · obtain rfl : i = L.length := by omega
      have Hres := Lib.hid (show decide ((0 : Int) ≤ -1) = !decide (Cv.Symm L p) by
        rw [decide_eq_true (show Cv.Symm L p from fun q hq => hno.out q (by rw [List.take_of_length_le (Nat.le_refl _)]; exact hq))]; rfl)
      go_wp2
      go_ret
      exact ⟨⟨_, rfl, Hres.out⟩, hb.out⟩
set_option maxRecDepth 10000 in
set_option maxHeartbeats 1000000 in
theorem lib_ContainsFuncS (a ap : Option Addr) (cap cp n B : Nat) (L : List (List Int)) (p : List Int) (w : World) (ha : GridAt w a L) (hl : L.length ≤ 1000) (hL : ∀ q ∈ L, q.length = n ∧ Mp.IsP q) (hp : RowAt w ap (intCells p)) (hpP : Mp.IsP p) (hpl : p.length = n) (hn : n ≤ 1000) (hB : B < w.heap.size) (c0 : w.cell? ⟨B, 0, none⟩ = some (.slice ap n cp)) :
    Calls Try.prog 157 #[.slice a L.length cap, .func (.func 158) #[] #[.pointer (some ⟨B, 0, none⟩)]] w fun e w' => e = .returned (.bool (!decide (Cv.Symm L p))) ∧ Below w.heap.size w w' := by
  have Hc := Lib.hid (lib_IndexFuncS a ap cap cp n B L p w ha hl hL hp hpP hpl hn hB c0)
  clear ha c0 hL hp
  generalize (!decide (Cv.Symm L p)) = b at *
  go_enter Try.func157, Try.ntmps157
  go_wp2_with fail
  refine Hc.out.mono ?_
  rintro e w3 ⟨⟨z, rfl, hz⟩, hb3⟩
  have Hz := Lib.hid hz; have Hb3 := Lib.hid hb3
  clear hz hb3
  generalize hd : decide ((0 : Int) ≤ z) = d at *
  have Hd := Lib.hid hd; clear hd
  go_wp2
  go_ret
  exact ⟨by rw [← Hz.out, ← Hd.out]; rfl, Hb3.out⟩

namespace Cv
def symN (L : List (List Int)) (P : List (List Int)) (i : Nat) : Nat := (P.take i).countP fun p => decide (Symm L p)
theorem symN_step {L P : List (List Int)} {i : Nat} {p : List Int} (h : P[i]? = some p) : symN L P (i + 1) = symN L P i + if Symm L p then 1 else 0 := by
  obtain ⟨hi, rfl⟩ := List.getElem?_eq_some_iff.1 h
  unfold symN
  rw [List.take_succ_eq_append_getElem hi, List.countP_append]
  by_cases hs : Symm L P[i]
  · rw [if_pos hs]; simp [List.countP_cons, hs]
  · rw [if_neg hs]; simp [List.countP_cons, hs]
theorem symN_le (L P : List (List Int)) (i : Nat) : symN L P i ≤ i := by
  unfold symN
  have h1 := List.countP_le_length (p := fun p => decide (Symm L p)) (l := P.take i)
  rw [List.length_take] at h1; omega
theorem symms_of {L : List (List Int)} (h : Perms L) : symms L = ((symN L (Mp.natRows (all (deg L))) (Mp.natRows (all (deg L))).length : Nat) : Int) := by
  unfold symms symN; rw [if_pos h, List.take_of_length_le (Nat.le_refl _)]
theorem symms_not {L : List (List Int)} (h : ¬ Perms L) : symms L = -1 := if_neg h
end Cv
set_option maxRecDepth 10000 in
set_option maxHeartbeats 2000000 in
theorem impl_SheetSymmetries (a : Option Addr) (c : Nat) (L : List (List Int)) (w : World) (ha : GridAt w a L) (hL : ∀ p ∈ L, p.length ≤ 1048576) (hn : L.length ≤ 1048576) :
    Calls Try.prog 73 #[.slice a L.length c] w fun e w' => e = .returned (.int .i64 (Cv.symms L)) ∧ Below w.heap.size w w' := by
  have hcP := impl_doPermute a c L w ha hL hn
  by_cases hP : Cv.Perms L
  · rw [decide_eq_true hP] at hcP
    have h5 := hP.2.2.2.2
    have hl1 := hP.2.1
    have hl8 := hP.2.2.1
    obtain ⟨r0, hr0, hr0l⟩ := Cv.head_get (L := L) (by omega)
    obtain ⟨b0, o0, a0, c0, rfl, hbw0, hcell0, _⟩ := ha.get hr0
    rw [Nat.add_zero, hr0l] at hcell0
    have i2 : 0 < L.length := by omega
    have hPd := hP.1
    obtain ⟨V, hV⟩ : ∃ V, Cv.symms L = V := ⟨_, rfl⟩
    rw [hV]
    rw [Cv.symms_of hP] at hV
    have hq := fun r (hr : r ∈ Mp.natRows (Cv.all (Cv.deg L))) => Cv.all_isP hr
    have hper := fun W => impl_allPermutations (Cv.deg L) W h5
    have hRl : (Mp.natRows (Cv.all (Cv.deg L))).length ≤ 120 := by rw [Cv.natRows_size]; exact Cv.all_few h5
    generalize Mp.natRows (Cv.all (Cv.deg L)) = R at *
    generalize Cv.deg L = n at *
    have Ha := Lib.hid ha; have Hc0 := Lib.hid hcell0; have HPd := Lib.hid hPd; have HV := Lib.hid hV; have Hq := Lib.hid hq; have Hper := Lib.hid hper; have HcP := Lib.hid hcP
    clear ha hP hr0 hr0l hcell0 hPd hV hq hper hcP hL
    go_enter Try.func73, Try.ntmps73
    go_wp2_with fail
    refine HcP.out.mono ?_
    rintro e w1 ⟨rfl, hb1⟩
    have Hb1 := Lib.hid hb1; clear hb1
    have c1 : w1.cell? ⟨b0, o0, none⟩ = some (.slice a0 n c0) := by rw [Hb1.out.cell hbw0]; exact Hc0.out
    go_wp2_with fail
    refine (Hper.out w1).mono ?_
    rintro e w2 ⟨ra, rc, rfl, _, _, hg2, hb2⟩
    have Hb2 := Lib.hid (Hb1.out.trans (hb2.mono Hb1.out.size)); have Hg2 := Lib.hid hg2.grid
    clear hg2 hb2 c1
    go_wp2
    go_loopw [3, 5, 15] (fun sv _ iv wr => ∃ i : Nat, i ≤ R.length ∧ iv = .int .i64 i ∧ sv = .int .i64 ((Cv.symN L R i : Nat) : Int) ∧ Hid (Below w2.heap.size w2 wr)) (fun _ _ iv _ => R.length - (intOf iv).toNat)
    case atStart => exact ⟨0, by omega, rfl, rfl, Lib.hid (Below.refl _ _)⟩
    case round =>
      obtain ⟨i, hi, rfl, rfl, hb⟩ := hrel
      by_cases hlt : i < R.length
      · obtain ⟨p, hp⟩ := get_some hlt
        obtain ⟨hpl, hpP⟩ := Hq.out p (get_mem hp)
        obtain ⟨b, o, ai, ci, rfl, hbw, hcell, hrow⟩ := (Hg2.out.below hb.out).get hp
        rw [hpl] at hcell
        have hal : Below wr.heap.size wr (wr.alloc (.cells #[.slice ai n ci] 42)) := (Below.refl _ _).alloc (Nat.le_refl _) _
        have hbx := Blk.new wr 42 #[.slice ai n ci]
        have hbw2 := Hb2.out.trans (hb.out.mono Hb2.out.size)
        have hcf := lib_ContainsFuncS (some ⟨b0, o0, none⟩) ai c ci n wr.heap.size L p (wr.alloc (.cells #[.slice ai n ci] 42)) (Ha.out.below (hbw2.trans (hal.mono hbw2.size))) (by omega) HPd.out (hrow.below hal) hpP hpl (by omega) hbx.lt (hbx.cell 0)
        have hst := Cv.symN_step (L := L) hp
        have hle := Cv.symN_le L R i
        have hb3 := hb.out.trans (hal.mono hb.out.size)
        have hi1 : (i : Int) < (R.length : Int) := by omega
        have hi0 : (0 : Int) ≤ (i : Int) := by omega
        generalize hS : Cv.symN L R i = S at *
        generalize hS1 : Cv.symN L R (i + 1) = S1 at *
        have HS1 := Lib.hid hS1; have Hb3 := Lib.hid hb3
        clear hp hrow hal hbx hbw2 hb3 hS hS1 hpl
        by_cases hs : Cv.Symm L p
        · rw [decide_eq_true hs] at hcf
          rw [if_pos hs] at hst
          have Hcf := Lib.hid hcf; have Hst := Lib.hid hst
          clear hs hcf hst
          go_wp2_with fail
          refine Hcf.out.mono ?_
          rintro e w3 ⟨rfl, hb4⟩
          have Hb4 := Lib.hid (Hb3.out.trans (hb4.mono Hb3.out.size)); clear hb4
          go_wp2
          go_roundw
          case rel => exact ⟨i + 1, by omega, by go_num, by rw [HS1.out, Hst.out]; go_num, Hb4⟩
          case measure => simp [intOf]; omega
        · rw [decide_eq_false hs] at hcf
          rw [if_neg hs] at hst
          have Hcf := Lib.hid hcf; have Hst := Lib.hid hst
          clear hs hcf hst
          go_wp2_with fail
          refine Hcf.out.mono ?_
          rintro e w3 ⟨rfl, hb4⟩
          have Hb4 := Lib.hid (Hb3.out.trans (hb4.mono Hb3.out.size)); clear hb4
          go_wp2
          go_roundw
          case rel => exact ⟨i + 1, by omega, by go_num, by rw [HS1.out, Hst.out]; go_num, Hb4⟩
          case measure => simp [intOf]; omega
      · obtain rfl : i = R.length := by omega
        have Hbw2 := Lib.hid (Hb2.out.trans (hb.out.mono Hb2.out.size))
        generalize ((Cv.symN L R R.length : Nat) : Int) = S at *
        go_wp2
        go_ret
        exact ⟨by rw [← HV.out]; rfl, Hbw2.out⟩
  · rw [decide_eq_false hP] at hcP
    rw [Cv.symms_not hP]
    have HcP := Lib.hid hcP
    clear hcP hP ha hL
    go_enter Try.func73, Try.ntmps73
    go_wp2_with fail
    refine HcP.out.mono ?_
    rintro e w1 ⟨rfl, hb1⟩
    have Hb1 := Lib.hid hb1; clear hb1
    go_wp2
    go_ret
    exact ⟨rfl, Hb1.out⟩
end Go.Proofs.Ytodgongemoabiaa
