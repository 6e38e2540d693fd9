/-
  The walks of isZero, l8Trivial and IsTrivialWord.
-/
import Derived.Test.YtfaagbmaekoogaaBase
import Derived.Test.YtfaagbmaekoogaaSlice
import Derived.Test.YtfaagbmaekoogaaInts
import Derived.Test.YtfaagbmaekoogaaOwn
import Derived.Test.YtfaagbmaekoogaaWord
import Derived.Test.YtfaagbmaekoogaaIsWord
import Derived.Test.YtfaagbmaekoogaaUses
import Derived.Test.YtfaagbmaekoogaaSums
import Derived.Test.YtfaagbmaekoogaaEnds
import Derived.Test.YtfaagbmaekoogaaAm
import Derived.Test.YtfaagbmaekoogaaGrpA
import Derived.Test.YtfaagbmaekoogaaGrpB
import Derived.Test.YtfaagbmaekoogaaGrpE
import Derived.StillTailTactics
import Derived.BigQuiet
namespace Go.Proofs.Ytfaagbmaekoogaa
open Go.RowKit

namespace Dn
def zeroB (l : List Int) : Bool := decide (∀ x ∈ l, x = 0)
/-- The two sums. -/
def two (l : List Int) : List Int := [tot 0 l, tot 1 l]
theorem two_put {l : List Int} {i j : Nat} (hi : i < l.length) (hj : j < 2) (hx : l[i].natAbs = j + 1) : (two (l.take i)).set j ((two (l.take i)).getD j 0 + wt j l[i]) = two (l.take (i + 1)) := by
  unfold two
  rw [tot_take hi, tot_take hi]
  generalize l[i] = x at *
  rcases (show j = 0 ∨ j = 1 by omega) with rfl | rfl
  · have : wt 1 x = 0 := by unfold wt; rw [if_neg (by omega), if_neg (by omega)]
    rw [this]; simp
  · have : wt 0 x = 0 := by unfold wt; rw [if_neg (by omega), if_neg (by omega)]
    rw [this]; simp
theorem two_bound (l : List Int) (j : Nat) : -(l.length : Int) ≤ (two l).getD j 0 ∧ (two l).getD j 0 ≤ l.length := by
  unfold two
  have h0 := tot_bound 0 l
  have h1 := tot_bound 1 l
  match j with
  | 0 => exact h0
  | 1 => exact h1
  | j + 2 => simp
theorem triv_one (l : List Int) : decide (Triv 1 l) = decide (tot 0 l = 0 ∧ tot 1 l = 0) := decide_eq_decide.2 (by unfold Triv; rw [if_neg (by decide)])
theorem triv_two (l : List Int) : decide (Triv 2 l) = decide ((dehn 2 (Word.red l)).length = 0) := decide_eq_decide.2 (by unfold Triv; rw [if_pos rfl]; exact List.length_eq_zero_iff.symm)
theorem zero_sums {l : List Int} (h : Fit 1 l) : zeroB (Word.sums l) = decide (Triv 1 l) := by
  rw [triv_one]
  unfold zeroB
  rw [sums_list h.2.1.1]
  refine decide_eq_decide.2 ⟨fun hh => ⟨hh _ (List.mem_map.2 ⟨0, by simp, rfl⟩), hh _ (List.mem_map.2 ⟨1, by simp, rfl⟩)⟩, fun ⟨h0, h1⟩ x hx => ?_⟩
  obtain ⟨j, _, rfl⟩ := List.mem_map.1 hx
  match j with
  | 0 => exact h0
  | 1 => exact h1
  | j + 2 => exact tot_far h.2.2 (by omega)
theorem trivW_of {g : Int} {l : List Int} (h : Fit g l) : decide (TrivW g l) = decide (Triv g l) := decide_eq_decide.2 ⟨fun x => x.2, fun x => ⟨h, x⟩⟩
theorem trivW_not {g : Int} {l : List Int} (h : ¬ Fit g l) : decide (TrivW g l) = false := decide_eq_false fun x => h x.1
end Dn

set_option maxRecDepth 10000 in
theorem impl_isZero1 (x : Int) (w : World) : Calls Try.prog 151 #[.int .i64 x] w fun e w' => e = .returned (.bool (x != 0)) ∧ w = w' := by
  generalize hb : (x != 0) = b
  have Hb := Lib.hid hb; clear hb
  go_enter Try.func151, Try.ntmps151
  go_wp2
  go_ret
  exact ⟨by rw [← Hb.out]; rfl, rfl⟩
set_option maxRecDepth 10000 in
set_option maxHeartbeats 1000000 in
theorem lib_IndexFunc0 (a : Option Addr) (cap : Nat) (l : List Int) (w : World) (ha : RowAt w a (intCells l)) (hl : l.length ≤ 1000) :
    Calls Try.prog 157 #[.slice a l.length cap, .func (.func 151) #[] #[]] w fun e w' => (∃ z : Int, e = .returned (.int .i64 z) ∧ decide (0 ≤ z) = !(Dn.zeroB l)) ∧ w = w' := by
  have Ha := Lib.hid ha
  clear ha
  go_enter Try.func157, Try.ntmps157
  go_wp2
  go_loopw [5, 8] (fun _ iv wr => ∃ i : Nat, i ≤ l.length ∧ iv = .int .i64 i ∧ Hid (∀ j, j < i → l[j]? = some 0) ∧ w = wr) (fun _ iv _ => l.length - (intOf iv).toNat)
  case atStart => exact ⟨0, by omega, rfl, Lib.hid (fun j hj => absurd hj (by omega)), rfl⟩
  case round =>
    obtain ⟨i, hi, rfl, hno, rfl⟩ := hrel
    by_cases hlt : i < l.length
    · obtain ⟨y, hy⟩ := get_some hlt
      obtain ⟨b, o, rfl, hbw, hcell⟩ := intCells_get? Ha.out hy
      have hcl := impl_isZero1 y w
      have Hy := Lib.hid hy; clear hy
      by_cases he : y = 0
      · rw [show (y != 0) = false from by simp [he]] at hcl
        have Hno := Lib.hid (show ∀ j, j < i + 1 → l[j]? = some 0 from fun j hj => by
          rcases Nat.lt_or_ge j i with h | h
          · exact hno.out j h
          · obtain rfl : j = i := by omega
            rw [Hy.out, he])
        have Hcl := Lib.hid hcl
        clear he hcl
        go_wp2_with fail
        refine Hcl.out.mono ?_
        rintro e w3 ⟨rfl, rfl⟩
        go_wp2
        go_roundw
        case rel => exact ⟨i + 1, by omega, by go_num, Hno, trivial⟩
        case measure => simp [intOf]; omega
      · rw [show (y != 0) = true from by simp [he]] at hcl
        have Hres := Lib.hid (show decide ((0 : Int) ≤ (i : Int)) = !(Dn.zeroB l) from by
          have : Dn.zeroB l = false := decide_eq_false fun h => he (h y (get_mem Hy.out))
          rw [this, decide_eq_true (by omega)]; rfl)
        have Hcl := Lib.hid hcl
        clear he hcl
        go_wp2_with fail
        refine Hcl.out.mono ?_
        rintro e w3 ⟨rfl, rfl⟩
        go_wp2
        go_ret
        exact ⟨⟨_, rfl, Hres.out⟩, rfl⟩
    · obtain rfl : i = l.length := by omega
      have Hres := Lib.hid (show decide ((0 : Int) ≤ -1) = !(Dn.zeroB l) from by
        have : Dn.zeroB l = true := decide_eq_true fun x hx => by
          obtain ⟨j, hj, rfl⟩ := List.mem_iff_getElem.1 hx
          have := hno.out j hj
          rw [List.getElem?_eq_getElem hj] at this
          exact Option.some.inj this
        rw [this]; rfl)
      go_wp2
      go_ret
      exact ⟨⟨_, rfl, Hres.out⟩, rfl⟩
set_option maxRecDepth 10000 in
set_option maxHeartbeats 1000000 in
theorem lib_ContainsFunc0 (a : Option Addr) (cap : Nat) (l : List Int) (w : World) (ha : RowAt w a (intCells l)) (hl : l.length ≤ 1000) :
    Calls Try.prog 150 #[.slice a l.length cap, .func (.func 151) #[] #[]] w fun e w' => e = .returned (.bool (!(Dn.zeroB l))) ∧ w = w' := by
  have Hc := Lib.hid (lib_IndexFunc0 a cap l w ha hl)
  clear ha
  generalize (!(Dn.zeroB l)) = b at *
  go_enter Try.func150, Try.ntmps150
  go_wp2_with fail
  refine Hc.out.mono ?_
  rintro e w3 ⟨⟨z, rfl, hz⟩, rfl⟩
  have Hz := Lib.hid hz
  clear hz
  generalize hd : decide ((0 : Int) ≤ z) = d at *
  have Hd := Lib.hid hd; clear hd
  go_wp2
  go_ret
  exact ⟨by rw [← Hz.out, ← Hd.out]; rfl, rfl⟩
set_option maxRecDepth 10000 in
set_option maxHeartbeats 1000000 in
theorem impl_isZero (a : Option Addr) (cap : Nat) (l : List Int) (w : World) (ha : RowAt w a (intCells l)) (hl : l.length ≤ 1000) :
    Calls Try.prog 130 #[.slice a l.length cap] w fun e w' => e = .returned (.bool (Dn.zeroB l)) ∧ w = w' := by
  have Hc := Lib.hid (lib_ContainsFunc0 a cap l w ha hl)
  clear ha
  generalize hz : Dn.zeroB l = z at *
  have Hz := Lib.hid hz; clear hz
  go_enter Try.func130, Try.ntmps130
  go_wp2_with fail
  refine Hc.out.mono ?_
  rintro e w3 ⟨rfl, rfl⟩
  go_wp2
  go_ret
  exact ⟨by simp, rfl⟩

set_option maxRecDepth 10000 in
set_option maxHeartbeats 1000000 in
theorem impl_IsTrivialWord (g : Int) (a : Option Addr) (c : Nat) (l : List Int) (w : World) (ha : RowAt w a (intCells l)) (hl : l.length ≤ 1000000000) :
    Calls Try.prog 61 #[.int .i64 g, .slice a l.length c] w fun e w' => e = .returned (.bool (decide (Dn.TrivW g l))) ∧ Below w.heap.size w w' := by
  have hcF := impl_isGroupWord g a c l w ha hl
  by_cases hF : Dn.Fit g l
  · rw [decide_eq_true hF] at hcF
    rw [Dn.trivW_of hF]
    have hl24 := hF.2.1.2
    rcases Dn.gr_cases hF.1 with rfl | rfl
    · rw [← Dn.zero_sums hF]
      have HF := Lib.hid hF; have HcF := Lib.hid hcF; have Ha := Lib.hid ha
      clear hF hcF ha
      go_enter Try.func61, Try.ntmps61
      go_wp2_with fail
      refine HcF.out.mono ?_
      rintro e w1 ⟨rfl, hb1⟩
      have Hb1 := Lib.hid hb1; clear hb1
      have hcS := impl_LetterSums a c l w1 (Ha.out.below Hb1.out) (by omega)
      rw [sums_of HF.out.2.1] at hcS
      have hsl := Word.sums_len l
      generalize hS : Word.sums l = S at *
      have HcS := Lib.hid hcS; have HS := Lib.hid hS
      clear hcS hS
      go_wp2_with fail
      refine HcS.out.mono ?_
      rintro e w2 ⟨sa, sc, rfl, hsc, hscm, hfs, hb2⟩
      have Hfs := Lib.hid hfs; have Hb2 := Lib.hid (Hb1.out.trans (hb2.mono Hb1.out.size)); have Hsl := Lib.hid hsl
      clear hfs hb2 hsl
      go_wp2_with fail
      refine (impl_isZero sa sc S w2 Hfs.out.row (by rw [Hsl.out]; decide)).mono ?_
      rintro e w3 ⟨rfl, rfl⟩
      go_wp2
      go_ret
      exact ⟨by rw [HS.out]; rfl, Hb2.out⟩
    · rw [Dn.triv_two]
      have hcD := fun W (hb : Below w.heap.size w W) => impl_DehnWord 2 a c l W (ha.below hb) (by omega)
      rw [dehnW_of hF] at hcD
      generalize hD : Dn.dehn 2 (Word.red l) = D at *
      have HF := Lib.hid hF; have HcF := Lib.hid hcF; have HcD := Lib.hid hcD; have HD := Lib.hid hD
      clear hF hcF ha hcD hD
      by_cases h0 : D.length = 0
      · have d0 : ((D.length : Int) == 0) = true := beq_iff_eq.2 (by omega)
        have H0 := Lib.hid h0; clear h0
        go_enter Try.func61, Try.ntmps61
        go_wp2_with fail
        refine HcF.out.mono ?_
        rintro e w1 ⟨rfl, hb1⟩
        have Hb1 := Lib.hid hb1; clear hb1
        go_wp2_with fail
        refine (HcD.out w1 Hb1.out).mono ?_
        rintro e w2 ⟨sa, sc, rfl, hsc, hscm, hfs, hb2⟩
        have Hb2 := Lib.hid (Hb1.out.trans (hb2.mono Hb1.out.size))
        clear hfs hb2
        go_wp2
        go_ret
        exact ⟨by rw [decide_eq_true H0.out]; rfl, Hb2.out⟩
      · have d0 : ((D.length : Int) == 0) = false := beq_eq_false_iff_ne.2 (by omega)
        have H0 := Lib.hid h0; clear h0
        go_enter Try.func61, Try.ntmps61
        go_wp2_with fail
        refine HcF.out.mono ?_
        rintro e w1 ⟨rfl, hb1⟩
        have Hb1 := Lib.hid hb1; clear hb1
        go_wp2_with fail
        refine (HcD.out w1 Hb1.out).mono ?_
        rintro e w2 ⟨sa, sc, rfl, hsc, hscm, hfs, hb2⟩
        have Hb2 := Lib.hid (Hb1.out.trans (hb2.mono Hb1.out.size))
        clear hfs hb2
        go_wp2
        go_ret
        exact ⟨by rw [decide_eq_false H0.out]; rfl, Hb2.out⟩
  · rw [decide_eq_false hF] at hcF
    rw [Dn.trivW_not hF]
    have HcF := Lib.hid hcF
    clear hcF hF
    go_enter Try.func61, Try.ntmps61
    go_wp2_with fail
    refine HcF.out.mono ?_
    rintro e w1 ⟨rfl, hb1⟩
    go_wp2
    go_ret
    exact ⟨rfl, hb1⟩

theorem Dn.two_make (w : World) : (Instr.makeSlice 42 (.int .i64 2) (.int .i64 2)).run Try.prog w = .ok (.slice (some ⟨w.heap.size, 0, none⟩) 2 2) (w.alloc (.cells (intCells (Dn.two [])).toArray 3)) := by
  obtain ⟨i0, hi, hz0, hz1, hz2⟩ := info_int_parts
  have h := run_make_rowN (P := Try.prog) 42 3 i0 _ Try.underlying42 hi hz0 .i64 .i64 2 2 (Nat.le_refl _) (by rw [hz2]; omega) (by omega) w
  rw [hz1, Nat.mul_one, show madeCells (Value.int .i64 0).cells 2 = (intCells (Dn.two [])).toArray from by show madeCells #[Value.int .i64 0] 2 = _; rw [made_one]; rfl] at h
  exact h
set_option maxRecDepth 10000 in
set_option maxHeartbeats 2000000 in
theorem spec_l8Trivial (g : Int) (a : Option Addr) (c : Nat) (l : List Int) (w : World) (ha : RowAt w a (intCells l)) (hl : l.length ≤ 1000) (hG : Dn.Gr g) (hL : ∀ x ∈ l, Dn.Let g x) :
    Calls Try.prog 126 #[.int .i64 g, .slice a l.length c] w fun e w' => e = .returned (.bool (decide (Dn.Triv g l))) ∧ Below w.heap.size w w' := by
  rcases Dn.gr_cases hG with rfl | rfl
  · rw [Dn.triv_one]
    have hmk := Dn.two_make w
    have HL := Lib.hid hL; have Ha := Lib.hid ha
    clear hL ha hG
    generalize hN : w.heap.size = N at *
    have HN := Lib.hid hN
    go_enter Try.func126, Try.ntmps126
    go_wp2
    clear hN
    go_loopw [6] (fun iv wr => ∃ i : Nat, i ≤ l.length ∧ iv = .int .i64 i ∧ Hid (Below N w wr) ∧ Hid (Blk wr N 3 (intCells (Dn.two (l.take i))).toArray)) (fun iv _ => l.length - (intOf iv).toNat)
    case atStart => exact ⟨0, by omega, rfl, Lib.hid (by have h := (Below.refl w.heap.size w).alloc (Nat.le_refl _) (.cells (intCells (Dn.two [])).toArray 3); rw [HN.out] at h; exact h), Lib.hid (by have h := Blk.new w 3 (intCells (Dn.two [])).toArray; rw [HN.out] at h; exact h)⟩
    case round =>
      obtain ⟨i, hi, rfl, hb, hk⟩ := hrel
      by_cases hlt : i < l.length
      · obtain ⟨b, o, rfl, hbw, hcell⟩ := intCells_at (Ha.out.below (by rw [HN.out]; exact hb.out)) hlt
        obtain ⟨⟨hx0, hx1, hx2⟩, hx3⟩ := HL.out _ (List.getElem_mem hlt)
        obtain ⟨j, hj⟩ : ∃ j : Nat, l[i].natAbs = j + 1 := ⟨l[i].natAbs - 1, by omega⟩
        have hj2 : j < 2 := by omega
        have hput := Dn.two_put hlt hj2 hj
        have hbd := Dn.two_bound (l.take i) j
        rw [List.length_take] at hbd
        have hcj := ints_cell hk.out (j := j) hj2
        have hfz := hk.out.frozen j
        have habs := fun W => spec_l3Abs l[i] W (by omega) (by omega)
        rw [hj, Int.natCast_add, show ((1 : Nat) : Int) = 1 from rfl] at habs
        have Habs := Lib.hid habs
        have h0i : (0 : Int) ≤ (i : Int) := by omega
        have hil : (i : Int) < (l.length : Int) := by omega
        have h0j : (0 : Int) ≤ (j : Int) := by omega
        have hj2' : (j : Int) < 2 := by omega
        have hwj := wrap_small (x := (j : Int)) (by omega) (by omega)
        have hwn := wrap_small (x := (j : Int) + 1) (by omega) (by omega)
        by_cases hpos : 0 < l[i]
        · have hwt : Dn.wt j l[i] = 1 := by unfold Dn.wt; rw [if_pos (by omega)]
          have d1 : decide (0 < l[i]) = true := decide_eq_true hpos
          have d2 : decide (l[i] < 0) = false := decide_eq_false (by omega)
          have HbA := Lib.hid (fun W => spec_l1Bit true W)
          have HbB := Lib.hid (fun W => spec_l1Bit false W)
          rw [hwt] at hput
          have Hput := Lib.hid hput
          clear hput hwt habs hj hpos hx0 hx1 hx2 hx3
          generalize l[i] = x at *
          generalize (Dn.two (l.take i)).getD j 0 = s at *
          have hws := wrap_small (x := s + 1) (by omega) (by omega)
          have hwt := wrap_small (x := s) (by omega) (by omega)
          go_wp2
          go_still_tail 31, (by kernel_rfl)
          still_call (Habs.out _)
          repeat still_step
          still_call (Habs.out _)
          repeat still_step
          still_call (HbA.out _)
          repeat still_step
          still_call (HbB.out _)
          repeat still_step
          refine wpStill_nil ?_
          change wpList _ _ _ _ _ wr.drew
          go_wp2
          go_roundw
          case rel =>
            refine ⟨i + 1, by omega, by go_num, Lib.hid (Below.setCell (below_drewN hb.out 1) (Nat.le_refl _) _), Lib.hid ?_⟩
            have h := (hk.out.drewN 1).put j (.int .i64 (s + 1))
            rw [← Hput.out]
            rw [List.setIfInBounds_toArray] at h
            unfold intCells at h ⊢
            rw [List.map_set]; exact h
          case measure => simp [intOf]; omega
        · have hwt : Dn.wt j l[i] = -1 := by unfold Dn.wt; rw [if_neg (by omega), if_pos (by omega)]
          have d1 : decide (0 < l[i]) = false := decide_eq_false hpos
          have d2 : decide (l[i] < 0) = true := decide_eq_true (by omega)
          have HbA := Lib.hid (fun W => spec_l1Bit true W)
          have HbB := Lib.hid (fun W => spec_l1Bit false W)
          rw [hwt, ← Int.sub_eq_add_neg] at hput
          have Hput := Lib.hid hput
          clear hput hwt habs hj hpos hx0 hx1 hx2 hx3
          generalize l[i] = x at *
          generalize (Dn.two (l.take i)).getD j 0 = s at *
          have hws := wrap_small (x := s - 1) (by omega) (by omega)
          have hwt := wrap_small (x := s) (by omega) (by omega)
          go_wp2
          go_still_tail 31, (by kernel_rfl)
          still_call (Habs.out _)
          repeat still_step
          still_call (Habs.out _)
          repeat still_step
          still_call (HbB.out _)
          repeat still_step
          still_call (HbA.out _)
          repeat still_step
          refine wpStill_nil ?_
          change wpList _ _ _ _ _ wr.drew
          go_wp2
          go_roundw
          case rel =>
            refine ⟨i + 1, by omega, by go_num, Lib.hid (Below.setCell (below_drewN hb.out 1) (Nat.le_refl _) _), Lib.hid ?_⟩
            have h := (hk.out.drewN 1).put j (.int .i64 (s - 1))
            rw [← Hput.out]
            rw [List.setIfInBounds_toArray] at h
            unfold intCells at h ⊢
            rw [List.map_set]; exact h
          case measure => simp [intOf]; omega
      · obtain rfl : i = l.length := by omega
        rw [List.take_of_length_le (Nat.le_refl _)] at hk
        have hc0 := ints_cell hk.out (j := 0) (by simp [Dn.two])
        have hc1 := ints_cell hk.out (j := 1) (by simp [Dn.two])
        rw [show (Dn.two l).getD 0 0 = Dn.tot 0 l from rfl] at hc0
        rw [show (Dn.two l).getD 1 0 = Dn.tot 1 l from rfl] at hc1
        generalize hs0 : Dn.tot 0 l = s0 at *
        generalize hs1 : Dn.tot 1 l = s1 at *
        have Hs0 := Lib.hid hs0; have Hs1 := Lib.hid hs1
        clear hs0 hs1
        by_cases h0 : s0 = 0
        · have d0 : (s0 == 0) = true := beq_iff_eq.2 h0
          by_cases h1 : s1 = 0
          · have d1 : (s1 == 0) = true := beq_iff_eq.2 h1
            have Hr := Lib.hid (show decide (s0 = 0 ∧ s1 = 0) = true from decide_eq_true ⟨h0, h1⟩)
            clear h0 h1
            go_wp2
            go_ret
            exact ⟨by rw [Hs0.out, Hs1.out, Hr.out]; rfl, hb.out⟩
          · have d1 : (s1 == 0) = false := beq_eq_false_iff_ne.2 h1
            have Hr := Lib.hid (show decide (s0 = 0 ∧ s1 = 0) = false from decide_eq_false fun h => h1 h.2)
            clear h0 h1
            go_wp2
            go_ret
            exact ⟨by rw [Hs0.out, Hs1.out, Hr.out]; rfl, hb.out⟩
        · have d0 : (s0 == 0) = false := beq_eq_false_iff_ne.2 h0
          have Hr := Lib.hid (show decide (s0 = 0 ∧ s1 = 0) = false from decide_eq_false fun h => h0 h.1)
          clear h0
          go_wp2
          go_ret
          exact ⟨by rw [Hs0.out, Hs1.out, Hr.out]; rfl, hb.out⟩
  · rw [Dn.triv_two]
    have hcD := spec_l8Dehn 2 a c l w ha hl hG hL
    generalize hD : Dn.dehn 2 (Word.red l) = D at *
    have HcD := Lib.hid hcD; have HD := Lib.hid hD
    clear ha hcD hD hL hG
    by_cases h0 : D.length = 0
    · have d0 : ((D.length : Int) == 0) = true := beq_iff_eq.2 (by omega)
      have H0 := Lib.hid h0; clear h0
      go_enter Try.func126, Try.ntmps126
      go_wp2_with fail
      refine HcD.out.mono ?_
      rintro e w2 ⟨sa, sc, rfl, hsc, hscm, hfs, hb2⟩
      have Hb2 := Lib.hid hb2
      clear hfs hb2
      go_wp2
      go_ret
      exact ⟨by rw [decide_eq_true H0.out]; rfl, Hb2.out⟩
    · have d0 : ((D.length : Int) == 0) = false := beq_eq_false_iff_ne.2 (by omega)
      have H0 := Lib.hid h0; clear h0
      go_enter Try.func126, Try.ntmps126
      go_wp2_with fail
      refine HcD.out.mono ?_
      rintro e w2 ⟨sa, sc, rfl, hsc, hscm, hfs, hb2⟩
      have Hb2 := Lib.hid hb2
      clear hfs hb2
      go_wp2
      go_ret
      exact ⟨by rw [decide_eq_false H0.out]; rfl, Hb2.out⟩

set_option maxRecDepth 10000 in
set_option maxHeartbeats 1000000 in
theorem spec_IsTrivialWord (g : Int) (a : Option Addr) (c : Nat) (l : List Int) (w : World) (ha : RowAt w a (intCells l)) (hl : l.length ≤ 1048576) :
    Calls Try.prog 62 #[.int .i64 g, .slice a l.length c] w fun e w' => e = .returned (.bool (decide (Dn.TrivW g l))) ∧ Below w.heap.size w w' := by
  have hcF := spec_l8Fits g a c l w ha hl
  by_cases hF : Dn.Fit g l
  · rw [decide_eq_true hF] at hcF
    rw [Dn.trivW_of hF]
    have hcT := fun W (hb : Below w.heap.size w W) => spec_l8Trivial g a c l W (ha.below hb) (by have := hF.2.1.2; omega) hF.1 hF.lets
    generalize hT : decide (Dn.Triv g l) = T at *
    have HcF := Lib.hid hcF; have HcT := Lib.hid hcT; have HT := Lib.hid hT
    clear hcF hF hcT ha hT
    go_enter Try.func62, Try.ntmps62
    go_wp2_with fail
    refine HcF.out.mono ?_
    rintro e w1 ⟨rfl, hb1⟩
    have Hb1 := Lib.hid hb1; clear hb1
    go_wp2_with fail
    refine (HcT.out w1 Hb1.out).mono ?_
    rintro e w2 ⟨rfl, hb2⟩
    have Hb2 := Lib.hid (Hb1.out.trans (hb2.mono Hb1.out.size)); clear hb2
    go_wp2
    go_ret
    exact ⟨rfl, Hb2.out⟩
  · rw [decide_eq_false hF] at hcF
    rw [Dn.trivW_not hF]
    have HcF := Lib.hid hcF
    clear hcF hF
    go_enter Try.func62, Try.ntmps62
    go_wp2_with fail
    refine HcF.out.mono ?_
    rintro e w1 ⟨rfl, hb1⟩
    go_wp2
    go_ret
    exact ⟨rfl, hb1⟩
end Go.Proofs.Ytfaagbmaekoogaa
