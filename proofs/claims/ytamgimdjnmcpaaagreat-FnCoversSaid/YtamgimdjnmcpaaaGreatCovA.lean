/-
  The walk of the model's inverse of a permutation. The walks of the model's l9Perms, l9Act and ActWord. The walks of the program's doPermute, hasLettersUpTo, sheetBehind and ActWord. The walks of IsAction, the program's and the model's.
-/
import Derived.Test.YtamgimdjnmcpaaaGreatBase
import Derived.Test.YtamgimdjnmcpaaaGreatSlice
import Derived.Test.YtamgimdjnmcpaaaGreatInts
import Derived.Test.YtamgimdjnmcpaaaGreatOwn
import Derived.Test.YtamgimdjnmcpaaaGreatClass
import Derived.Test.YtamgimdjnmcpaaaGreatLab
import Derived.Test.YtamgimdjnmcpaaaGreatMap
import Derived.Test.YtamgimdjnmcpaaaGreatWord
import Derived.Test.YtamgimdjnmcpaaaGreatIsWord
import Derived.Test.YtamgimdjnmcpaaaGreatGrid
import Derived.Test.YtamgimdjnmcpaaaGreatMapA
import Derived.Test.YtamgimdjnmcpaaaGreatUses
import Derived.Test.YtamgimdjnmcpaaaGreatCov
import Derived.Deep.QuietTactic
import Derived.BigQuiet
import Derived.StillTailTactics
import Derived.Test.YtamgimdjnmcpaaaGreatMapG
import Derived.Test.YtamgimdjnmcpaaaGreatReduce
import Derived.Test.YtamgimdjnmcpaaaGreatSurf
import Derived.Test.YtamgimdjnmcpaaaGreatAm
import Derived.Test.YtamgimdjnmcpaaaGreatGrpA
import Derived.Deep.RegionHeld3
namespace Go.Proofs.YtamgimdjnmcpaaaGreat
open Go.RowKit

/-- A row that a call has made. -/
theorem lab_givesP {w w' : World} {g n : Nat} {f : Nat → Nat} (h : Lab w' g f n) (hg : w.heap.size ≤ g) (hn : n ≤ maxLen) (hb : Below w.heap.size w w') : Gives w (Cls.row f n) (.returned (.slice (some ⟨g, 0, none⟩) n n)) w' := by
  obtain ⟨all, h1, h2⟩ := h
  refine ⟨_, n, by rw [Cls.row_len], by rw [Cls.row_len]; exact Nat.le_refl _, hn, Or.inr ⟨g, 0, all, rfl, hg, h1, fun i v hv => ?_⟩, hb⟩
  have hi : i < n := by
    have := (List.getElem?_eq_some_iff.1 hv).1
    rwa [intCells_len, Cls.row_len] at this
  rw [Nat.zero_add, h2 i hi]
  rw [intCells_get (by rw [Cls.row_len]; exact hi)] at hv
  have hr : (Cls.row f n)[i]'(by rw [Cls.row_len]; exact hi) = ((f i : Nat) : Int) := by simp [Cls.row]
  rw [hr] at hv
  exact hv
set_option maxRecDepth 100000 in
theorem mk_zerosP (n : Nat) (h1 : n ≤ 1000) (w : World) : (Instr.makeSlice 30 (.int .i64 (n : Int)) (.int .i64 (n : Int))).run Tryz.prog w = .ok (.slice (some ⟨w.heap.size, 0, none⟩) n n) (w.alloc (.cells (intCells (Cls.row (fun _ => 0) n)).toArray 3)) := by
  obtain ⟨i0, hi, hz0, hz1, hz2⟩ := info_parts info_int
  have h := run_make_rowN (P := Tryz.prog) 30 3 i0 _ Tryz.underlying30 hi hz0 .i64 .i64 n n (Nat.le_refl _) (by rw [hz2]; omega) (by omega) w
  have e : madeCells (Value.int .i64 0).cells (n * i0.size) = (intCells (Cls.row (fun _ => 0) n)).toArray := by
    rw [hz1, Nat.mul_one]
    show madeCells #[Value.int .i64 0] n = _
    rw [made_one]
    congr 1
    apply List.ext_getElem?
    intro k
    by_cases hk : k < n
    · simp [intCells, Cls.row, hk]
    · rw [List.getElem?_eq_none (by simp; omega), List.getElem?_eq_none (by rw [intCells_len, Cls.row_len]; omega)]
  rw [e] at h
  exact h

set_option maxRecDepth 10000 in
set_option maxHeartbeats 1000000 in
set_option maxRecDepth 10000 in
set_option maxHeartbeats 1000000 in
theorem spec_l6InverseP (a : Option Addr) (c : Nat) (l : List Int) (w : World) (ha : RowAt w a (intCells l)) (hn : l.length ≤ 1000) (hM : Mp.IsP l) :
    Calls Tryz.prog 95 #[.slice a l.length c] w fun e w' => Gives w (Mp.mirror l) e w' := by
  have hmk := mk_zerosP l.length (by omega)
  have hst := Lab.of_blk (Blk.new w 3 (intCells (Cls.row (fun _ => 0) l.length)).toArray)
  have hb0 := (Below.refl w.heap.size w).alloc (Nat.le_refl _) (.cells (intCells (Cls.row (fun _ => 0) l.length)).toArray 3)
  have hgv := fun w' (h : Lab w' w.heap.size (Mp.invTo l l.length) l.length) (hb : Below w.heap.size w w') => lab_givesP h (Nat.le_refl _) (by unfold maxLen; omega) hb
  generalize hN : w.heap.size = N at *
  have HN := Lib.hid hN
  have Hst := Lib.hid hst; have Hb0 := Lib.hid hb0; have Ha := Lib.hid ha; have HM := Lib.hid hM; have Hgv := Lib.hid hgv
  clear hst hb0 ha hM hgv
  go_enter Tryz.func95, Tryz.ntmps95
  go_wp2
  go_loopw [4] (fun iv wr => ∃ i : Nat, i ≤ l.length ∧ iv = .int .i64 i ∧ Hid (Below N w wr) ∧ Hid (Lab wr N (Mp.invTo l i) l.length)) (fun iv _ => l.length - (intOf iv).toNat)
  case atStart => exact ⟨0, by omega, rfl, Hb0, Hst⟩
  case round =>
    obtain ⟨i, hi, rfl, hb, hk⟩ := hrel
    by_cases hlt : i < l.length
    · have hx := Mp.at_get HM.out hlt
      have hyl := Mp.at_lt HM.out hlt
      obtain ⟨b, o, rfl, hbw, hcell⟩ := intCells_get? (Ha.out.below (by rw [HN.out]; exact hb.out)) hx
      have hdst := hk.out.cell hyl
      have hfz := hk.out.frozen (Mp.at_ l i)
      have hput := hk.out.put (b := i) hyl
      have hst := hb.out.setCell (p := ⟨N, Mp.at_ l i, none⟩) (Nat.le_refl _) (.int .i64 ((i : Nat) : Int))
      have Hnext : Hid (∀ k, (if k = Mp.at_ l i then i else Mp.invTo l i k) = Mp.invTo l (i + 1) k) := Lib.hid (fun k => rfl)
      generalize Mp.invTo l i (Mp.at_ l i) = z at hdst
      generalize Mp.at_ l i = y at *
      have Hput := Lib.hid hput; have Hst2 := Lib.hid hst
      clear hput hst hx
      go_wp2
      go_roundw
      case rel => exact ⟨i + 1, by omega, by go_num, Hst2, Lib.hid (Hput.out.congr fun k _ => Hnext.out k)⟩
      case measure => simp [intOf]; omega
    · obtain rfl : i = l.length := by omega
      go_wp2
      go_ret
      exact Hgv.out _ hk.out hb.out
end Go.Proofs.YtamgimdjnmcpaaaGreat
namespace Go.Proofs.YtamgimdjnmcpaaaGreat
open Go.RowKit

namespace Cv
theorem head_get {L : List (List Int)} (h : 0 < L.length) : ∃ r, L[0]? = some r ∧ r.length = deg L := by
  cases L with
  | nil => simp at h
  | cons r L => exact ⟨r, rfl, rfl⟩
theorem perms_bad {L : List (List Int)} {p : List Int} {i : Nat} (h : L[i]? = some p) (hb : ¬ (p.length = deg L ∧ Mp.IsP p)) : ¬ Perms L := fun hP => hb (hP.1 p (get_mem h))
theorem perms_all {L : List (List Int)} (h : ∀ i p, i < L.length → L[i]? = some p → p.length = deg L ∧ Mp.IsP p) : Perms L ↔ ((1 : Int) ≤ (L.length : Int) ∧ (L.length : Int) ≤ 8) ∧ ((1 : Int) ≤ (deg L : Int) ∧ (deg L : Int) ≤ 5) := by
  constructor
  · rintro ⟨_, h1, h2, h3, h4⟩; omega
  · rintro ⟨⟨h1, h2⟩, h3, h4⟩
    refine ⟨fun p hp => ?_, by omega, by omega, by omega, by omega⟩
    obtain ⟨i, hi, e⟩ := List.mem_iff_getElem.1 hp
    exact h i p hi (by rw [List.getElem?_eq_getElem hi, e])
end Cv

set_option maxRecDepth 10000 in
set_option maxHeartbeats 2000000 in
theorem spec_l9Perms (a : Option Addr) (c : Nat) (L : List (List Int)) (w : World) (ha : GridAt w a L) (hl : ∀ p ∈ L, p.length ≤ 1048576) (hn : L.length ≤ 1048576) :
    Calls Tryz.prog 54 #[.slice a L.length c] w fun e w' => e = .returned (.bool (decide (Cv.Perms L))) ∧ Below w.heap.size w w' := by
  have Ha := Lib.hid ha; have Hl := Lib.hid hl
  clear ha hl
  go_enter Tryz.func54, Tryz.ntmps54
  go_wp2
  go_loopw [3] (fun iv wr => ∃ i : Nat, i ≤ L.length ∧ iv = .int .i64 i ∧ Hid (∀ j p, j < i → L[j]? = some p → p.length = Cv.deg L ∧ Mp.IsP p) ∧ Hid (Below w.heap.size w wr)) (fun iv _ => L.length - (intOf iv).toNat)
  case atStart => exact ⟨0, by omega, rfl, Lib.hid (fun j p h => absurd h (by omega)), Lib.hid (Below.refl _ _)⟩
  case round =>
    obtain ⟨i, hi, rfl, hall, hb⟩ := hrel
    by_cases hlt : i < L.length
    · have dlt : decide (i < L.length) = true := decide_eq_true hlt
      obtain ⟨p, hp⟩ := get_some hlt
      obtain ⟨r0, hr0, hr0l⟩ := Cv.head_get (L := L) (by omega)
      obtain ⟨b, o, ai, ci, rfl, hbw, hcell, hrow⟩ := (Ha.out.below hb.out).get hp
      obtain ⟨b', o', a0, c0, he, hbw', hcell0, _⟩ := (Ha.out.below hb.out).get hr0
      cases he
      rw [Nat.add_zero] at hcell0
      have i0 : (0 : Int) ≤ (i : Int) := by omega
      have i1 : (i : Int) < (L.length : Int) := by omega
      have i2 : 0 < L.length := by omega
      have hpl := Hl.out p (get_mem hp)
      have hP := fun W (h : RowAt W ai (intCells p)) => spec_l6Perm ai ci p W h hpl
      have Hp := Lib.hid hp; have Hrow := Lib.hid hrow; have Hr0 := Lib.hid hr0l
      clear hp hr0 hrow hr0l
      by_cases hlen : p.length = r0.length
      · have dne : ((p.length : Int) != (r0.length : Int)) = false := by simp [hlen]
        by_cases hip : Mp.IsP p
        · rw [decide_eq_true hip] at hP
          have HP := Lib.hid hP
          have Hall := Lib.hid (show ∀ j q, j < i + 1 → L[j]? = some q → q.length = Cv.deg L ∧ Mp.IsP q from fun j q hj hq => by
            rcases Nat.lt_or_ge j i with h | h
            · exact hall.out j q h hq
            · obtain rfl : j = i := by omega
              rw [Hp.out] at hq
              cases hq
              exact ⟨hlen.trans Hr0.out, hip⟩)
          clear hP hlen hip
          go_wp2
          go_still_tail 15, (by kernel_rfl)
          change wpList _ _ _ _ _ wr.drew
          go_wp2_with fail
          refine (HP.out wr.drew (Hrow.out.below (Below.refl _ _).drew)).mono ?_
          rintro e w1 ⟨rfl, hb1⟩
          have Hb1 := Lib.hid (hb.out.drew.trans (hb1.mono hb.out.size)); clear hb1
          go_wp2
          go_roundw
          case rel => exact ⟨i + 1, by omega, by go_num, Hall, Hb1⟩
          case measure => simp [intOf]; omega
        · rw [decide_eq_false hip] at hP
          have HP := Lib.hid hP
          have Hd := Lib.hid (show decide (Cv.Perms L) = false from decide_eq_false (Cv.perms_bad Hp.out fun h => hip h.2))
          clear hP hlen hip
          go_wp2
          go_still_tail 15, (by kernel_rfl)
          change wpList _ _ _ _ _ wr.drew
          go_wp2_with fail
          refine (HP.out wr.drew (Hrow.out.below (Below.refl _ _).drew)).mono ?_
          rintro e w1 ⟨rfl, hb1⟩
          have Hb1 := Lib.hid (hb.out.drew.trans (hb1.mono hb.out.size)); clear hb1
          go_wp2
          go_ret
          exact ⟨by rw [Hd.out]; rfl, Hb1.out⟩
      · have dne : ((p.length : Int) != (r0.length : Int)) = true := by simp; omega
        have Hd := Lib.hid (show decide (Cv.Perms L) = false from decide_eq_false (Cv.perms_bad Hp.out fun h => hlen (h.1.trans Hr0.out.symm)))
        clear hP hlen
        go_wp2
        go_still_tail 15, (by kernel_rfl)
        change wpList _ _ _ _ _ wr.drew
        go_wp2
        go_ret
        exact ⟨by rw [Hd.out]; rfl, hb.out.drew⟩
    · obtain rfl : i = L.length := by omega
      have dlt : decide (L.length < L.length) = false := decide_eq_false (by omega)
      have Hall := Lib.hid (Cv.perms_all (L := L) hall.out)
      have hc1 := fun W => spec_l1In (L.length : Int) 1 8 W
      by_cases h1 : (1 : Int) ≤ (L.length : Int) ∧ (L.length : Int) ≤ 8
      · rw [decide_eq_true h1] at hc1
        have Hc1 := Lib.hid hc1
        obtain ⟨r0, hr0, hr0l⟩ := Cv.head_get (L := L) (by omega)
        obtain ⟨b', o', a0, c0, rfl, hbw', hcell0, _⟩ := (Ha.out.below hb.out).get hr0
        rw [Nat.add_zero] at hcell0
        have i2 : 0 < L.length := by omega
        have hc2 := fun W => spec_l1In (r0.length : Int) 1 5 W
        have Hres := Lib.hid (show decide (Cv.Perms L) = decide ((1 : Int) ≤ (r0.length : Int) ∧ (r0.length : Int) ≤ 5) from decide_eq_decide.2 (by rw [Hall.out, ← hr0l]; exact ⟨fun h => h.2, fun h => ⟨h1, h⟩⟩))
        generalize decide ((1 : Int) ≤ (r0.length : Int) ∧ (r0.length : Int) ≤ 5) = d at *
        have Hc2 := Lib.hid hc2
        clear hc1 hc2 h1 hr0 hr0l
        go_wp2_with fail
        refine (Hc1.out _).mono ?_
        rintro e w1 ⟨rfl, hw1⟩
        rw [hw1]; clear hw1 w1
        go_wp2_with fail
        refine (Hc2.out _).mono ?_
        rintro e w1 ⟨rfl, hw1⟩
        rw [hw1]; clear hw1 w1
        go_wp2
        go_ret
        exact ⟨by rw [Hres.out]; rfl, hb.out⟩
      · rw [decide_eq_false h1] at hc1
        have Hc1 := Lib.hid hc1
        have Hd := Lib.hid (show decide (Cv.Perms L) = false from decide_eq_false (by rw [Hall.out]; exact fun h => h1 h.1))
        clear hc1 h1
        go_wp2_with fail
        refine (Hc1.out _).mono ?_
        rintro e w1 ⟨rfl, hw1⟩
        rw [hw1]; clear hw1 w1
        go_wp2
        go_ret
        exact ⟨by rw [Hd.out]; rfl, hb.out⟩

set_option maxRecDepth 10000 in
set_option maxHeartbeats 2000000 in
theorem spec_l9Act (a aw : Option Addr) (c cw : Nat) (L : List (List Int)) (l : List Int) (s0 : Nat) (w : World) (ha : GridAt w a L) (haw : RowAt w aw (intCells l)) (hP : Cv.Perms L) (hl : l.length ≤ 1000) (hf : ∀ x ∈ l, x ≠ 0 ∧ x.natAbs ≤ L.length) (hs0 : s0 < Cv.deg L) :
    Calls Tryz.prog 57 #[.slice a L.length c, .slice aw l.length cw, .int .i64 (s0 : Int)] w fun e w' => e = .returned (.int .i64 ((Cv.act L l s0 : Nat) : Int)) ∧ Below w.heap.size w w' := by
  have Ha := Lib.hid ha; have Haw := Lib.hid haw; have HP := Lib.hid hP; have Hf := Lib.hid hf; have Hs0 := Lib.hid hs0
  clear ha haw hP hf hs0
  go_enter Tryz.func57, Tryz.ntmps57
  go_wp2
  go_loopw [2, 7, 8] (fun sv iv _ wr => ∃ i : Nat, i ≤ l.length ∧ iv = .int .i64 i ∧ sv = .int .i64 ((Cv.act L (l.take i) s0 : Nat) : Int) ∧ Hid (Below w.heap.size w wr)) (fun _ iv _ _ => l.length - (intOf iv).toNat)
  case atStart => exact ⟨0, by omega, rfl, rfl, Lib.hid (Below.refl _ _)⟩
  case round =>
    obtain ⟨i, hi, rfl, rfl, hb⟩ := hrel
    by_cases hlt : i < l.length
    · have dlt : decide (i < l.length) = true := decide_eq_true hlt
      obtain ⟨b, o, rfl, hbw, hcell⟩ := intCells_at (Haw.out.below hb.out) hlt
      obtain ⟨hx0, hx1⟩ := Hf.out _ (List.getElem_mem hlt)
      have hstep := Cv.act_take (L := L) hlt s0
      have hslt : Cv.act L (l.take i) s0 < Cv.deg L := Cv.act_lt HP.out (fun x hx => Hf.out x (List.mem_of_mem_take hx)) Hs0.out
      obtain ⟨hpP, hpl⟩ := Cv.perm_isP HP.out hx0 hx1
      have hlen8 := HP.out.2.2.1
      have h5 := HP.out.2.2.2.2
      obtain ⟨j, hj⟩ : ∃ j : Nat, l[i].natAbs = j + 1 := ⟨l[i].natAbs - 1, by omega⟩
      have hjl : j < L.length := by omega
      obtain ⟨p, hp⟩ := get_some hjl
      obtain ⟨b', o', ai, ci, rfl, hbw', hcell', hrow⟩ := (Ha.out.below hb.out).get hp
      have habs := fun W => spec_l3Abs l[i] W (by omega) (by omega)
      rw [hj, Int.natCast_add, show ((1 : Nat) : Int) = 1 from rfl] at habs
      have hpm := HP.out.1 p (get_mem hp)
      have hperm : Cv.perm L l[i] = if l[i] < 0 then Mp.mirror p else p := by
        unfold Cv.perm
        rw [hj, Nat.add_sub_cancel, List.getD_eq_getElem?_getD, hp]; rfl
      rw [show Cv.img L (Cv.act L (l.take i) s0) l[i] = Mp.at_ (Cv.perm L l[i]) (Cv.act L (l.take i) s0) from rfl] at hstep
      generalize Cv.act L (l.take i) s0 = s at *
      generalize hx : l[i] = x at *
      have Hx := Lib.hid hx; have Hstep := Lib.hid hstep; have Habs := Lib.hid habs; have Hrow := Lib.hid hrow; have Hpm := Lib.hid hpm
      have i0 : (0 : Int) ≤ (i : Int) := by omega
      have i1 : (i : Int) < (l.length : Int) := by omega
      have j0 : (0 : Int) ≤ (j : Int) := by omega
      have j1 : (j : Int) < (L.length : Int) := by omega
      have s2 : (0 : Int) ≤ (s : Int) := by omega
      clear hx hstep habs hrow hpm hp hj
      by_cases hneg : x < 0
      · have dneg : decide (x < 0) = true := decide_eq_true hneg
        rw [if_pos hneg] at hperm
        have hI := fun W (h : RowAt W ai (intCells p)) => spec_l6InverseP ai ci p W h (by have := Hpm.out.1; omega) Hpm.out.2
        rw [← hperm] at hI
        generalize Cv.perm L x = q at *
        have HI := Lib.hid hI; have HqP := Lib.hid hpP
        have s1 : s < q.length := by omega
        have s3 : (s : Int) < (q.length : Int) := by omega
        have Hat := Lib.hid (Mp.at_get hpP s1)
        clear hI hperm hpP hneg
        go_wp2_with fail
        refine (Habs.out _).mono ?_
        rintro e w1 ⟨rfl, hw1⟩
        rw [hw1]; clear hw1 w1
        go_wp2_with fail
        refine (HI.out wr Hrow.out).mono ?_
        rintro e w1 ⟨qa, qc, rfl, hqc, hqcm, hfq, hb1⟩
        obtain ⟨b2, o2, rfl, hbw2, hcell2⟩ := intCells_get? hfq.row Hat.out
        have Hb1 := Lib.hid (hb.out.trans (hb1.mono hb.out.size))
        clear hfq hb1
        go_wp2
        go_roundw
        case rel => exact ⟨i + 1, by omega, by go_num, by rw [Hstep.out], Hb1⟩
        case measure => simp [intOf]; omega
      · have dneg : decide (x < 0) = false := decide_eq_false hneg
        rw [if_neg hneg] at hperm
        rw [hperm] at hpP hpl Hstep
        have s1 : s < p.length := by omega
        have s3 : (s : Int) < (p.length : Int) := by omega
        obtain ⟨b2, o2, rfl, hbw2, hcell2⟩ := intCells_get? Hrow.out (Mp.at_get hpP s1)
        clear hperm hpP hneg
        go_wp2_with fail
        refine (Habs.out _).mono ?_
        rintro e w1 ⟨rfl, hw1⟩
        rw [hw1]; clear hw1 w1
        go_wp2
        go_roundw
        case rel => exact ⟨i + 1, by omega, by go_num, by rw [Hstep.out], hb⟩
        case measure => simp [intOf]; omega
    · obtain rfl : i = l.length := by omega
      rw [List.take_of_length_le (Nat.le_refl _)]
      have dlt : decide (l.length < l.length) = false := decide_eq_false (by omega)
      generalize hA : Cv.act L l s0 = A at *
      have HA := Lib.hid hA; clear hA
      go_wp2
      go_ret
      exact ⟨by rw [HA.out]; rfl, hb.out⟩
theorem Cv.actW_of {L : List (List Int)} {l : List Int} (h : Cv.Ok L l) : Cv.actW L l = Cv.row L l (Cv.deg L) := if_pos h
theorem Cv.actW_not {L : List (List Int)} {l : List Int} (h : ¬ Cv.Ok L l) : Cv.actW L l = [] := if_neg h
set_option maxRecDepth 10000 in
set_option maxHeartbeats 2000000 in
theorem spec_ActWord (a aw : Option Addr) (c cw : Nat) (L : List (List Int)) (l : List Int) (w : World) (ha : GridAt w a L) (hL : ∀ p ∈ L, p.length ≤ 1048576) (hn : L.length ≤ 1048576) (haw : RowAt w aw (intCells l)) (hl : l.length ≤ 1048576) :
    Calls Tryz.prog 16 #[.slice a L.length c, .slice aw l.length cw] w fun e w' => Gives w (Cv.actW L l) e w' := by
  have hcP := spec_l9Perms a c L w ha hL hn
  have hcW := fun W (hb : Below w.heap.size w W) => spec_IsWord aw cw l W (haw.below hb) hl
  have Ha := Lib.hid ha; have Haw := Lib.hid haw
  clear ha haw hL
  obtain ⟨i0, hi0, hz0, hz1, hz2⟩ := info_int_parts
  have Hi0 := Lib.hid hi0; have Hz0 := Lib.hid hz0; have Hz1 := Lib.hid hz1; have Hz2 := Lib.hid hz2
  clear hi0 hz0 hz1 hz2
  by_cases hP : Cv.Perms L
  · rw [decide_eq_true hP] at hcP
    by_cases hW : Word.IsW l
    · rw [decide_eq_true hW] at hcW
      have HcP := Lib.hid hcP; have HcW := Lib.hid hcW; have HP := Lib.hid hP; have HW := Lib.hid hW
      have hl24 := hW.2
      have hlen8 := hP.2.2.1
      have hlen1 := hP.2.1
      have h5 := hP.2.2.2.2
      clear hcP hcW hP hW
      go_enter Tryz.func16, Tryz.ntmps16
      go_wp2_with fail
      refine HcP.out.mono ?_
      rintro e w1 ⟨rfl, hb1⟩
      have Hb1 := Lib.hid hb1; clear hb1
      go_wp2_with fail
      refine (HcW.out w1 Hb1.out).mono ?_
      rintro e w2 ⟨rfl, hb2⟩
      have Hb2 := Lib.hid (Hb1.out.trans (hb2.mono Hb1.out.size)); clear hb2
      go_wp2
      go_loopw [5] (fun iv wr => ∃ i : Nat, i ≤ l.length ∧ iv = .int .i64 i ∧ Hid (∀ j x, j < i → l[j]? = some x → x.natAbs ≤ L.length) ∧ Hid (Below w.heap.size w wr)) (fun iv _ => l.length - (intOf iv).toNat)
      case atStart => exact ⟨0, by omega, rfl, Lib.hid (fun j x h => absurd h (by omega)), Hb2⟩
      case round =>
        obtain ⟨i, hi, rfl, hall, hb⟩ := hrel
        by_cases hlt : i < l.length
        · have dlt : decide (i < l.length) = true := decide_eq_true hlt
          obtain ⟨x, hx⟩ := get_some hlt
          obtain ⟨b, o, rfl, hbw, hcell⟩ := intCells_get? (Haw.out.below hb.out) hx
          obtain ⟨hx0, hx1, hx2⟩ := HW.out.1 x (get_mem hx)
          have habs := fun W => spec_l3Abs x W (by omega) (by omega)
          by_cases hf : x.natAbs ≤ L.length
          · have Hall := Lib.hid (show ∀ j y, j < i + 1 → l[j]? = some y → y.natAbs ≤ L.length from fun j y hj hy => by
              rcases Nat.lt_or_ge j i with h | h
              · exact hall.out j y h hy
              · obtain rfl : j = i := by omega
                rw [hx] at hy; cases hy; exact hf)
            have dgt : decide (L.length < x.natAbs) = false := decide_eq_false (by omega)
            have Habs := Lib.hid habs
            clear habs hx hf
            generalize x.natAbs = y at *
            go_wp2_with fail
            refine (Habs.out _).mono ?_
            rintro e w3 ⟨rfl, hw3⟩
            rw [hw3]; clear hw3 w3
            go_wp2
            go_roundw
            case rel => exact ⟨i + 1, by omega, by go_num, Hall, hb⟩
            case measure => simp [intOf]; omega
          · have Hno := Lib.hid (show ¬ Cv.Ok L l from fun h => hf (h.2.2 x (get_mem hx)))
            have dgt : decide (L.length < x.natAbs) = true := decide_eq_true (by omega)
            have Habs := Lib.hid habs
            clear habs hx hf
            generalize x.natAbs = y at *
            go_wp2_with fail
            refine (Habs.out _).mono ?_
            rintro e w3 ⟨rfl, hw3⟩
            rw [hw3]; clear hw3 w3
            go_wp2
            go_ret
            rw [Cv.actW_not Hno.out]
            exact own_gives (by exact own_mono (own_made (w := wr) rfl) hb.out.size) rfl (hb.out.alloc hb.out.size _)
        · obtain rfl : i = l.length := by omega
          have dlt : decide (l.length < l.length) = false := decide_eq_false (by omega)
          have hfit : Cv.Fits L l := fun x hx => by
            obtain ⟨j, hj, e⟩ := List.mem_iff_getElem.1 hx
            exact hall.out j x hj (by rw [List.getElem?_eq_getElem hj, e])
          have Hok := Lib.hid (show Cv.Ok L l from ⟨HP.out, HW.out, hfit⟩)
          have Hlet := Lib.hid (show ∀ x ∈ l, x ≠ 0 ∧ x.natAbs ≤ L.length from fun x hx => ⟨(HW.out.1 x hx).1, hfit x hx⟩)
          clear hfit hall
          obtain ⟨wo, rfl⟩ : ∃ wo : World, wo = wr := ⟨_, rfl⟩
          obtain ⟨N, hN⟩ : ∃ N, N = wo.heap.size := ⟨_, rfl⟩
          have HN := Lib.hid hN
          have Hm := Lib.hid (own_made (w := wo) hN.symm)
          have Hwo := Lib.hid hb.out.size
          have HbA := Lib.hid (hb.out.alloc hb.out.size (.cells #[] 3))
          clear hN hb
          go_wp2
          go_loopw [6, 7] (fun ov iv wr => ∃ i : Nat, i ≤ Cv.deg L ∧ iv = .int .i64 i ∧ wr.ownsRow N 3 1 ov i (intCells (Cv.row L l i)) ∧ Hid (Below w.heap.size w wr ∧ N ≤ wr.heap.size)) (fun _ iv _ => Cv.deg L - (intOf iv).toNat)
          case atStart => exact ⟨0, by omega, rfl, Hm.out, Lib.hid ⟨HbA.out, by rw [HN.out]; simp⟩⟩
          case round =>
            obtain ⟨i, hi, rfl, hown, hh⟩ := hrel
            obtain ⟨r0, hr0, hr0l⟩ := Cv.head_get (L := L) (by omega)
            obtain ⟨b', o', a0, c0, rfl, hbw', hcell0, _⟩ := (Ha.out.below hh.out.1).get hr0
            rw [Nat.add_zero] at hcell0
            have i2 : 0 < L.length := by omega
            have Hr0l := Lib.hid hr0l
            have hdr : r0.length ≤ 5 := by omega
            have hir : i ≤ r0.length := by omega
            clear hr0 hr0l
            by_cases hlt : i < r0.length
            · have dlt : decide (i < r0.length) = true := decide_eq_true hlt
              have hA := fun W (h : Below w.heap.size w W) => spec_l9Act (some ⟨b', o', none⟩) aw c cw L l i W (Ha.out.below h) (Haw.out.below h) HP.out (by omega) Hlet.out (by rw [← Hr0l.out]; exact hlt)
              have Hsn := Lib.hid (Cv.row_snoc L l i)
              generalize Cv.act L l i = v at *
              have HA := Lib.hid hA
              have Hown := Lib.hid hown
              clear hA hown
              go_wp2_with fail
              refine (HA.out wr hh.out.1).mono ?_
              rintro e w4 ⟨rfl, hb4⟩
              have Hb4 := Lib.hid (hh.out.1.trans (hb4.mono hh.out.1.size))
              have hown4 := own_keep Hown.out hb4 (fun k hk => (Hown.out.lt k hk).2)
              have hN4 : N ≤ w4.heap.size := Nat.le_trans hh.out.2 hb4.size
              have hq1 : i + 1 ≤ maxLen := by unfold maxLen; omega
              have hq2 : (i + 1) * 8 ≤ 140737488355328 := by omega
              obtain ⟨av, cv, rfl⟩ := own_len Hown.out
              clear hb4
              go_wp2_with (at_builtin; refine append_one rfl (.tmp 41) (.tmp 46) 30 rfl N 3 i0 _ 8 Tryz.underlying30 Hi0.out Hz0.out Hz1.out Hz2.out (by rfl) _ _ _ rfl hown4 (by rfl) _ rfl hq1 hq2 hN4 ?_; intro v1 w5 hown5 hg5 _)
              go_roundw
              case rel =>
                refine ⟨i + 1, by have := Hr0l.out; omega, by go_num, ?_, Lib.hid ⟨?_, ?_⟩⟩
                · rw [Hsn.out, ← intCells_snoc]; exact hown5
                · exact Below.grown (Hb4.out.alloc Hb4.out.size _) hg5 (by have := Hb4.out.size; simp; omega) (fun k hk => by have h1 := (hown4.lt k hk).1; have h2 := Hwo.out; have h3 := HN.out; omega)
                · have := hg5.size; simp at this; omega
              case measure => have := Hr0l.out; simp [intOf]; omega
            · have Hi := Lib.hid (show i = Cv.deg L by have := Hr0l.out; omega)
              have dlt : decide (i < r0.length) = false := decide_eq_false hlt
              have Hg := Lib.hid (own_gives (w := w) (l := Cv.row L l i) (own_mono hown (by have h1 := Hwo.out; have h2 := HN.out; omega)) (Cv.row_len L l i) hh.out.1)
              clear hown
              go_wp2
              go_ret
              rw [Cv.actW_of Hok.out, ← Hi.out]
              exact Hg.out
    · rw [decide_eq_false hW] at hcW
      have HcP := Lib.hid hcP; have HcW := Lib.hid hcW; have Hno := Lib.hid (show ¬ Cv.Ok L l from fun h => hW h.2.1)
      clear hcP hcW hP hW
      go_enter Tryz.func16, Tryz.ntmps16
      go_wp2_with fail
      refine HcP.out.mono ?_
      rintro e w1 ⟨rfl, hb1⟩
      have Hb1 := Lib.hid hb1; clear hb1
      go_wp2_with fail
      refine (HcW.out w1 Hb1.out).mono ?_
      rintro e w2 ⟨rfl, hb2⟩
      have Hb2 := Lib.hid (Hb1.out.trans (hb2.mono Hb1.out.size)); clear hb2
      go_wp2
      go_ret
      rw [Cv.actW_not Hno.out]
      exact own_gives (by exact own_mono (own_made (w := w2) rfl) Hb2.out.size) rfl (Hb2.out.alloc Hb2.out.size _)
  · rw [decide_eq_false hP] at hcP
    have HcP := Lib.hid hcP; have Hno := Lib.hid (show ¬ Cv.Ok L l from fun h => hP h.1)
    clear hcP hcW hP
    go_enter Tryz.func16, Tryz.ntmps16
    go_wp2_with fail
    refine HcP.out.mono ?_
    rintro e w1 ⟨rfl, hb1⟩
    have Hb1 := Lib.hid hb1; clear hb1
    go_wp2
    go_ret
    rw [Cv.actW_not Hno.out]
    exact own_gives (by exact own_mono (own_made (w := w1) rfl) Hb1.out.size) rfl (Hb1.out.alloc Hb1.out.size _)
end Go.Proofs.YtamgimdjnmcpaaaGreat
namespace Go.Proofs.YtamgimdjnmcpaaaGreat
open Go.RowKit

theorem Cv.perms_len {L : List (List Int)} (h : ¬ (1 ≤ L.length ∧ L.length ≤ 8)) : ¬ Cv.Perms L := fun hP => h ⟨hP.2.1, hP.2.2.1⟩
theorem Cv.perms_deg {L : List (List Int)} (h : ¬ (1 ≤ Cv.deg L ∧ Cv.deg L ≤ 5)) : ¬ Cv.Perms L := fun hP => h ⟨hP.2.2.2.1, hP.2.2.2.2⟩
set_option maxRecDepth 10000 in
set_option maxHeartbeats 2000000 in
theorem impl_doPermute (a : Option Addr) (c : Nat) (L : List (List Int)) (w : World) (ha : GridAt w a L) (hl : ∀ p ∈ L, p.length ≤ 1048576) (hn : L.length ≤ 1048576) :
    Calls Tryz.prog 38 #[.slice a L.length c] w fun e w' => e = .returned (.bool (decide (Cv.Perms L))) ∧ Below w.heap.size w w' := by
  by_cases h1 : L.length = 0
  · rw [decide_eq_false (Cv.perms_len (by omega))]
    have d0 : ((L.length : Int) == 0) = true := beq_iff_eq.2 (by omega)
    clear hl h1
    go_enter Tryz.func38, Tryz.ntmps38
    go_wp2
    go_ret
    exact ⟨rfl, Below.refl _ _⟩
  by_cases h8 : 8 < L.length
  · rw [decide_eq_false (Cv.perms_len (by omega))]
    have d0 : ((L.length : Int) == 0) = false := beq_eq_false_iff_ne.2 (by omega)
    have d8 : (8 : Int) < (L.length : Int) := by omega
    clear hl h1
    go_enter Tryz.func38, Tryz.ntmps38
    go_wp2
    go_ret
    exact ⟨rfl, Below.refl _ _⟩
  have d0 : ((L.length : Int) == 0) = false := beq_eq_false_iff_ne.2 (by omega)
  have d8 : ¬ (8 : Int) < (L.length : Int) := by omega
  obtain ⟨r0, hr0, hr0l⟩ := Cv.head_get (L := L) (by omega)
  obtain ⟨b0, o0, a0, c0, rfl, hbw0, hcell0, _⟩ := ha.get hr0
  rw [Nat.add_zero] at hcell0
  have i2 : 0 < L.length := by omega
  clear hr0
  by_cases h3 : r0.length = 0
  · rw [decide_eq_false (Cv.perms_deg (by omega))]
    have e0 : ((r0.length : Int) == 0) = true := beq_iff_eq.2 (by omega)
    clear hl h1 hr0l h3 ha
    go_enter Tryz.func38, Tryz.ntmps38
    go_wp2
    go_ret
    exact ⟨rfl, Below.refl _ _⟩
  by_cases h5 : 5 < r0.length
  · rw [decide_eq_false (Cv.perms_deg (by omega))]
    have e0 : ((r0.length : Int) == 0) = false := beq_eq_false_iff_ne.2 (by omega)
    have e5 : (5 : Int) < (r0.length : Int) := by omega
    clear hl h1 hr0l h3 ha
    go_enter Tryz.func38, Tryz.ntmps38
    go_wp2
    go_ret
    exact ⟨rfl, Below.refl _ _⟩
  have e0 : ((r0.length : Int) == 0) = false := beq_eq_false_iff_ne.2 (by omega)
  have e5 : ¬ (5 : Int) < (r0.length : Int) := by omega
  have Ha := Lib.hid ha; have Hl := Lib.hid hl; have Hr0 := Lib.hid hr0l
  have hb0 := Lib.hid (Below.refl w.heap.size w)
  obtain ⟨V, hV⟩ : ∃ V, decide (Cv.Perms L) = V := ⟨_, rfl⟩
  rw [hV]
  have HV := Lib.hid hV
  have h3' : 1 ≤ r0.length := by omega
  clear ha hl hr0l hV h3 h1
  go_enter Tryz.func38, Tryz.ntmps38
  go_wp2
  go_loopw [2, 5, 26] (fun rv _ iv wr => rv = .bool false ∧ ∃ i : Nat, i ≤ L.length ∧ iv = .int .i64 i ∧ Hid (∀ j p, j < i → L[j]? = some p → p.length = Cv.deg L ∧ Mp.IsP p) ∧ Hid (Below w.heap.size w wr)) (fun _ _ iv _ => L.length - (intOf iv).toNat)
  case atStart => exact ⟨rfl, 0, by omega, rfl, Lib.hid (fun j p h => absurd h (by omega)), hb0⟩
  case round =>
    obtain ⟨rfl, i, hi, rfl, hall, hb⟩ := hrel
    by_cases hlt : i < L.length
    · obtain ⟨p, hp⟩ := get_some hlt
      obtain ⟨b, o, ai, ci, he, hbw, hcell, hrow⟩ := (Ha.out.below hb.out).get hp
      cases he
      have hpl := Hl.out p (get_mem hp)
      have hP := impl_isPermutation ai ci p wr hrow hpl
      have Hp := Lib.hid hp
      clear hp hrow
      by_cases hlen : p.length = r0.length
      · have dne : ((p.length : Int) != (r0.length : Int)) = false := by simp [hlen]
        by_cases hip : Mp.IsP p
        · rw [decide_eq_true hip] at hP
          have HP := Lib.hid hP
          have Hall := Lib.hid (show ∀ j q, j < i + 1 → L[j]? = some q → q.length = Cv.deg L ∧ Mp.IsP q from fun j q hj hq => by
            rcases Nat.lt_or_ge j i with h | h
            · exact hall.out j q h hq
            · obtain rfl : j = i := by omega
              rw [Hp.out] at hq
              cases hq
              exact ⟨hlen.trans Hr0.out, hip⟩)
          clear hP hlen hip
          go_wp2_with fail
          refine HP.out.mono ?_
          rintro e w1 ⟨rfl, hb1⟩
          have Hb1 := Lib.hid (hb.out.trans (hb1.mono hb.out.size)); clear hb1
          go_wp2
          go_roundw
          case rel => exact ⟨rfl, i + 1, by omega, by go_num, Hall, Hb1⟩
          case measure => simp [intOf]; omega
        · rw [decide_eq_false hip] at hP
          have HP := Lib.hid hP
          have Hd := Lib.hid (show V = false by rw [← HV.out]; exact decide_eq_false (Cv.perms_bad Hp.out fun h => hip h.2))
          clear hP hlen hip
          go_wp2_with fail
          refine HP.out.mono ?_
          rintro e w1 ⟨rfl, hb1⟩
          have Hb1 := Lib.hid (hb.out.trans (hb1.mono hb.out.size)); clear hb1
          go_wp2
          go_ret
          exact ⟨by rw [Hd.out]; rfl, Hb1.out⟩
      · have dne : ((p.length : Int) != (r0.length : Int)) = true := by simp; omega
        have Hd := Lib.hid (show V = false by rw [← HV.out]; exact decide_eq_false (Cv.perms_bad Hp.out fun h => hlen (h.1.trans Hr0.out.symm)))
        clear hP hlen
        go_wp2
        go_ret
        exact ⟨by rw [Hd.out]; rfl, hb.out⟩
    · obtain rfl : i = L.length := by omega
      have Hd := Lib.hid (show V = true by rw [← HV.out]; exact decide_eq_true ((Cv.perms_all hall.out).2 ⟨by omega, by have := Hr0.out; omega⟩))
      go_wp2
      go_ret
      exact ⟨by rw [Hd.out]; rfl, hb.out⟩

set_option maxRecDepth 10000 in
set_option maxHeartbeats 1000000 in
theorem impl_upTo1 (s x : Int) (B : Nat) (W : World) (h0 : -1000000 ≤ s) (h1 : s ≤ 1000000) (c0 : W.cell? ⟨B, 0, none⟩ = some (.int .i64 x)) :
    Calls Tryz.prog 84 #[.int .i64 s, .pointer (some ⟨B, 0, none⟩)] W fun e W' => e = .returned (.bool (decide (x < (s.natAbs : Int)))) ∧ Below W.heap.size W W' := by
  have Habs := Lib.hid (fun W => impl_edgeOf s W h0 h1)
  generalize hv : decide (x < (s.natAbs : Int)) = v
  have Hv := Lib.hid hv
  go_enter Tryz.func84, Tryz.ntmps84
  go_wp2
  go_quiet (exact Calls.quiet_of_same (Habs.out _))
  all_goals go_wp2
  all_goals (go_ret; exact ⟨by first | rfl | rw [← Hv.out], below_drewN (Below.refl _ _) _⟩)
def Cv.Near (l : List Int) (x : Int) (i : Nat) : Prop := ∀ j y, j < i → l[j]? = some y → ¬ x < (y.natAbs : Int)
theorem Cv.Near.zero (l : List Int) (x : Int) : Cv.Near l x 0 := fun j y h => absurd h (by omega)
/-- Whether a letter lies beyond x. -/
def Cv.farB (l : List Int) (x : Int) : Bool := decide (∃ s ∈ l, x < (s.natAbs : Int))
set_option maxRecDepth 10000 in
set_option maxHeartbeats 1000000 in
theorem lib_IndexFuncU (a : Option Addr) (cap B : Nat) (l : List Int) (x : Int) (w : World) (ha : RowAt w a (intCells l)) (hl : l.length ≤ 1000) (hL : ∀ s ∈ l, -1000000 ≤ s ∧ s ≤ 1000000) (hB : B < w.heap.size) (c0 : w.cell? ⟨B, 0, none⟩ = some (.int .i64 x)) :
    Calls Tryz.prog 102 #[.slice a l.length cap, .func (.func 84) #[] #[.pointer (some ⟨B, 0, none⟩)]] w fun e w' => (∃ z : Int, e = .returned (.int .i64 z) ∧ decide (0 ≤ z) = Cv.farB l x) ∧ Below w.heap.size w w' := by
  have Ha := Lib.hid ha; have HL := Lib.hid hL; have Hc0 := Lib.hid c0
  clear ha hL c0
  go_enter Tryz.func102, Tryz.ntmps102
  go_wp2
  go_loopw [5, 8] (fun _ iv wr => ∃ i : Nat, i ≤ l.length ∧ iv = .int .i64 i ∧ Hid (Cv.Near l x i) ∧ Hid (Below w.heap.size w wr)) (fun _ iv _ => l.length - (intOf iv).toNat)
  case atStart => exact ⟨0, by omega, rfl, Lib.hid (Cv.Near.zero l x), Lib.hid (Below.refl _ _)⟩
  case round =>
    obtain ⟨i, hi, rfl, hno, hb⟩ := hrel
    by_cases hlt : i < l.length
    · obtain ⟨y, hy⟩ := get_some hlt
      obtain ⟨b, o, rfl, hbw, hcell⟩ := intCells_get? (Ha.out.below hb.out) hy
      have hyb := HL.out y (get_mem hy)
      have hcl := impl_upTo1 y x B wr hyb.1 hyb.2 (by rw [hb.out.cell hB]; exact Hc0.out)
      have Hy := Lib.hid hy; clear hy hyb
      by_cases he : x < (y.natAbs : Int)
      · rw [decide_eq_true he] at hcl
        have Hres := Lib.hid (show decide ((0 : Int) ≤ (i : Int)) = Cv.farB l x by rw [decide_eq_true (show (0 : Int) ≤ (i : Int) by omega)]; exact (decide_eq_true ⟨y, get_mem Hy.out, he⟩).symm)
        have Hcl := Lib.hid hcl
        clear he hcl
        go_wp2_with fail
        refine Hcl.out.mono ?_
        rintro e w3 ⟨rfl, hb3⟩
        go_wp2
        go_ret
        exact ⟨⟨_, rfl, Hres.out⟩, hb.out.trans (hb3.mono hb.out.size)⟩
      · rw [decide_eq_false he] at hcl
        have Hno := Lib.hid (show Cv.Near l x (i + 1) from fun j z hj hz => by
          rcases Nat.lt_or_ge j i with h | h
          · exact hno.out j z h hz
          · obtain rfl : j = i := by omega
            rw [Hy.out] at hz; cases hz; exact he)
        have Hcl := Lib.hid hcl
        clear he hcl
        go_wp2_with fail
        refine Hcl.out.mono ?_
        rintro e w3 ⟨rfl, hb3⟩
        have Hb3 := Lib.hid (hb.out.trans (hb3.mono hb.out.size)); clear hb3
        go_wp2
        go_roundw
        case rel => exact ⟨i + 1, by omega, by go_num, Hno, Hb3⟩
        case measure => simp [intOf]; omega
    · obtain rfl : i = l.length := by omega
      have Hres := Lib.hid (show decide ((0 : Int) ≤ -1) = Cv.farB l x by
        rw [decide_eq_false (by omega)]
        refine (decide_eq_false ?_).symm
        rintro ⟨s, hs, h⟩
        obtain ⟨j, hj, rfl⟩ := List.mem_iff_getElem.1 hs
        exact hno.out j _ hj (List.getElem?_eq_getElem hj) h)
      go_wp2
      go_ret
      exact ⟨⟨_, rfl, Hres.out⟩, hb.out⟩
set_option maxRecDepth 10000 in
set_option maxHeartbeats 1000000 in
theorem lib_ContainsFuncU (a : Option Addr) (cap B : Nat) (l : List Int) (x : Int) (w : World) (ha : RowAt w a (intCells l)) (hl : l.length ≤ 1000) (hL : ∀ s ∈ l, -1000000 ≤ s ∧ s ≤ 1000000) (hB : B < w.heap.size) (c0 : w.cell? ⟨B, 0, none⟩ = some (.int .i64 x)) :
    Calls Tryz.prog 83 #[.slice a l.length cap, .func (.func 84) #[] #[.pointer (some ⟨B, 0, none⟩)]] w fun e w' => e = .returned (.bool (Cv.farB l x)) ∧ Below w.heap.size w w' := by
  have Hc := Lib.hid (lib_IndexFuncU a cap B l x w ha hl hL hB c0)
  clear ha c0 hL
  generalize Cv.farB l x = b at *
  go_enter Tryz.func83, Tryz.ntmps83
  go_wp2_with fail
  refine Hc.out.mono ?_
  rintro e w3 ⟨⟨z, rfl, hz⟩, hb3⟩
  have Hz := Lib.hid hz; have Hb3 := Lib.hid hb3
  clear hz hb3
  generalize hd : decide ((0 : Int) ≤ z) = d at *
  have Hd := Lib.hid hd; clear hd
  go_wp2
  go_ret
  exact ⟨by rw [← Hz.out, ← Hd.out]; rfl, Hb3.out⟩
def Cv.Upto (m : Nat) (l : List Int) : Prop := Word.IsW l ∧ ∀ x ∈ l, x.natAbs ≤ m
instance (m : Nat) (l : List Int) : Decidable (Cv.Upto m l) := by unfold Cv.Upto; exact inferInstance
set_option maxRecDepth 10000 in
set_option maxHeartbeats 1000000 in
theorem impl_hasLettersUpTo (m : Nat) (a : Option Addr) (c : Nat) (l : List Int) (w : World) (ha : RowAt w a (intCells l)) (hl : l.length ≤ 1048576) :
    Calls Tryz.prog 39 #[.int .i64 (m : Int), .slice a l.length c] w fun e w' => e = .returned (.bool (decide (Cv.Upto m l))) ∧ Below w.heap.size w w' := by
  have hbA : Below w.heap.size w (w.alloc (.cells #[.int .i64 (m : Int)] 3)) := (Below.refl _ _).alloc (Nat.le_refl _) _
  have hK : Blk (w.alloc (.cells #[.int .i64 (m : Int)] 3)) w.heap.size 3 #[.int .i64 (m : Int)] := Blk.new w _ _
  have hW := impl_IsWord a c l (w.alloc (.cells #[.int .i64 (m : Int)] 3)) (ha.below hbA) hl
  by_cases hw : Word.IsW l
  · rw [decide_eq_true hw] at hW
    have hF := fun W (hb : Below (w.alloc (.cells #[.int .i64 (m : Int)] 3)).heap.size (w.alloc (.cells #[.int .i64 (m : Int)] 3)) W) => lib_ContainsFuncU a c w.heap.size l (m : Int) W ((ha.below hbA).below hb) (by have := hw.2; omega) (fun s hs => by have := hw.1 s hs; rw [Word.letter_iff] at this; omega) (Nat.lt_of_lt_of_le hK.lt hb.size) (by rw [hb.cell hK.lt, hK.cell 0]; rfl)
    have hv : decide (Cv.Upto m l) = !(Cv.farB l (m : Int)) := by
      unfold Cv.farB
      rw [← decide_not]
      refine decide_eq_decide.2 ⟨fun h => ?_, fun h => ⟨hw, fun x hx => ?_⟩⟩
      · rintro ⟨s, hs, hlt⟩; have := h.2 s hs; omega
      · have h2 : ¬ (m : Int) < (x.natAbs : Int) := fun hlt => h ⟨x, hx, hlt⟩
        omega
    rw [hv]
    generalize Cv.farB l (m : Int) = b at *
    have HW := Lib.hid hW; have HF := Lib.hid hF; have HA := Lib.hid hbA
    clear hW hF hv hK ha hbA hw
    go_enter Tryz.func39, Tryz.ntmps39
    go_wp2_with fail
    refine HW.out.mono ?_
    rintro e w1 ⟨rfl, hb1⟩
    have Hb1 := Lib.hid hb1; clear hb1
    go_wp2_with fail
    refine (HF.out _ Hb1.out).mono ?_
    rintro e w2 ⟨rfl, hb2⟩
    have Hb2 := Lib.hid (HA.out.trans ((Hb1.out.trans (hb2.mono Hb1.out.size)).mono HA.out.size)); clear hb2
    go_wp2
    go_ret
    exact ⟨by simp, Hb2.out⟩
  · rw [decide_eq_false hw] at hW
    rw [show decide (Cv.Upto m l) = false from decide_eq_false fun h => hw h.1]
    have HW := Lib.hid hW; have HA := Lib.hid hbA
    clear hW hK ha hbA hw
    go_enter Tryz.func39, Tryz.ntmps39
    go_wp2_with fail
    refine HW.out.mono ?_
    rintro e w1 ⟨rfl, hb1⟩
    have Hb1 := Lib.hid (HA.out.trans (hb1.mono HA.out.size)); clear hb1
    go_wp2
    go_ret
    exact ⟨rfl, Hb1.out⟩

set_option maxRecDepth 10000 in
set_option maxHeartbeats 2000000 in
theorem impl_sheetBehind (a : Option Addr) (c : Nat) (L : List (List Int)) (x : Int) (s : Nat) (w : World) (ha : GridAt w a L) (hP : Cv.Perms L) (hx0 : x ≠ 0) (hx1 : x.natAbs ≤ L.length) (hs : s < Cv.deg L) :
    Calls Tryz.prog 41 #[.slice a L.length c, .int .i64 x, .int .i64 (s : Int)] w fun e w' => e = .returned (.int .i64 ((Cv.img L s x : Nat) : Int)) ∧ Below w.heap.size w w' := by
  have hlen8 := hP.2.2.1
  have h5 := hP.2.2.2.2
  obtain ⟨j, hj⟩ : ∃ j : Nat, x.natAbs = j + 1 := ⟨x.natAbs - 1, by omega⟩
  have hjl : j < L.length := by omega
  obtain ⟨p, hp⟩ := get_some hjl
  obtain ⟨b', o', ai, ci, rfl, hbw', hcell', hrow⟩ := ha.get hp
  have habs := fun W => impl_edgeOf x W (by omega) (by omega)
  rw [hj, Int.natCast_add, show ((1 : Nat) : Int) = 1 from rfl] at habs
  obtain ⟨hpl, hpP⟩ := hP.1 p (get_mem hp)
  have himg : Cv.img L s x = Mp.at_ (if x < 0 then Mp.mirror p else p) s := by
    unfold Cv.img Cv.perm
    rw [hj, Nat.add_sub_cancel, List.getD_eq_getElem?_getD, hp]; rfl
  rw [himg]
  have Habs := Lib.hid habs
  have j0 : (0 : Int) ≤ (j : Int) := by omega
  have j1 : (j : Int) < (L.length : Int) := by omega
  have jw : IntKind.i64.wrap ((j : Int) + 1 - 1) = (j : Int) := by rw [wrap_small (by omega) (by omega)]; omega
  have js : ((j : Int) + 1 - 1) = (j : Int) := by omega
  by_cases hneg : x < 0
  · rw [if_pos hneg]
    have hq : Mp.at_ (Mp.mirror p) s < p.length := by
      have := Mp.at_lt (Cv.mirror_isP hpP) (d := s) (by rw [Mp.mirror_len]; omega)
      rwa [Mp.mirror_len] at this
    have hI := fun W (h : RowAt W ai (intCells p)) => lib_IndexAt ai ci p.length (Mp.at_ (Mp.mirror p) s) (Mp.at_ p) s (s : Int) rfl W (by rw [Mp.at_row hpP]; exact h) hq (Cv.mirror_at hpP (by omega)) (fun i hi he => Mp.at_inj hpP hi hq (he.trans (Cv.mirror_at hpP (by omega)).symm)) (by omega)
    generalize Mp.at_ (Mp.mirror p) s = q at *
    have HI := Lib.hid hI; have Hrow := Lib.hid hrow
    clear hI hrow himg habs hp hj hpl hpP ha hP hq
    go_enter Tryz.func41, Tryz.ntmps41
    go_wp2_with fail
    refine (Habs.out _).mono ?_
    rintro e w1 ⟨rfl, hw1⟩
    rw [hw1]; clear hw1 w1
    go_wp2_with fail
    refine (HI.out _ Hrow.out).mono ?_
    rintro e w1 ⟨rfl, hw1⟩
    rw [hw1]; clear hw1 w1
    go_wp2
    go_ret
    exact ⟨rfl, Below.refl _ _⟩
  · rw [if_neg hneg]
    have s1 : s < p.length := by omega
    obtain ⟨b2, o2, rfl, hbw2, hcell2⟩ := intCells_get? hrow (Mp.at_get hpP s1)
    have s2 : (0 : Int) ≤ (s : Int) := by omega
    have s3 : (s : Int) < (p.length : Int) := by omega
    generalize Mp.at_ p s = q at *
    clear hrow himg habs hp hj hpl hpP ha hP
    go_enter Tryz.func41, Tryz.ntmps41
    go_wp2_with fail
    refine (Habs.out _).mono ?_
    rintro e w1 ⟨rfl, hw1⟩
    rw [hw1]; clear hw1 w1
    go_wp2
    go_ret
    exact ⟨rfl, Below.refl _ _⟩
theorem impl_unmovedSheets (n : Nat) (w : World) (h1 : n ≤ 1000) :
    Calls Tryz.prog 40 #[.int .i64 (n : Int)] w fun e w' => e = .returned (.slice (some ⟨w.heap.size, 0, none⟩) n n) ∧ Lab w' w.heap.size id n ∧ Below w.heap.size w w' := by
  have Hc := Lib.hid (impl_newClasses n w h1)
  go_enter Tryz.func40, Tryz.ntmps40
  go_wp2_with fail
  refine Hc.out.mono ?_
  rintro e w1 ⟨rfl, h2, h3⟩
  have H2 := Lib.hid h2; have H3 := Lib.hid h3
  clear h2 h3
  go_wp2
  go_ret
  exact ⟨rfl, H2.out, H3.out⟩
def Cv.half (L : List (List Int)) (x : Int) (c : Nat → Nat) (i : Nat) : Nat → Nat := fun k => if k < i then Cv.img L (c k) x else c k
theorem Cv.half_at (L : List (List Int)) (x : Int) (c : Nat → Nat) (i : Nat) : Cv.half L x c i i = c i := by simp [Cv.half]
theorem Cv.half_put (L : List (List Int)) (x : Int) (c : Nat → Nat) (i k : Nat) : (if k = i then Cv.img L (c i) x else Cv.half L x c i k) = Cv.half L x c (i + 1) k := by
  unfold Cv.half
  by_cases e : k = i
  · subst e; rw [if_pos rfl, if_pos (by omega)]
  · rw [if_neg e]
    by_cases e2 : k < i
    · rw [if_pos e2, if_pos (by omega)]
    · rw [if_neg e2, if_neg (by omega)]
theorem Cv.ok_upto {L : List (List Int)} {l : List Int} : Cv.Ok L l ↔ Cv.Perms L ∧ Cv.Upto L.length l := Iff.rfl
set_option maxRecDepth 10000 in
set_option maxHeartbeats 2000000 in
theorem impl_ActWord (a aw : Option Addr) (c cw : Nat) (L : List (List Int)) (l : List Int) (w : World) (ha : GridAt w a L) (hL : ∀ p ∈ L, p.length ≤ 1048576) (hn : L.length ≤ 1048576) (haw : RowAt w aw (intCells l)) (hl : l.length ≤ 1048576) :
    Calls Tryz.prog 9 #[.slice a L.length c, .slice aw l.length cw] w fun e w' => Gives w (Cv.actW L l) e w' := by
  have hcP := impl_doPermute a c L w ha hL hn
  have hcW := fun W (hb : Below w.heap.size w W) => impl_hasLettersUpTo L.length aw cw l W (haw.below hb) hl
  have Ha := Lib.hid ha; have Haw := Lib.hid haw
  clear ha haw hL
  by_cases hP : Cv.Perms L
  · rw [decide_eq_true hP] at hcP
    by_cases hU : Cv.Upto L.length l
    · rw [decide_eq_true hU] at hcW
      rw [Cv.actW_of (Cv.ok_upto.2 ⟨hP, hU⟩)]
      have hl24 := hU.1.2
      have hlet : ∀ x ∈ l, x ≠ 0 ∧ x.natAbs ≤ L.length := fun x hx => ⟨(hU.1.1 x hx).1, hU.2 x hx⟩
      have hlen8 := hP.2.2.1
      have hlen1 := hP.2.1
      have h5 := hP.2.2.2.2
      obtain ⟨r0, hr0, hr0l⟩ := Cv.head_get (L := L) (by omega)
      obtain ⟨b0, o0, a0, c0, rfl, hbw0, hcell0, _⟩ := Ha.out.get hr0
      rw [Nat.add_zero] at hcell0
      have Hc0 := Lib.hid hcell0
      have i2 : 0 < L.length := by omega
      obtain ⟨n, hn0⟩ : ∃ n, n = Cv.deg L := ⟨_, rfl⟩
      rw [← hn0] at hr0l h5 ⊢
      have Hn := Lib.hid hn0
      have HcP := Lib.hid hcP; have HcW := Lib.hid hcW; have HP := Lib.hid hP; have Hlet := Lib.hid hlet
      rw [hr0l] at Hc0
      clear hcP hcW hP hU hlet hr0 hcell0 hr0l hn0
      go_enter Tryz.func9, Tryz.ntmps9
      go_wp2_with fail
      refine HcP.out.mono ?_
      rintro e w1 ⟨rfl, hb1⟩
      have Hb1 := Lib.hid hb1; clear hb1
      go_wp2_with fail
      refine (HcW.out w1 Hb1.out).mono ?_
      rintro e w2 ⟨rfl, hb2⟩
      have Hb2 := Lib.hid (Hb1.out.trans (hb2.mono Hb1.out.size)); clear hb2
      have c1 : w2.cell? ⟨b0, o0, none⟩ = some (.slice a0 n c0) := by rw [Hb2.out.cell hbw0]; exact Hc0.out
      go_wp2_with fail
      refine (impl_unmovedSheets n w2 (by omega)).mono ?_
      rintro e w3 ⟨rfl, hlab, hb3⟩
      have hlt3 := hlab.lt
      have Hlab := Lib.hid hlab; have Hb3 := Lib.hid (Hb2.out.trans (hb3.mono Hb2.out.size))
      have hNw : w.heap.size ≤ w2.heap.size := Hb2.out.size
      generalize w2.heap.size = N at *
      clear hlab hb3 c1
      go_wp2
      go_loopw [7, 8, 9, 27] (fun _ _ _ iv wr => ∃ i : Nat, i ≤ l.length ∧ iv = .int .i64 i ∧ Hid (Lab wr N (Cv.act L (l.take i)) n) ∧ Hid (Below w.heap.size w wr)) (fun _ _ _ iv _ => l.length - (intOf iv).toNat)
      case atStart => exact ⟨0, by omega, rfl, Lib.hid (Hlab.out.congr fun k _ => rfl), Hb3⟩
      case round =>
        obtain ⟨i, hi, rfl, hlb, hb⟩ := hrel
        by_cases hlt : i < l.length
        · obtain ⟨b, o, rfl, hbw, hcell⟩ := intCells_at (Haw.out.below hb.out) hlt
          obtain ⟨hx0, hx1⟩ := Hlet.out _ (List.getElem_mem hlt)
          have hstep := fun s => Cv.act_take (L := L) hlt s
          have hcl : ∀ k, k < n → Cv.act L (l.take i) k < Cv.deg L := fun k hk => Cv.act_lt HP.out (fun x hx => Hlet.out x (List.mem_of_mem_take hx)) (by rw [← Hn.out]; exact hk)
          have hsb := fun s W (h : Below w.heap.size w W) (hs : s < Cv.deg L) => impl_sheetBehind (some ⟨b0, o0, none⟩) c L l[i] s W (Ha.out.below h) HP.out hx0 hx1 hs
          generalize Cv.act L (l.take i) = u at *
          generalize l[i] = x at *
          have Hstep := Lib.hid hstep; have Hcl := Lib.hid hcl; have Hsb := Lib.hid hsb
          clear hstep hcl hsb hx0 hx1
          go_wp2
          go_loopw [8, 9, 33] (fun _ _ jv wr => ∃ j : Nat, j ≤ n ∧ jv = .int .i64 j ∧ Hid (Lab wr N (Cv.half L x u j) n) ∧ Hid (Below w.heap.size w wr)) (fun _ _ jv _ => n - (intOf jv).toNat)
          case atStart => exact ⟨0, by omega, rfl, Lib.hid (hlb.out.congr fun k _ => by simp [Cv.half]), hb⟩
          case round =>
            obtain ⟨j, hj, rfl, hlb, hb⟩ := hrel
            by_cases hlt2 : j < n
            · have hcj := hlb.out.cell hlt2
              rw [Cv.half_at] at hcj
              have hc := Hsb.out (u j) wr hb.out (Hcl.out j hlt2)
              have Hput := Lib.hid (fun W (h : Lab W N (Cv.half L x u j) n) => (h.put (i := j) (b := Cv.img L (u j) x) hlt2).congr fun k _ => Cv.half_put L x u j k)
              generalize Cv.img L (u j) x = v at *
              generalize u j = uj at *
              have Hc := Lib.hid hc
              have hltN := hlb.out.lt
              have j0 : (0 : Int) ≤ (j : Int) := by omega
              have j1 : (j : Int) < (n : Int) := by omega
              clear hc
              go_wp2_with fail
              refine Hc.out.mono ?_
              rintro e w4 ⟨rfl, hb4⟩
              have hlb4 := hlb.out.below hb4 hltN
              have hfz := hlb4.frozen j
              have hc4 := hlb4.cell hlt2
              have Hlb4 := Lib.hid hlb4
              have Hb4 := Lib.hid (hb.out.trans (hb4.mono hb.out.size))
              generalize ((Cv.half L x u j j : Nat) : Int) = z4 at *
              clear hlb4 hb4 hcj
              go_wp2
              go_roundw
              case rel => exact ⟨j + 1, by omega, by go_num, Lib.hid (Hput.out _ Hlb4.out), Lib.hid (Hb4.out.setCell hNw _)⟩
              case measure => simp [intOf]; omega
            · obtain rfl : j = n := by omega
              go_wp2
              go_roundw
              case rel => exact ⟨i + 1, by omega, by go_num, Lib.hid (hlb.out.congr fun k hk => by rw [Hstep.out k]; unfold Cv.half; rw [if_pos hk]), hb⟩
              case measure => simp [intOf]; omega
        · obtain rfl : i = l.length := by omega
          have hg := lab_givesP hlb.out hNw (by unfold maxLen; omega) hb.out
          rw [List.take_of_length_le (Nat.le_refl _)] at hg
          have Hg := Lib.hid hg
          clear hg
          go_wp2
          go_ret
          exact Hg.out
    · rw [decide_eq_false hU] at hcW
      rw [Cv.actW_not fun h => hU (Cv.ok_upto.1 h).2]
      have HcP := Lib.hid hcP; have HcW := Lib.hid hcW
      clear hcP hcW hP hU
      go_enter Tryz.func9, Tryz.ntmps9
      go_wp2_with fail
      refine HcP.out.mono ?_
      rintro e w1 ⟨rfl, hb1⟩
      have Hb1 := Lib.hid hb1; clear hb1
      go_wp2_with fail
      refine (HcW.out w1 Hb1.out).mono ?_
      rintro e w2 ⟨rfl, hb2⟩
      have Hb2 := Lib.hid (Hb1.out.trans (hb2.mono Hb1.out.size)); clear hb2
      go_wp2
      go_ret
      exact Gives.none Hb2.out
  · rw [decide_eq_false hP] at hcP
    rw [Cv.actW_not fun h => hP (Cv.ok_upto.1 h).1]
    have HcP := Lib.hid hcP
    clear hcP hcW hP
    go_enter Tryz.func9, Tryz.ntmps9
    go_wp2_with fail
    refine HcP.out.mono ?_
    rintro e w1 ⟨rfl, hb1⟩
    have Hb1 := Lib.hid hb1; clear hb1
    go_wp2
    go_ret
    exact Gives.none Hb1.out
end Go.Proofs.YtamgimdjnmcpaaaGreat
namespace Go.Proofs.YtamgimdjnmcpaaaGreat
open Go.RowKit

namespace Cv
/-- The word around the polygon of the surface below. -/
def rimW (g : Int) : List Int := Dn.rel (max 1 g)
theorem rimW_fits {g : Int} (hg : 0 ≤ g ∧ g ≤ 2) {L : List (List Int)} (hl : (L.length : Int) = 2 * max 1 g) : Upto L.length (rimW g) := by
  rcases (show g = 0 ∨ g = 1 ∨ g = 2 by omega) with rfl | rfl | rfl
  · have : L.length = 2 := by omega
    rw [this]; decide
  · have : L.length = 2 := by omega
    rw [this]; decide
  · have : L.length = 4 := by omega
    rw [this]; decide
theorem rim_same {L : List (List Int)} {w : List Int} {n : Nat} : row L w n = Cls.row id n ↔ ∀ s, s < n → act L w s = s := by
  constructor
  · intro h s hs
    have h1 : (row L w n)[s]? = some ((act L w s : Nat) : Int) := by simp [row, hs]
    rw [h, Cls.row_get hs] at h1
    have := Option.some.inj h1
    simp at this; omega
  · intro h
    unfold row Cls.row
    exact List.map_congr_left fun s hs => by rw [h s (List.mem_range.1 hs)]; rfl
theorem act_iff {g : Int} {L : List (List Int)} (hg : 0 ≤ g ∧ g ≤ 2) (hP : Perms L) (hl : (L.length : Int) = 2 * max 1 g) : Act g L ↔ (g = 0 ∨ row L (rimW g) (deg L) = Cls.row id (deg L)) := by
  unfold Act
  rw [rim_same]
  unfold rimW
  constructor
  · rintro ⟨_, _, _, h | h⟩
    · exact Or.inl h
    · rcases (show g = 0 ∨ 1 ≤ g by omega) with h0 | h0
      · exact Or.inl h0
      · right; rw [show max 1 g = g by omega]; exact h
  · intro h
    refine ⟨hg, hP, hl, ?_⟩
    rcases h with h | h
    · exact Or.inl h
    · rcases (show g = 0 ∨ 1 ≤ g by omega) with h0 | h0
      · exact Or.inl h0
      · right; rw [show max 1 g = g by omega] at h; exact h
end Cv

theorem fld0 (x y z : Int) (w : World) : (Instr.field 46 (.agg #[.int .i64 x, .int .i64 y, .int .i64 z]) 0).run Tryz.prog w = .ok (.int .i64 x) w := by kernel_rfl
theorem fld1 (x y z : Int) (w : World) : (Instr.field 46 (.agg #[.int .i64 x, .int .i64 y, .int .i64 z]) 1).run Tryz.prog w = .ok (.int .i64 y) w := by kernel_rfl
theorem fld2 (x y z : Int) (w : World) : (Instr.field 46 (.agg #[.int .i64 x, .int .i64 y, .int .i64 z]) 2).run Tryz.prog w = .ok (.int .i64 z) w := by kernel_rfl
theorem Cv.actW_len (L : List (List Int)) (w : List Int) : (Cv.actW L w).length ≤ 5 := by
  unfold Cv.actW
  split
  · rename_i h; rw [Cv.row_len]; exact h.1.2.2.2.2
  · simp
set_option maxRecDepth 10000 in
theorem impl_isActionGroup (g : Int) (w : World) : Calls Tryz.prog 65 #[.int .i64 g] w fun e w' => e = .returned (.bool (decide (0 ≤ g ∧ g ≤ 2))) ∧ w' = w := by
  have hc := impl_isGroup g w
  by_cases h : g = 0
  · rw [decide_eq_true (by omega)]
    have d0 : (g == 0) = true := beq_iff_eq.2 h
    clear h hc
    go_enter Tryz.func65, Tryz.ntmps65
    go_wp2
    go_ret
    exact ⟨rfl, rfl⟩
  · have d0 : (g == 0) = false := beq_eq_false_iff_ne.2 h
    have hd : decide (0 ≤ g ∧ g ≤ 2) = decide (Dn.Gr g) := decide_eq_decide.2 (by unfold Dn.Gr; omega)
    rw [hd]
    generalize decide (Dn.Gr g) = v at *
    have Hc := Lib.hid hc
    clear h hc hd
    go_enter Tryz.func65, Tryz.ntmps65
    go_wp2_with fail
    refine Hc.out.mono ?_
    rintro e w1 ⟨rfl, hw1⟩
    rw [hw1]; clear hw1 w1
    go_wp2
    go_ret
    exact ⟨rfl, rfl⟩

def Cv.below (g : Int) : Int × Int × Int := if g = 0 then (1, 0, 1) else (g, 0, 0)
set_option maxRecDepth 10000 in
set_option maxHeartbeats 1000000 in
theorem impl_surfaceBelow (g : Int) (w : World) :
    Calls Tryz.prog 67 #[.int .i64 g] w fun e w' => e = .returned (.agg #[.int .i64 (Cv.below g).1, .int .i64 (Cv.below g).2.1, .int .i64 (Cv.below g).2.2]) ∧ Below w.heap.size w w' := by
  by_cases h : g = 0
  · rw [show Cv.below g = (1, 0, 1) from if_pos h]
    have d0 : (g == 0) = true := beq_iff_eq.2 h
    clear h
    go_enter Tryz.func67, Tryz.ntmps67
    go_wp2
    exact bodyPost_ret (results_cell_row rfl _ _ w.heap.size 46 #[.int .i64 1, .int .i64 0, .int .i64 1] (0, 0) _ rfl (Blk.new w _ _) Tryz.underlying46 rfl (by kernel_rfl)) rfl ⟨rfl, (Below.refl _ _).alloc (Nat.le_refl _) _⟩
  · rw [show Cv.below g = (g, 0, 0) from if_neg h]
    have d0 : (g == 0) = false := beq_eq_false_iff_ne.2 h
    clear h
    go_enter Tryz.func67, Tryz.ntmps67
    go_wp2
    exact bodyPost_ret (results_cell_row rfl _ _ w.heap.size 46 #[.int .i64 g, .int .i64 0, .int .i64 0] (0, 0) _ rfl (Blk.new w _ _) Tryz.underlying46 rfl (by kernel_rfl)) rfl ⟨rfl, (Below.refl _ _).alloc (Nat.le_refl _) _⟩
set_option maxRecDepth 10000 in
theorem impl_countGenerators (g : Int) (w : World) (hg : 0 ≤ g ∧ g ≤ 2) : Calls Tryz.prog 66 #[.int .i64 g] w fun e w' => e = .returned (.int .i64 (2 * max 1 g)) ∧ Below w.heap.size w w' := by
  have hS := impl_surfaceBelow g w
  have hv : (Cv.below g).1 = max 1 g := by unfold Cv.below; split <;> (simp; omega)
  rw [hv] at hS
  have hb0 : 1 ≤ max 1 g := by omega
  have hb1 : max 1 g ≤ 2 := by omega
  generalize max 1 g = v at *
  generalize (Cv.below g).2.1 = y at *
  generalize (Cv.below g).2.2 = z at *
  have HS := Lib.hid hS
  have hf := fun W => fld0 v y z W
  clear hS hv
  go_enter Tryz.func66, Tryz.ntmps66
  go_wp2_with fail
  refine HS.out.mono ?_
  rintro e w1 ⟨rfl, hb1⟩
  have Hb1 := Lib.hid hb1; clear hb1
  go_wp2
  go_ret
  exact ⟨rfl, Hb1.out⟩

set_option maxRecDepth 10000 in
set_option maxHeartbeats 1000000 in
theorem impl_actAround (g : Int) (a : Option Addr) (c : Nat) (L : List (List Int)) (w : World) (hg : 0 ≤ g ∧ g ≤ 2) (ha : GridAt w a L) (hL : ∀ p ∈ L, p.length ≤ 1048576) (hn : L.length ≤ 1048576) :
    Calls Tryz.prog 69 #[.int .i64 g, .slice a L.length c] w fun e w' => Gives w (Cv.actW L (Cv.rimW g)) e w' := by
  have hS := impl_surfaceBelow g w
  have hv : (Cv.below g).1 = max 1 g := by unfold Cv.below; split <;> (simp; omega)
  rw [hv] at hS
  have hR := fun W => impl_Relator (max 1 g) W
  have hrl := Dn.rel_len8 (max 1 g)
  have hA := fun aw cw W (hb : Below w.heap.size w W) (h : RowAt W aw (intCells (Dn.rel (max 1 g)))) => impl_ActWord a aw c cw L (Dn.rel (max 1 g)) W (ha.below hb) hL hn h (Nat.le_trans hrl (by decide))
  have hl5 := Cv.actW_len L (Cv.rimW g)
  unfold Cv.rimW at *
  generalize Cv.actW L (Dn.rel (max 1 g)) = R at *
  generalize Dn.rel (max 1 g) = l at *
  generalize max 1 g = v at *
  generalize (Cv.below g).2.1 = y at *
  generalize (Cv.below g).2.2 = z at *
  have HS := Lib.hid hS; have HR := Lib.hid hR; have HA := Lib.hid hA
  have hf := fun W => fld0 v y z W
  clear hS hv hR hrl hA ha hL
  go_enter Tryz.func69, Tryz.ntmps69
  go_wp2_with fail
  refine HS.out.mono ?_
  rintro e w1 ⟨rfl, hb1⟩
  have Hb1 := Lib.hid hb1; clear hb1
  go_wp2_with fail
  refine (HR.out w1).mono ?_
  rintro e w2 ⟨ra, rc, rfl, _, _, hf2, hb2⟩
  have Hf2 := Lib.hid hf2.row; have Hb2 := Lib.hid (Hb1.out.trans (hb2.mono Hb1.out.size))
  clear hf2 hb2
  go_wp2_with fail
  refine (HA.out ra rc w2 Hb2.out Hf2.out).mono ?_
  rintro e w3 hg3
  have Hg3 := Lib.hid (hg3.later Hb2.out)
  obtain ⟨ra3, rc3, rfl, _, _, _, _⟩ := hg3
  go_wp2
  go_ret
  exact Hg3.out

set_option maxRecDepth 10000 in
set_option maxHeartbeats 2000000 in
theorem impl_IsAction (g : Int) (a : Option Addr) (c : Nat) (L : List (List Int)) (w : World) (ha : GridAt w a L) (hL : ∀ p ∈ L, p.length ≤ 1048576) (hn : L.length ≤ 1048576) :
    Calls Tryz.prog 23 #[.int .i64 g, .slice a L.length c] w fun e w' => e = .returned (.bool (decide (Cv.Act g L))) ∧ Below w.heap.size w w' := by
  have hG := impl_isActionGroup g w
  by_cases hg : 0 ≤ g ∧ g ≤ 2
  · rw [decide_eq_true hg] at hG
    have hcP := impl_doPermute a c L w ha hL hn
    by_cases hP : Cv.Perms L
    · rw [decide_eq_true hP] at hcP
      have hC := fun W => impl_countGenerators g W hg
      by_cases hl : (L.length : Int) = 2 * max 1 g
      · have hA := Cv.act_iff hg hP hl
        have dne : ((L.length : Int) != 2 * max 1 g) = false := by simp [hl]
        have hS := fun W => impl_surfaceBelow g W
        by_cases h0 : g = 0
        · rw [decide_eq_true (hA.2 (Or.inl h0))]
          have hbl : Cv.below g = (1, 0, 1) := if_pos h0
          rw [hbl] at hS
          generalize 2 * max 1 g = m at *
          have HG := Lib.hid hG; have HcP := Lib.hid hcP; have HC := Lib.hid hC; have HS := Lib.hid hS
          have hf := fun W => fld2 1 0 1 W
          clear hG hcP hC hS hA hl hbl h0 hP ha hL
          go_enter Tryz.func23, Tryz.ntmps23
          go_wp2_with fail
          refine HG.out.mono ?_
          rintro e w0 ⟨rfl, hw0⟩
          rw [hw0]; clear hw0 w0
          go_wp2_with fail
          refine HcP.out.mono ?_
          rintro e w1 ⟨rfl, hb1⟩
          have Hb1 := Lib.hid hb1; clear hb1
          go_wp2_with fail
          refine (HC.out w1).mono ?_
          rintro e w2 ⟨rfl, hb2⟩
          have Hb2 := Lib.hid (Hb1.out.trans (hb2.mono Hb1.out.size)); clear hb2
          go_wp2_with fail
          refine (HS.out w2).mono ?_
          rintro e w3 ⟨rfl, hb3⟩
          have Hb3 := Lib.hid (Hb2.out.trans (hb3.mono Hb2.out.size)); clear hb3
          go_wp2
          go_ret
          exact ⟨rfl, Hb3.out⟩
        · have hbl : Cv.below g = (g, 0, 0) := if_neg h0
          rw [hbl] at hS
          have hR := fun W (hb : Below w.heap.size w W) => impl_actAround g a c L W hg (ha.below hb) hL hn
          rw [Cv.actW_of (Cv.ok_upto.2 ⟨hP, Cv.rimW_fits hg hl⟩)] at hR
          have hres : decide (Cv.Act g L) = decide (Cv.row L (Cv.rimW g) (Cv.deg L) = Cls.row id (Cv.deg L)) := decide_eq_decide.2 ⟨fun h => (hA.1 h).resolve_left h0, fun h => hA.2 (Or.inr h)⟩
          rw [hres]
          have h5 := hP.2.2.2.2
          have h1 := hP.2.1
          obtain ⟨r0, hr0, hr0l⟩ := Cv.head_get (L := L) (by omega)
          obtain ⟨b0, o0, a0, c0, rfl, hbw0, hcell0, _⟩ := ha.get hr0
          rw [Nat.add_zero] at hcell0
          have Hc0 := Lib.hid hcell0
          rw [hr0l] at Hc0
          have i2 : 0 < L.length := by omega
          have hrl : (Cv.row L (Cv.rimW g) (Cv.deg L)).length = Cv.deg L := Cv.row_len _ _ _
          generalize Cv.row L (Cv.rimW g) (Cv.deg L) = R at *
          generalize Cv.deg L = n at *
          generalize 2 * max 1 g = m at *
          have HG := Lib.hid hG; have HcP := Lib.hid hcP; have HC := Lib.hid hC; have HS := Lib.hid hS; have HR := Lib.hid hR; have Hrl := Lib.hid hrl
          have hf := fun W => fld2 g 0 0 W
          clear hG hcP hC hS hA hl hbl h0 hP ha hL hR hres hrl hr0 hr0l hcell0
          go_enter Tryz.func23, Tryz.ntmps23
          go_wp2_with fail
          refine HG.out.mono ?_
          rintro e w0 ⟨rfl, hw0⟩
          rw [hw0]; clear hw0 w0
          go_wp2_with fail
          refine HcP.out.mono ?_
          rintro e w1 ⟨rfl, hb1⟩
          have Hb1 := Lib.hid hb1; clear hb1
          go_wp2_with fail
          refine (HC.out w1).mono ?_
          rintro e w2 ⟨rfl, hb2⟩
          have Hb2 := Lib.hid (Hb1.out.trans (hb2.mono Hb1.out.size)); clear hb2
          go_wp2_with fail
          refine (HS.out w2).mono ?_
          rintro e w3 ⟨rfl, hb3⟩
          have Hb3 := Lib.hid (Hb2.out.trans (hb3.mono Hb2.out.size)); clear hb3
          obtain ⟨v, hv⟩ : ∃ v, decide (R = Cls.row id n) = v := ⟨_, rfl⟩
          have Hv := Lib.hid hv
          clear hv
          have HK : Hid (∀ W, Below w.heap.size w W → W.cell? ⟨b0, o0, none⟩ = some (.slice a0 n c0)) := Lib.hid (fun W h => by rw [h.cell hbw0]; exact Hc0.out)
          have HE : Hid (∀ ra rc a' W, RowAt W ra (intCells R) → RowAt W a' (intCells (Cls.row id n)) → Calls Tryz.prog 68 #[.slice ra R.length rc, .slice a' n n] W fun e w' => e = .returned (.bool v) ∧ Below W.heap.size W w') := Lib.hid (fun ra rc a' W h h' => by
            rw [← Hv.out]
            have := slices_Equal ra a' rc n R (Cls.row id n) W h h' (by rw [Hrl.out]; omega) (by rw [Cls.row_len]; omega)
            rwa [Cls.row_len] at this)
          have hBd := Below.drew Hb3.out
          have hSd := HK.out _ hBd
          have HkSd := Lib.hid hSd
          clear hSd
          go_wp2
          go_region_held3 (fun w' => w'.cell? ⟨b0, o0, none⟩ = some (.slice a0 n c0)) (first | (with_reducible assumption) | (with_reducible exact HkSd.out)) (first
            | (go_at_call 69; refine (HR.out _ hB5).mono ?_; rintro e w4 ⟨ra, rc, rfl, _, _, hf4, hb4⟩; have hA4 := hf4.row; have hI4 := hrow5.below hb4; have hB4 := hB5.trans (hb4.mono hB5.size); have hS4 := HK.out _ hB4)
            | (go_at_call 69; refine (HR.out _ hBd).mono ?_; rintro e w4 ⟨ra, rc, rfl, _, _, hf4, hb4⟩; have hA4 := hf4.row; have hB4 := hBd.trans (hb4.mono hBd.size); have hS4 := HK.out _ hB4)
            | (go_at_call 40; refine (impl_unmovedSheets n w4 (by omega)).mono ?_; rintro e w5 ⟨rfl, hlab, hb5⟩; have hA5 := hA4.below hb5; have hI5 := hlab.row; have hB5 := hB4.trans (hb5.mono hB4.size); have hS5 := HK.out _ hB5)
            | (go_at_call 40; refine (impl_unmovedSheets n _ (by omega)).mono ?_; rintro e w5 ⟨rfl, hlab, hb5⟩; have hrow5 := hlab.row; have hB5 := hBd.trans (hb5.mono hBd.size); have hS5 := HK.out _ hB5)
            | (go_at_call 68; refine (HE.out _ _ _ _ hA5 hI5).mono ?_; rintro e w6 ⟨rfl, hb6⟩; have hB6 := hB5.trans (hb6.mono hB5.size); have hS6 := HK.out _ hB6)
            | (go_at_call 68; refine (HE.out _ _ _ _ hA4 hI4).mono ?_; rintro e w6 ⟨rfl, hb6⟩; have hB6 := hB4.trans (hb6.mono hB4.size); have hS6 := HK.out _ hB6))
          all_goals
            clear hS6
            go_wp2
            go_ret
            exact ⟨by rw [Hv.out]; rfl, hB6⟩
      · have dne : ((L.length : Int) != 2 * max 1 g) = true := by simp [hl]
        rw [decide_eq_false fun h : Cv.Act g L => hl h.2.2.1]
        generalize 2 * max 1 g = m at *
        have HG := Lib.hid hG; have HcP := Lib.hid hcP; have HC := Lib.hid hC
        clear hG hcP hC hl hP ha hL
        go_enter Tryz.func23, Tryz.ntmps23
        go_wp2_with fail
        refine HG.out.mono ?_
        rintro e w0 ⟨rfl, hw0⟩
        rw [hw0]; clear hw0 w0
        go_wp2_with fail
        refine HcP.out.mono ?_
        rintro e w1 ⟨rfl, hb1⟩
        have Hb1 := Lib.hid hb1; clear hb1
        go_wp2_with fail
        refine (HC.out w1).mono ?_
        rintro e w2 ⟨rfl, hb2⟩
        have Hb2 := Lib.hid (Hb1.out.trans (hb2.mono Hb1.out.size)); clear hb2
        go_wp2
        go_ret
        exact ⟨rfl, Hb2.out⟩
    · rw [decide_eq_false hP] at hcP
      rw [decide_eq_false fun h : Cv.Act g L => hP h.2.1]
      have HG := Lib.hid hG; have HcP := Lib.hid hcP
      clear hG hcP hP ha hL
      go_enter Tryz.func23, Tryz.ntmps23
      go_wp2_with fail
      refine HG.out.mono ?_
      rintro e w0 ⟨rfl, hw0⟩
      rw [hw0]; clear hw0 w0
      go_wp2_with fail
      refine HcP.out.mono ?_
      rintro e w1 ⟨rfl, hb1⟩
      have Hb1 := Lib.hid hb1; clear hb1
      go_wp2
      go_ret
      exact ⟨rfl, Hb1.out⟩
  · rw [decide_eq_false hg] at hG
    rw [decide_eq_false fun h : Cv.Act g L => hg h.1]
    have HG := Lib.hid hG
    clear hG hg ha hL
    go_enter Tryz.func23, Tryz.ntmps23
    go_wp2_with fail
    refine HG.out.mono ?_
    rintro e w0 ⟨rfl, hw0⟩
    rw [hw0]; clear hw0 w0
    go_wp2
    go_ret
    exact ⟨rfl, Below.refl _ _⟩

def Cv.Whole (l : List Int) : Prop := 0 < l.length ∧ ∀ k, k < l.length → l.getD k 0 = (k : Int)
instance (l : List Int) : Decidable (Cv.Whole l) := by unfold Cv.Whole; exact inferInstance
theorem Cv.whole_row {L : List (List Int)} {w : List Int} {n : Nat} (hn : 0 < n) : Cv.Whole (Cv.row L w n) ↔ Cv.row L w n = Cls.row id n := by
  rw [Cv.rim_same]
  unfold Cv.Whole
  rw [Cv.row_len]
  have hg : ∀ k, k < n → (Cv.row L w n).getD k 0 = ((Cv.act L w k : Nat) : Int) := fun k hk => by
    rw [List.getD_eq_getElem?_getD]; simp [Cv.row, hk]
  constructor
  · rintro ⟨_, h⟩ s hs
    have := h s hs
    rw [hg s hs] at this; omega
  · intro h
    exact ⟨hn, fun k hk => by rw [hg k hk, h k hk]⟩
set_option maxRecDepth 10000 in
set_option maxHeartbeats 1000000 in
theorem spec_l9Whole (a : Option Addr) (c : Nat) (l : List Int) (w : World) (ha : RowAt w a (intCells l)) (hl : l.length ≤ 1048576) :
    Calls Tryz.prog 71 #[.slice a l.length c] w fun e w' => e = .returned (.bool (decide (Cv.Whole l))) ∧ w' = w := by
  have Ha := Lib.hid ha
  obtain ⟨V, hV⟩ : ∃ V, decide (Cv.Whole l) = V := ⟨_, rfl⟩
  rw [hV]
  have HV := Lib.hid hV
  clear ha hV
  go_enter Tryz.func71, Tryz.ntmps71
  go_wp2
  go_loopw [3] (fun iv wr => ∃ i : Nat, i ≤ l.length ∧ iv = .int .i64 i ∧ Hid (∀ k, k < i → l.getD k 0 = (k : Int)) ∧ wr = w) (fun iv _ => l.length - (intOf iv).toNat)
  case atStart => exact ⟨0, by omega, rfl, Lib.hid (fun k h => absurd h (by omega)), rfl⟩
  case round =>
    obtain ⟨i, hi, rfl, hall, rfl⟩ := hrel
    by_cases hlt : i < l.length
    · obtain ⟨y, hy⟩ := get_some hlt
      obtain ⟨b, o, rfl, hbw, hcell⟩ := intCells_get? Ha.out hy
      have hgd : l.getD i 0 = y := by rw [List.getD_eq_getElem?_getD, hy]; rfl
      have Hgd := Lib.hid hgd
      clear hy hgd
      by_cases he : y = (i : Int)
      · have dne : (y != (i : Int)) = false := by simp [he]
        have Hall := Lib.hid (show ∀ k, k < i + 1 → l.getD k 0 = (k : Int) from fun k hk => by
          rcases Nat.lt_or_ge k i with h | h
          · exact hall.out k h
          · obtain rfl : k = i := by omega
            rw [Hgd.out, he])
        clear he
        go_wp2
        go_roundw
        case rel => exact ⟨i + 1, by omega, by go_num, Hall, trivial⟩
        case measure => simp [intOf]; omega
      · have dne : (y != (i : Int)) = true := by simp [he]
        have Hd := Lib.hid (show V = false by rw [← HV.out]; exact decide_eq_false fun h => he (by rw [← Hgd.out]; exact h.2 i hlt))
        clear he
        go_wp2
        go_ret
        exact ⟨by rw [Hd.out]; rfl, rfl⟩
    · obtain rfl : i = l.length := by omega
      by_cases h0 : 0 < l.length
      · have d0 : (0 : Int) < (l.length : Int) := by omega
        have Hd := Lib.hid (show V = true by rw [← HV.out]; exact decide_eq_true ⟨h0, hall.out⟩)
        go_wp2
        go_ret
        exact ⟨by rw [Hd.out]; rfl, rfl⟩
      · have d0 : ¬ (0 : Int) < (l.length : Int) := by omega
        have Hd := Lib.hid (show V = false by rw [← HV.out]; exact decide_eq_false fun h => h0 h.1)
        go_wp2
        go_ret
        exact ⟨by rw [Hd.out]; rfl, rfl⟩
set_option maxRecDepth 10000 in
set_option maxHeartbeats 2000000 in
theorem spec_IsAction (g : Int) (a : Option Addr) (c : Nat) (L : List (List Int)) (w : World) (ha : GridAt w a L) (hL : ∀ p ∈ L, p.length ≤ 1048576) (hn : L.length ≤ 1048576) :
    Calls Tryz.prog 24 #[.int .i64 g, .slice a L.length c] w fun e w' => e = .returned (.bool (decide (Cv.Act g L))) ∧ Below w.heap.size w w' := by
  have hG := fun W => spec_l1In g 0 2 W
  by_cases hg : 0 ≤ g ∧ g ≤ 2
  · rw [decide_eq_true hg] at hG
    have hcP := spec_l9Perms a c L w ha hL hn
    by_cases hP : Cv.Perms L
    · rw [decide_eq_true hP] at hcP
      have hM := fun W => spec_l1Max 1 g W
      have hm0 : 1 ≤ max 1 g := by omega
      have hm1 : max 1 g ≤ 2 := by omega
      by_cases hl : (L.length : Int) = 2 * max 1 g
      · have hA := Cv.act_iff hg hP hl
        have dne : ((L.length : Int) != 2 * max 1 g) = false := by simp [hl]
        by_cases h0 : g = 0
        · rw [decide_eq_true (hA.2 (Or.inl h0))]
          have dg : (g == 0) = true := beq_iff_eq.2 h0
          generalize max 1 g = m at *
          have HG := Lib.hid hG; have HcP := Lib.hid hcP; have HM := Lib.hid hM
          clear hG hcP hM hA hl h0 hP ha hL
          go_enter Tryz.func24, Tryz.ntmps24
          go_wp2_with fail
          refine (HG.out _).mono ?_
          rintro e w0 ⟨rfl, hw0⟩
          rw [hw0]; clear hw0 w0
          go_wp2_with fail
          refine HcP.out.mono ?_
          rintro e w1 ⟨rfl, hb1⟩
          have Hb1 := Lib.hid hb1; clear hb1
          go_wp2_with fail
          refine (HM.out w1).mono ?_
          rintro e w0 ⟨rfl, hw0⟩
          rw [hw0]; clear hw0 w0
          go_wp2
          go_ret
          exact ⟨rfl, Hb1.out⟩
        · have dg : (g == 0) = false := beq_eq_false_iff_ne.2 h0
          have hmg : max 1 g = g := by omega
          have hR := fun W => spec_Relator g W
          have hrl := Dn.rel_len8 g
          have hAW := fun aw cw W (hb : Below w.heap.size w W) (h : RowAt W aw (intCells (Dn.rel g))) => spec_ActWord a aw c cw L (Dn.rel g) W (ha.below hb) hL hn h (Nat.le_trans hrl (by decide))
          have hok := Cv.actW_of (Cv.ok_upto.2 ⟨hP, Cv.rimW_fits hg hl⟩)
          unfold Cv.rimW at hok hA
          rw [hmg] at hok hA
          rw [hok] at hAW
          have h1 := hP.2.2.2.1
          have h5 := hP.2.2.2.2
          have hres : decide (Cv.Act g L) = decide (Cv.Whole (Cv.row L (Dn.rel g) (Cv.deg L))) := decide_eq_decide.2 (by rw [Cv.whole_row (by omega)]; exact ⟨fun h => (hA.1 h).resolve_left h0, fun h => hA.2 (Or.inr h)⟩)
          rw [hres]
          have hrl2 : (Cv.row L (Dn.rel g) (Cv.deg L)).length = Cv.deg L := Cv.row_len _ _ _
          generalize Cv.row L (Dn.rel g) (Cv.deg L) = R at *
          generalize Cv.deg L = n at *
          generalize Dn.rel g = r at *
          generalize max 1 g = m at *
          have HG := Lib.hid hG; have HcP := Lib.hid hcP; have HM := Lib.hid hM; have HR := Lib.hid hR; have HA := Lib.hid hAW; have Hrl := Lib.hid hrl2
          clear hG hcP hM hA hl h0 hP ha hL hR hrl hAW hok hres hrl2 hmg
          go_enter Tryz.func24, Tryz.ntmps24
          go_wp2_with fail
          refine (HG.out _).mono ?_
          rintro e w0 ⟨rfl, hw0⟩
          rw [hw0]; clear hw0 w0
          go_wp2_with fail
          refine HcP.out.mono ?_
          rintro e w1 ⟨rfl, hb1⟩
          have Hb1 := Lib.hid hb1; clear hb1
          go_wp2_with fail
          refine (HM.out w1).mono ?_
          rintro e w0 ⟨rfl, hw0⟩
          rw [hw0]; clear hw0 w0
          go_wp2_with fail
          refine (HR.out w1).mono ?_
          rintro e w2 ⟨ra, rc, rfl, _, _, hf2, hb2⟩
          have Hf2 := Lib.hid hf2.row; have Hb2 := Lib.hid (Hb1.out.trans (hb2.mono Hb1.out.size))
          clear hf2 hb2
          go_wp2_with fail
          refine (HA.out ra rc w2 Hb2.out Hf2.out).mono ?_
          rintro e w3 ⟨ra3, rc3, rfl, _, _, hf3, hb3⟩
          have Hf3 := Lib.hid hf3.row; have Hb3 := Lib.hid (Hb2.out.trans (hb3.mono Hb2.out.size))
          clear hf3 hb3
          go_wp2_with fail
          refine (spec_l9Whole ra3 rc3 R w3 Hf3.out (by rw [Hrl.out]; omega)).mono ?_
          rintro e w0 ⟨rfl, hw0⟩
          rw [hw0]; clear hw0 w0
          go_wp2
          go_ret
          exact ⟨rfl, Hb3.out⟩
      · have dne : ((L.length : Int) != 2 * max 1 g) = true := by simp [hl]
        rw [decide_eq_false fun h : Cv.Act g L => hl h.2.2.1]
        generalize max 1 g = m at *
        have HG := Lib.hid hG; have HcP := Lib.hid hcP; have HM := Lib.hid hM
        clear hG hcP hM hl hP ha hL
        go_enter Tryz.func24, Tryz.ntmps24
        go_wp2_with fail
        refine (HG.out _).mono ?_
        rintro e w0 ⟨rfl, hw0⟩
        rw [hw0]; clear hw0 w0
        go_wp2_with fail
        refine HcP.out.mono ?_
        rintro e w1 ⟨rfl, hb1⟩
        have Hb1 := Lib.hid hb1; clear hb1
        go_wp2_with fail
        refine (HM.out w1).mono ?_
        rintro e w0 ⟨rfl, hw0⟩
        rw [hw0]; clear hw0 w0
        go_wp2
        go_ret
        exact ⟨rfl, Hb1.out⟩
    · rw [decide_eq_false hP] at hcP
      rw [decide_eq_false fun h : Cv.Act g L => hP h.2.1]
      have HG := Lib.hid hG; have HcP := Lib.hid hcP
      clear hG hcP hP ha hL
      go_enter Tryz.func24, Tryz.ntmps24
      go_wp2_with fail
      refine (HG.out _).mono ?_
      rintro e w0 ⟨rfl, hw0⟩
      rw [hw0]; clear hw0 w0
      go_wp2_with fail
      refine HcP.out.mono ?_
      rintro e w1 ⟨rfl, hb1⟩
      have Hb1 := Lib.hid hb1; clear hb1
      go_wp2
      go_ret
      exact ⟨rfl, Hb1.out⟩
  · rw [decide_eq_false hg] at hG
    rw [decide_eq_false fun h : Cv.Act g L => hg h.1]
    have HG := Lib.hid hG
    clear hG hg ha hL
    go_enter Tryz.func24, Tryz.ntmps24
    go_wp2_with fail
    refine (HG.out _).mono ?_
    rintro e w0 ⟨rfl, hw0⟩
    rw [hw0]; clear hw0 w0
    go_wp2
    go_ret
    exact ⟨rfl, Below.refl _ _⟩
end Go.Proofs.YtamgimdjnmcpaaaGreat
