/-
  The walks of the model's l9Perms, l9Act and ActWord.
-/
import Derived.Test.YtpebgompfgkljaaGreatBase
import Derived.Test.YtpebgompfgkljaaGreatSlice
import Derived.Test.YtpebgompfgkljaaGreatInts
import Derived.Test.YtpebgompfgkljaaGreatOwn
import Derived.Test.YtpebgompfgkljaaGreatWord
import Derived.Test.YtpebgompfgkljaaGreatIsWord
import Derived.Test.YtpebgompfgkljaaGreatGrid
import Derived.Test.YtpebgompfgkljaaGreatClass
import Derived.Test.YtpebgompfgkljaaGreatLab
import Derived.Test.YtpebgompfgkljaaGreatMap
import Derived.Test.YtpebgompfgkljaaGreatMapA
import Derived.Test.YtpebgompfgkljaaGreatPermInv
import Derived.Test.YtpebgompfgkljaaGreatUses
import Derived.Test.YtpebgompfgkljaaGreatCov
import Derived.Deep.QuietTactic
import Derived.BigQuiet
import Derived.StillTailTactics
namespace Go.Proofs.YtpebgompfgkljaaGreat
open Go.RowKit

namespace Cv
theorem head_get {L : List (List Int)} (h : 0 < L.length) : ∃ r, L[0]? = some r ∧ r.length = deg L := by
  cases L with
  | nil => simp at h
  | cons r L => exact ⟨r, rfl, rfl⟩
theorem perms_bad {L : List (List Int)} {p : List Int} {i : Nat} (h : L[i]? = some p) (hb : ¬ (p.length = deg L ∧ Mp.IsP p)) : ¬ Perms L := fun hP => hb (hP.1 p (get_mem h))
theorem perms_all {L : List (List Int)} (h : ∀ i p, i < L.length → L[i]? = some p → p.length = deg L ∧ Mp.IsP p) : Perms L ↔ ((1 : Int) ≤ (L.length : Int) ∧ (L.length : Int) ≤ 8) ∧ ((1 : Int) ≤ (deg L : Int) ∧ (deg L : Int) ≤ 5) := by
  constructor
  · rintro ⟨_, h1, h2, h3, h4⟩; omega
  · rintro ⟨⟨h1, h2⟩, h3, h4⟩
    refine ⟨fun p hp => ?_, by omega, by omega, by omega, by omega⟩
    obtain ⟨i, hi, e⟩ := List.mem_iff_getElem.1 hp
    exact h i p hi (by rw [List.getElem?_eq_getElem hi, e])
end Cv

set_option maxRecDepth 10000 in
set_option maxHeartbeats 2000000 in
theorem spec_l9Perms (a : Option Addr) (c : Nat) (L : List (List Int)) (w : World) (ha : GridAt w a L) (hl : ∀ p ∈ L, p.length ≤ 1048576) (hn : L.length ≤ 1048576) :
    Calls Tryz.prog 75 #[.slice a L.length c] w fun e w' => e = .returned (.bool (decide (Cv.Perms L))) ∧ Below w.heap.size w w' := by
  have Ha := Lib.hid ha; have Hl := Lib.hid hl
  clear ha hl
  go_enter Tryz.func75, Tryz.ntmps75
  go_wp2
  go_loopw [3] (fun iv wr => ∃ i : Nat, i ≤ L.length ∧ iv = .int .i64 i ∧ Hid (∀ j p, j < i → L[j]? = some p → p.length = Cv.deg L ∧ Mp.IsP p) ∧ Hid (Below w.heap.size w wr)) (fun iv _ => L.length - (intOf iv).toNat)
  case atStart => exact ⟨0, by omega, rfl, Lib.hid (fun j p h => absurd h (by omega)), Lib.hid (Below.refl _ _)⟩
  case round =>
    obtain ⟨i, hi, rfl, hall, hb⟩ := hrel
    by_cases hlt : i < L.length
    · have dlt : decide (i < L.length) = true := decide_eq_true hlt
      obtain ⟨p, hp⟩ := get_some hlt
      obtain ⟨r0, hr0, hr0l⟩ := Cv.head_get (L := L) (by omega)
      obtain ⟨b, o, ai, ci, rfl, hbw, hcell, hrow⟩ := (Ha.out.below hb.out).get hp
      obtain ⟨b', o', a0, c0, he, hbw', hcell0, _⟩ := (Ha.out.below hb.out).get hr0
      cases he
      rw [Nat.add_zero] at hcell0
      have i0 : (0 : Int) ≤ (i : Int) := by omega
      have i1 : (i : Int) < (L.length : Int) := by omega
      have i2 : 0 < L.length := by omega
      have hpl := Hl.out p (get_mem hp)
      have hP := fun W (h : RowAt W ai (intCells p)) => spec_l6Perm ai ci p W h hpl
      have Hp := Lib.hid hp; have Hrow := Lib.hid hrow; have Hr0 := Lib.hid hr0l
      clear hp hr0 hrow hr0l
      by_cases hlen : p.length = r0.length
      · have dne : ((p.length : Int) != (r0.length : Int)) = false := by simp [hlen]
        by_cases hip : Mp.IsP p
        · rw [decide_eq_true hip] at hP
          have HP := Lib.hid hP
          have Hall := Lib.hid (show ∀ j q, j < i + 1 → L[j]? = some q → q.length = Cv.deg L ∧ Mp.IsP q from fun j q hj hq => by
            rcases Nat.lt_or_ge j i with h | h
            · exact hall.out j q h hq
            · obtain rfl : j = i := by omega
              rw [Hp.out] at hq
              cases hq
              exact ⟨hlen.trans Hr0.out, hip⟩)
          clear hP hlen hip
          go_wp2
          go_still_tail 15, (by kernel_rfl)
          change wpList _ _ _ _ _ wr.drew
          go_wp2_with fail
          refine (HP.out wr.drew (Hrow.out.below (Below.refl _ _).drew)).mono ?_
          rintro e w1 ⟨rfl, hb1⟩
          have Hb1 := Lib.hid (hb.out.drew.trans (hb1.mono hb.out.size)); clear hb1
          go_wp2
          go_roundw
          case rel => exact ⟨i + 1, by omega, by go_num, Hall, Hb1⟩
          case measure => simp [intOf]; omega
        · rw [decide_eq_false hip] at hP
          have HP := Lib.hid hP
          have Hd := Lib.hid (show decide (Cv.Perms L) = false from decide_eq_false (Cv.perms_bad Hp.out fun h => hip h.2))
          clear hP hlen hip
          go_wp2
          go_still_tail 15, (by kernel_rfl)
          change wpList _ _ _ _ _ wr.drew
          go_wp2_with fail
          refine (HP.out wr.drew (Hrow.out.below (Below.refl _ _).drew)).mono ?_
          rintro e w1 ⟨rfl, hb1⟩
          have Hb1 := Lib.hid (hb.out.drew.trans (hb1.mono hb.out.size)); clear hb1
          go_wp2
          go_ret
          exact ⟨by rw [Hd.out]; rfl, Hb1.out⟩
      · have dne : ((p.length : Int) != (r0.length : Int)) = true := by simp; omega
        have Hd := Lib.hid (show decide (Cv.Perms L) = false from decide_eq_false (Cv.perms_bad Hp.out fun h => hlen (h.1.trans Hr0.out.symm)))
        clear hP hlen
        go_wp2
        go_still_tail 15, (by kernel_rfl)
        change wpList _ _ _ _ _ wr.drew
        go_wp2
        go_ret
        exact ⟨by rw [Hd.out]; rfl, hb.out.drew⟩
    · obtain rfl : i = L.length := by omega
      have dlt : decide (L.length < L.length) = false := decide_eq_false (by omega)
      have Hall := Lib.hid (Cv.perms_all (L := L) hall.out)
      have hc1 := fun W => spec_l1In (L.length : Int) 1 8 W
      by_cases h1 : (1 : Int) ≤ (L.length : Int) ∧ (L.length : Int) ≤ 8
      · rw [decide_eq_true h1] at hc1
        have Hc1 := Lib.hid hc1
        obtain ⟨r0, hr0, hr0l⟩ := Cv.head_get (L := L) (by omega)
        obtain ⟨b', o', a0, c0, rfl, hbw', hcell0, _⟩ := (Ha.out.below hb.out).get hr0
        rw [Nat.add_zero] at hcell0
        have i2 : 0 < L.length := by omega
        have hc2 := fun W => spec_l1In (r0.length : Int) 1 5 W
        have Hres := Lib.hid (show decide (Cv.Perms L) = decide ((1 : Int) ≤ (r0.length : Int) ∧ (r0.length : Int) ≤ 5) from decide_eq_decide.2 (by rw [Hall.out, ← hr0l]; exact ⟨fun h => h.2, fun h => ⟨h1, h⟩⟩))
        generalize decide ((1 : Int) ≤ (r0.length : Int) ∧ (r0.length : Int) ≤ 5) = d at *
        have Hc2 := Lib.hid hc2
        clear hc1 hc2 h1 hr0 hr0l
        go_wp2_with fail
        refine (Hc1.out _).mono ?_
        rintro e w1 ⟨rfl, hw1⟩
        rw [hw1]; clear hw1 w1
        go_wp2_with fail
        refine (Hc2.out _).mono ?_
        rintro e w1 ⟨rfl, hw1⟩
        rw [hw1]; clear hw1 w1
        go_wp2
        go_ret
        exact ⟨by rw [Hres.out]; rfl, hb.out⟩
      · rw [decide_eq_false h1] at hc1
        have Hc1 := Lib.hid hc1
        have Hd := Lib.hid (show decide (Cv.Perms L) = false from decide_eq_false (by rw [Hall.out]; exact fun h => h1 h.1))
        clear hc1 h1
        go_wp2_with fail
        refine (Hc1.out _).mono ?_
        rintro e w1 ⟨rfl, hw1⟩
        rw [hw1]; clear hw1 w1
        go_wp2
        go_ret
        exact ⟨by rw [Hd.out]; rfl, hb.out⟩

set_option maxRecDepth 10000 in
set_option maxHeartbeats 2000000 in
theorem spec_l9Act (a aw : Option Addr) (c cw : Nat) (L : List (List Int)) (l : List Int) (s0 : Nat) (w : World) (ha : GridAt w a L) (haw : RowAt w aw (intCells l)) (hP : Cv.Perms L) (hl : l.length ≤ 1000) (hf : ∀ x ∈ l, x ≠ 0 ∧ x.natAbs ≤ L.length) (hs0 : s0 < Cv.deg L) :
    Calls Tryz.prog 78 #[.slice a L.length c, .slice aw l.length cw, .int .i64 (s0 : Int)] w fun e w' => e = .returned (.int .i64 ((Cv.act L l s0 : Nat) : Int)) ∧ Below w.heap.size w w' := by
  have Ha := Lib.hid ha; have Haw := Lib.hid haw; have HP := Lib.hid hP; have Hf := Lib.hid hf; have Hs0 := Lib.hid hs0
  clear ha haw hP hf hs0
  go_enter Tryz.func78, Tryz.ntmps78
  go_wp2
  go_loopw [2, 7, 8] (fun sv iv _ wr => ∃ i : Nat, i ≤ l.length ∧ iv = .int .i64 i ∧ sv = .int .i64 ((Cv.act L (l.take i) s0 : Nat) : Int) ∧ Hid (Below w.heap.size w wr)) (fun _ iv _ _ => l.length - (intOf iv).toNat)
  case atStart => exact ⟨0, by omega, rfl, rfl, Lib.hid (Below.refl _ _)⟩
  case round =>
    obtain ⟨i, hi, rfl, rfl, hb⟩ := hrel
    by_cases hlt : i < l.length
    · have dlt : decide (i < l.length) = true := decide_eq_true hlt
      obtain ⟨b, o, rfl, hbw, hcell⟩ := intCells_at (Haw.out.below hb.out) hlt
      obtain ⟨hx0, hx1⟩ := Hf.out _ (List.getElem_mem hlt)
      have hstep := Cv.act_take (L := L) hlt s0
      have hslt : Cv.act L (l.take i) s0 < Cv.deg L := Cv.act_lt HP.out (fun x hx => Hf.out x (List.mem_of_mem_take hx)) Hs0.out
      obtain ⟨hpP, hpl⟩ := Cv.perm_isP HP.out hx0 hx1
      have hlen8 := HP.out.2.2.1
      have h5 := HP.out.2.2.2.2
      obtain ⟨j, hj⟩ : ∃ j : Nat, l[i].natAbs = j + 1 := ⟨l[i].natAbs - 1, by omega⟩
      have hjl : j < L.length := by omega
      obtain ⟨p, hp⟩ := get_some hjl
      obtain ⟨b', o', ai, ci, rfl, hbw', hcell', hrow⟩ := (Ha.out.below hb.out).get hp
      have habs := fun W => spec_l3Abs l[i] W (by omega) (by omega)
      rw [hj, Int.natCast_add, show ((1 : Nat) : Int) = 1 from rfl] at habs
      have hpm := HP.out.1 p (get_mem hp)
      have hperm : Cv.perm L l[i] = if l[i] < 0 then Mp.mirror p else p := by
        unfold Cv.perm
        rw [hj, Nat.add_sub_cancel, List.getD_eq_getElem?_getD, hp]; rfl
      rw [show Cv.img L (Cv.act L (l.take i) s0) l[i] = Mp.at_ (Cv.perm L l[i]) (Cv.act L (l.take i) s0) from rfl] at hstep
      generalize Cv.act L (l.take i) s0 = s at *
      generalize hx : l[i] = x at *
      have Hx := Lib.hid hx; have Hstep := Lib.hid hstep; have Habs := Lib.hid habs; have Hrow := Lib.hid hrow; have Hpm := Lib.hid hpm
      have i0 : (0 : Int) ≤ (i : Int) := by omega
      have i1 : (i : Int) < (l.length : Int) := by omega
      have j0 : (0 : Int) ≤ (j : Int) := by omega
      have j1 : (j : Int) < (L.length : Int) := by omega
      have s2 : (0 : Int) ≤ (s : Int) := by omega
      clear hx hstep habs hrow hpm hp hj
      by_cases hneg : x < 0
      · have dneg : decide (x < 0) = true := decide_eq_true hneg
        rw [if_pos hneg] at hperm
        have hI := fun W (h : RowAt W ai (intCells p)) => spec_l6InverseP ai ci p W h (by have := Hpm.out.1; omega) Hpm.out.2
        rw [← hperm] at hI
        generalize Cv.perm L x = q at *
        have HI := Lib.hid hI; have HqP := Lib.hid hpP
        have s1 : s < q.length := by omega
        have s3 : (s : Int) < (q.length : Int) := by omega
        have Hat := Lib.hid (Mp.at_get hpP s1)
        clear hI hperm hpP hneg
        go_wp2_with fail
        refine (Habs.out _).mono ?_
        rintro e w1 ⟨rfl, hw1⟩
        rw [hw1]; clear hw1 w1
        go_wp2_with fail
        refine (HI.out wr Hrow.out).mono ?_
        rintro e w1 ⟨qa, qc, rfl, hqc, hqcm, hfq, hb1⟩
        obtain ⟨b2, o2, rfl, hbw2, hcell2⟩ := intCells_get? hfq.row Hat.out
        have Hb1 := Lib.hid (hb.out.trans (hb1.mono hb.out.size))
        clear hfq hb1
        go_wp2
        go_roundw
        case rel => exact ⟨i + 1, by omega, by go_num, by rw [Hstep.out], Hb1⟩
        case measure => simp [intOf]; omega
      · have dneg : decide (x < 0) = false := decide_eq_false hneg
        rw [if_neg hneg] at hperm
        rw [hperm] at hpP hpl Hstep
        have s1 : s < p.length := by omega
        have s3 : (s : Int) < (p.length : Int) := by omega
        obtain ⟨b2, o2, rfl, hbw2, hcell2⟩ := intCells_get? Hrow.out (Mp.at_get hpP s1)
        clear hperm hpP hneg
        go_wp2_with fail
        refine (Habs.out _).mono ?_
        rintro e w1 ⟨rfl, hw1⟩
        rw [hw1]; clear hw1 w1
        go_wp2
        go_roundw
        case rel => exact ⟨i + 1, by omega, by go_num, by rw [Hstep.out], hb⟩
        case measure => simp [intOf]; omega
    · obtain rfl : i = l.length := by omega
      rw [List.take_of_length_le (Nat.le_refl _)]
      have dlt : decide (l.length < l.length) = false := decide_eq_false (by omega)
      generalize hA : Cv.act L l s0 = A at *
      have HA := Lib.hid hA; clear hA
      go_wp2
      go_ret
      exact ⟨by rw [HA.out]; rfl, hb.out⟩
theorem Cv.actW_of {L : List (List Int)} {l : List Int} (h : Cv.Ok L l) : Cv.actW L l = Cv.row L l (Cv.deg L) := if_pos h
theorem Cv.actW_not {L : List (List Int)} {l : List Int} (h : ¬ Cv.Ok L l) : Cv.actW L l = [] := if_neg h
set_option maxRecDepth 10000 in
set_option maxHeartbeats 2000000 in
theorem spec_ActWord (a aw : Option Addr) (c cw : Nat) (L : List (List Int)) (l : List Int) (w : World) (ha : GridAt w a L) (hL : ∀ p ∈ L, p.length ≤ 1048576) (hn : L.length ≤ 1048576) (haw : RowAt w aw (intCells l)) (hl : l.length ≤ 1048576) :
    Calls Tryz.prog 17 #[.slice a L.length c, .slice aw l.length cw] w fun e w' => Gives w (Cv.actW L l) e w' := by
  have hcP := spec_l9Perms a c L w ha hL hn
  have hcW := fun W (hb : Below w.heap.size w W) => spec_IsWord aw cw l W (haw.below hb) hl
  have Ha := Lib.hid ha; have Haw := Lib.hid haw
  clear ha haw hL
  obtain ⟨i0, hi0, hz0, hz1, hz2⟩ := info_int_parts
  have Hi0 := Lib.hid hi0; have Hz0 := Lib.hid hz0; have Hz1 := Lib.hid hz1; have Hz2 := Lib.hid hz2
  clear hi0 hz0 hz1 hz2
  by_cases hP : Cv.Perms L
  · rw [decide_eq_true hP] at hcP
    by_cases hW : Word.IsW l
    · rw [decide_eq_true hW] at hcW
      have HcP := Lib.hid hcP; have HcW := Lib.hid hcW; have HP := Lib.hid hP; have HW := Lib.hid hW
      have hl24 := hW.2
      have hlen8 := hP.2.2.1
      have hlen1 := hP.2.1
      have h5 := hP.2.2.2.2
      clear hcP hcW hP hW
      go_enter Tryz.func17, Tryz.ntmps17
      go_wp2_with fail
      refine HcP.out.mono ?_
      rintro e w1 ⟨rfl, hb1⟩
      have Hb1 := Lib.hid hb1; clear hb1
      go_wp2_with fail
      refine (HcW.out w1 Hb1.out).mono ?_
      rintro e w2 ⟨rfl, hb2⟩
      have Hb2 := Lib.hid (Hb1.out.trans (hb2.mono Hb1.out.size)); clear hb2
      go_wp2
      go_loopw [5] (fun iv wr => ∃ i : Nat, i ≤ l.length ∧ iv = .int .i64 i ∧ Hid (∀ j x, j < i → l[j]? = some x → x.natAbs ≤ L.length) ∧ Hid (Below w.heap.size w wr)) (fun iv _ => l.length - (intOf iv).toNat)
      case atStart => exact ⟨0, by omega, rfl, Lib.hid (fun j x h => absurd h (by omega)), Hb2⟩
      case round =>
        obtain ⟨i, hi, rfl, hall, hb⟩ := hrel
        by_cases hlt : i < l.length
        · have dlt : decide (i < l.length) = true := decide_eq_true hlt
          obtain ⟨x, hx⟩ := get_some hlt
          obtain ⟨b, o, rfl, hbw, hcell⟩ := intCells_get? (Haw.out.below hb.out) hx
          obtain ⟨hx0, hx1, hx2⟩ := HW.out.1 x (get_mem hx)
          have habs := fun W => spec_l3Abs x W (by omega) (by omega)
          by_cases hf : x.natAbs ≤ L.length
          · have Hall := Lib.hid (show ∀ j y, j < i + 1 → l[j]? = some y → y.natAbs ≤ L.length from fun j y hj hy => by
              rcases Nat.lt_or_ge j i with h | h
              · exact hall.out j y h hy
              · obtain rfl : j = i := by omega
                rw [hx] at hy; cases hy; exact hf)
            have dgt : decide (L.length < x.natAbs) = false := decide_eq_false (by omega)
            have Habs := Lib.hid habs
            clear habs hx hf
            generalize x.natAbs = y at *
            go_wp2_with fail
            refine (Habs.out _).mono ?_
            rintro e w3 ⟨rfl, hw3⟩
            rw [hw3]; clear hw3 w3
            go_wp2
            go_roundw
            case rel => exact ⟨i + 1, by omega, by go_num, Hall, hb⟩
            case measure => simp [intOf]; omega
          · have Hno := Lib.hid (show ¬ Cv.Ok L l from fun h => hf (h.2.2 x (get_mem hx)))
            have dgt : decide (L.length < x.natAbs) = true := decide_eq_true (by omega)
            have Habs := Lib.hid habs
            clear habs hx hf
            generalize x.natAbs = y at *
            go_wp2_with fail
            refine (Habs.out _).mono ?_
            rintro e w3 ⟨rfl, hw3⟩
            rw [hw3]; clear hw3 w3
            go_wp2
            go_ret
            rw [Cv.actW_not Hno.out]
            exact own_gives (by exact own_mono (own_made (w := wr) rfl) hb.out.size) rfl (hb.out.alloc hb.out.size _)
        · obtain rfl : i = l.length := by omega
          have dlt : decide (l.length < l.length) = false := decide_eq_false (by omega)
          have hfit : Cv.Fits L l := fun x hx => by
            obtain ⟨j, hj, e⟩ := List.mem_iff_getElem.1 hx
            exact hall.out j x hj (by rw [List.getElem?_eq_getElem hj, e])
          have Hok := Lib.hid (show Cv.Ok L l from ⟨HP.out, HW.out, hfit⟩)
          have Hlet := Lib.hid (show ∀ x ∈ l, x ≠ 0 ∧ x.natAbs ≤ L.length from fun x hx => ⟨(HW.out.1 x hx).1, hfit x hx⟩)
          clear hfit hall
          obtain ⟨wo, rfl⟩ : ∃ wo : World, wo = wr := ⟨_, rfl⟩
          obtain ⟨N, hN⟩ : ∃ N, N = wo.heap.size := ⟨_, rfl⟩
          have HN := Lib.hid hN
          have Hm := Lib.hid (own_made (w := wo) hN.symm)
          have Hwo := Lib.hid hb.out.size
          have HbA := Lib.hid (hb.out.alloc hb.out.size (.cells #[] 3))
          clear hN hb
          go_wp2
          go_loopw [6, 7] (fun ov iv wr => ∃ i : Nat, i ≤ Cv.deg L ∧ iv = .int .i64 i ∧ wr.ownsRow N 3 1 ov i (intCells (Cv.row L l i)) ∧ Hid (Below w.heap.size w wr ∧ N ≤ wr.heap.size)) (fun _ iv _ => Cv.deg L - (intOf iv).toNat)
          case atStart => exact ⟨0, by omega, rfl, Hm.out, Lib.hid ⟨HbA.out, by rw [HN.out]; simp⟩⟩
          case round =>
            obtain ⟨i, hi, rfl, hown, hh⟩ := hrel
            obtain ⟨r0, hr0, hr0l⟩ := Cv.head_get (L := L) (by omega)
            obtain ⟨b', o', a0, c0, rfl, hbw', hcell0, _⟩ := (Ha.out.below hh.out.1).get hr0
            rw [Nat.add_zero] at hcell0
            have i2 : 0 < L.length := by omega
            have Hr0l := Lib.hid hr0l
            have hdr : r0.length ≤ 5 := by omega
            have hir : i ≤ r0.length := by omega
            clear hr0 hr0l
            by_cases hlt : i < r0.length
            · have dlt : decide (i < r0.length) = true := decide_eq_true hlt
              have hA := fun W (h : Below w.heap.size w W) => spec_l9Act (some ⟨b', o', none⟩) aw c cw L l i W (Ha.out.below h) (Haw.out.below h) HP.out (by omega) Hlet.out (by rw [← Hr0l.out]; exact hlt)
              have Hsn := Lib.hid (Cv.row_snoc L l i)
              generalize Cv.act L l i = v at *
              have HA := Lib.hid hA
              have Hown := Lib.hid hown
              clear hA hown
              go_wp2_with fail
              refine (HA.out wr hh.out.1).mono ?_
              rintro e w4 ⟨rfl, hb4⟩
              have Hb4 := Lib.hid (hh.out.1.trans (hb4.mono hh.out.1.size))
              have hown4 := own_keep Hown.out hb4 (fun k hk => (Hown.out.lt k hk).2)
              have hN4 : N ≤ w4.heap.size := Nat.le_trans hh.out.2 hb4.size
              have hq1 : i + 1 ≤ maxLen := by unfold maxLen; omega
              have hq2 : (i + 1) * 8 ≤ 140737488355328 := by omega
              obtain ⟨av, cv, rfl⟩ := own_len Hown.out
              clear hb4
              go_wp2_with (at_builtin; refine append_one rfl (.tmp 41) (.tmp 46) 30 rfl N 3 i0 _ 8 Tryz.underlying30 Hi0.out Hz0.out Hz1.out Hz2.out (by rfl) _ _ _ rfl hown4 (by rfl) _ rfl hq1 hq2 hN4 ?_; intro v1 w5 hown5 hg5 _)
              go_roundw
              case rel =>
                refine ⟨i + 1, by have := Hr0l.out; omega, by go_num, ?_, Lib.hid ⟨?_, ?_⟩⟩
                · rw [Hsn.out, ← intCells_snoc]; exact hown5
                · exact Below.grown (Hb4.out.alloc Hb4.out.size _) hg5 (by have := Hb4.out.size; simp; omega) (fun k hk => by have h1 := (hown4.lt k hk).1; have h2 := Hwo.out; have h3 := HN.out; omega)
                · have := hg5.size; simp at this; omega
              case measure => have := Hr0l.out; simp [intOf]; omega
            · have Hi := Lib.hid (show i = Cv.deg L by have := Hr0l.out; omega)
              have dlt : decide (i < r0.length) = false := decide_eq_false hlt
              have Hg := Lib.hid (own_gives (w := w) (l := Cv.row L l i) (own_mono hown (by have h1 := Hwo.out; have h2 := HN.out; omega)) (Cv.row_len L l i) hh.out.1)
              clear hown
              go_wp2
              go_ret
              rw [Cv.actW_of Hok.out, ← Hi.out]
              exact Hg.out
    · rw [decide_eq_false hW] at hcW
      have HcP := Lib.hid hcP; have HcW := Lib.hid hcW; have Hno := Lib.hid (show ¬ Cv.Ok L l from fun h => hW h.2.1)
      clear hcP hcW hP hW
      go_enter Tryz.func17, Tryz.ntmps17
      go_wp2_with fail
      refine HcP.out.mono ?_
      rintro e w1 ⟨rfl, hb1⟩
      have Hb1 := Lib.hid hb1; clear hb1
      go_wp2_with fail
      refine (HcW.out w1 Hb1.out).mono ?_
      rintro e w2 ⟨rfl, hb2⟩
      have Hb2 := Lib.hid (Hb1.out.trans (hb2.mono Hb1.out.size)); clear hb2
      go_wp2
      go_ret
      rw [Cv.actW_not Hno.out]
      exact own_gives (by exact own_mono (own_made (w := w2) rfl) Hb2.out.size) rfl (Hb2.out.alloc Hb2.out.size _)
  · rw [decide_eq_false hP] at hcP
    have HcP := Lib.hid hcP; have Hno := Lib.hid (show ¬ Cv.Ok L l from fun h => hP h.1)
    clear hcP hcW hP
    go_enter Tryz.func17, Tryz.ntmps17
    go_wp2_with fail
    refine HcP.out.mono ?_
    rintro e w1 ⟨rfl, hb1⟩
    have Hb1 := Lib.hid hb1; clear hb1
    go_wp2
    go_ret
    rw [Cv.actW_not Hno.out]
    exact own_gives (by exact own_mono (own_made (w := w1) rfl) Hb1.out.size) rfl (Hb1.out.alloc Hb1.out.size _)
end Go.Proofs.YtpebgompfgkljaaGreat
