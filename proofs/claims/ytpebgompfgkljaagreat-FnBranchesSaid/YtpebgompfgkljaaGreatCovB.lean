/-
  The walks of the program's doPermute, hasLettersUpTo, sheetBehind and ActWord.
-/
import Derived.Test.YtpebgompfgkljaaGreatBase
import Derived.Test.YtpebgompfgkljaaGreatSlice
import Derived.Test.YtpebgompfgkljaaGreatInts
import Derived.Test.YtpebgompfgkljaaGreatOwn
import Derived.Test.YtpebgompfgkljaaGreatWord
import Derived.Test.YtpebgompfgkljaaGreatIsWord
import Derived.Test.YtpebgompfgkljaaGreatGrid
import Derived.Test.YtpebgompfgkljaaGreatClass
import Derived.Test.YtpebgompfgkljaaGreatLab
import Derived.Test.YtpebgompfgkljaaGreatMap
import Derived.Test.YtpebgompfgkljaaGreatMapA
import Derived.Test.YtpebgompfgkljaaGreatMapI
import Derived.Test.YtpebgompfgkljaaGreatPermInv
import Derived.Test.YtpebgompfgkljaaGreatUses
import Derived.Test.YtpebgompfgkljaaGreatCov
import Derived.Test.YtpebgompfgkljaaGreatCovA
import Derived.Deep.QuietTactic
import Derived.BigQuiet
import Derived.StillTailTactics
namespace Go.Proofs.YtpebgompfgkljaaGreat
open Go.RowKit

theorem Cv.perms_len {L : List (List Int)} (h : ¬ (1 ≤ L.length ∧ L.length ≤ 8)) : ¬ Cv.Perms L := fun hP => h ⟨hP.2.1, hP.2.2.1⟩
theorem Cv.perms_deg {L : List (List Int)} (h : ¬ (1 ≤ Cv.deg L ∧ Cv.deg L ≤ 5)) : ¬ Cv.Perms L := fun hP => h ⟨hP.2.2.2.1, hP.2.2.2.2⟩
set_option maxRecDepth 10000 in
set_option maxHeartbeats 2000000 in
theorem impl_doPermute (a : Option Addr) (c : Nat) (L : List (List Int)) (w : World) (ha : GridAt w a L) (hl : ∀ p ∈ L, p.length ≤ 1048576) (hn : L.length ≤ 1048576) :
    Calls Tryz.prog 59 #[.slice a L.length c] w fun e w' => e = .returned (.bool (decide (Cv.Perms L))) ∧ Below w.heap.size w w' := by
  by_cases h1 : L.length = 0
  · rw [decide_eq_false (Cv.perms_len (by omega))]
    have d0 : ((L.length : Int) == 0) = true := beq_iff_eq.2 (by omega)
    clear hl h1
    go_enter Tryz.func59, Tryz.ntmps59
    go_wp2
    go_ret
    exact ⟨rfl, Below.refl _ _⟩
  by_cases h8 : 8 < L.length
  · rw [decide_eq_false (Cv.perms_len (by omega))]
    have d0 : ((L.length : Int) == 0) = false := beq_eq_false_iff_ne.2 (by omega)
    have d8 : (8 : Int) < (L.length : Int) := by omega
    clear hl h1
    go_enter Tryz.func59, Tryz.ntmps59
    go_wp2
    go_ret
    exact ⟨rfl, Below.refl _ _⟩
  have d0 : ((L.length : Int) == 0) = false := beq_eq_false_iff_ne.2 (by omega)
  have d8 : ¬ (8 : Int) < (L.length : Int) := by omega
  obtain ⟨r0, hr0, hr0l⟩ := Cv.head_get (L := L) (by omega)
  obtain ⟨b0, o0, a0, c0, rfl, hbw0, hcell0, _⟩ := ha.get hr0
  rw [Nat.add_zero] at hcell0
  have i2 : 0 < L.length := by omega
  clear hr0
  by_cases h3 : r0.length = 0
  · rw [decide_eq_false (Cv.perms_deg (by omega))]
    have e0 : ((r0.length : Int) == 0) = true := beq_iff_eq.2 (by omega)
    clear hl h1 hr0l h3 ha
    go_enter Tryz.func59, Tryz.ntmps59
    go_wp2
    go_ret
    exact ⟨rfl, Below.refl _ _⟩
  by_cases h5 : 5 < r0.length
  · rw [decide_eq_false (Cv.perms_deg (by omega))]
    have e0 : ((r0.length : Int) == 0) = false := beq_eq_false_iff_ne.2 (by omega)
    have e5 : (5 : Int) < (r0.length : Int) := by omega
    clear hl h1 hr0l h3 ha
    go_enter Tryz.func59, Tryz.ntmps59
    go_wp2
    go_ret
    exact ⟨rfl, Below.refl _ _⟩
  have e0 : ((r0.length : Int) == 0) = false := beq_eq_false_iff_ne.2 (by omega)
  have e5 : ¬ (5 : Int) < (r0.length : Int) := by omega
  have Ha := Lib.hid ha; have Hl := Lib.hid hl; have Hr0 := Lib.hid hr0l
  have hb0 := Lib.hid (Below.refl w.heap.size w)
  obtain ⟨V, hV⟩ : ∃ V, decide (Cv.Perms L) = V := ⟨_, rfl⟩
  rw [hV]
  have HV := Lib.hid hV
  have h3' : 1 ≤ r0.length := by omega
  clear ha hl hr0l hV h3 h1
  go_enter Tryz.func59, Tryz.ntmps59
  go_wp2
  go_loopw [2, 5, 26] (fun rv _ iv wr => rv = .bool false ∧ ∃ i : Nat, i ≤ L.length ∧ iv = .int .i64 i ∧ Hid (∀ j p, j < i → L[j]? = some p → p.length = Cv.deg L ∧ Mp.IsP p) ∧ Hid (Below w.heap.size w wr)) (fun _ _ iv _ => L.length - (intOf iv).toNat)
  case atStart => exact ⟨rfl, 0, by omega, rfl, Lib.hid (fun j p h => absurd h (by omega)), hb0⟩
  case round =>
    obtain ⟨rfl, i, hi, rfl, hall, hb⟩ := hrel
    by_cases hlt : i < L.length
    · obtain ⟨p, hp⟩ := get_some hlt
      obtain ⟨b, o, ai, ci, he, hbw, hcell, hrow⟩ := (Ha.out.below hb.out).get hp
      cases he
      have hpl := Hl.out p (get_mem hp)
      have hP := impl_isPermutation ai ci p wr hrow hpl
      have Hp := Lib.hid hp
      clear hp hrow
      by_cases hlen : p.length = r0.length
      · have dne : ((p.length : Int) != (r0.length : Int)) = false := by simp [hlen]
        by_cases hip : Mp.IsP p
        · rw [decide_eq_true hip] at hP
          have HP := Lib.hid hP
          have Hall := Lib.hid (show ∀ j q, j < i + 1 → L[j]? = some q → q.length = Cv.deg L ∧ Mp.IsP q from fun j q hj hq => by
            rcases Nat.lt_or_ge j i with h | h
            · exact hall.out j q h hq
            · obtain rfl : j = i := by omega
              rw [Hp.out] at hq
              cases hq
              exact ⟨hlen.trans Hr0.out, hip⟩)
          clear hP hlen hip
          go_wp2_with fail
          refine HP.out.mono ?_
          rintro e w1 ⟨rfl, hb1⟩
          have Hb1 := Lib.hid (hb.out.trans (hb1.mono hb.out.size)); clear hb1
          go_wp2
          go_roundw
          case rel => exact ⟨rfl, i + 1, by omega, by go_num, Hall, Hb1⟩
          case measure => simp [intOf]; omega
        · rw [decide_eq_false hip] at hP
          have HP := Lib.hid hP
          have Hd := Lib.hid (show V = false by rw [← HV.out]; exact decide_eq_false (Cv.perms_bad Hp.out fun h => hip h.2))
          clear hP hlen hip
          go_wp2_with fail
          refine HP.out.mono ?_
          rintro e w1 ⟨rfl, hb1⟩
          have Hb1 := Lib.hid (hb.out.trans (hb1.mono hb.out.size)); clear hb1
          go_wp2
          go_ret
          exact ⟨by rw [Hd.out]; rfl, Hb1.out⟩
      · have dne : ((p.length : Int) != (r0.length : Int)) = true := by simp; omega
        have Hd := Lib.hid (show V = false by rw [← HV.out]; exact decide_eq_false (Cv.perms_bad Hp.out fun h => hlen (h.1.trans Hr0.out.symm)))
        clear hP hlen
        go_wp2
        go_ret
        exact ⟨by rw [Hd.out]; rfl, hb.out⟩
    · obtain rfl : i = L.length := by omega
      have Hd := Lib.hid (show V = true by rw [← HV.out]; exact decide_eq_true ((Cv.perms_all hall.out).2 ⟨by omega, by have := Hr0.out; omega⟩))
      go_wp2
      go_ret
      exact ⟨by rw [Hd.out]; rfl, hb.out⟩

set_option maxRecDepth 10000 in
set_option maxHeartbeats 1000000 in
theorem impl_upTo1 (s x : Int) (B : Nat) (W : World) (h0 : -1000000 ≤ s) (h1 : s ≤ 1000000) (c0 : W.cell? ⟨B, 0, none⟩ = some (.int .i64 x)) :
    Calls Tryz.prog 120 #[.int .i64 s, .pointer (some ⟨B, 0, none⟩)] W fun e W' => e = .returned (.bool (decide (x < (s.natAbs : Int)))) ∧ Below W.heap.size W W' := by
  have Habs := Lib.hid (fun W => impl_edgeOf s W h0 h1)
  generalize hv : decide (x < (s.natAbs : Int)) = v
  have Hv := Lib.hid hv
  go_enter Tryz.func120, Tryz.ntmps120
  go_wp2
  go_quiet (exact Calls.quiet_of_same (Habs.out _))
  all_goals go_wp2
  all_goals (go_ret; exact ⟨by first | rfl | rw [← Hv.out], below_drewN (Below.refl _ _) _⟩)
def Cv.Near (l : List Int) (x : Int) (i : Nat) : Prop := ∀ j y, j < i → l[j]? = some y → ¬ x < (y.natAbs : Int)
theorem Cv.Near.zero (l : List Int) (x : Int) : Cv.Near l x 0 := fun j y h => absurd h (by omega)
/-- Whether a letter lies beyond x. -/
def Cv.farB (l : List Int) (x : Int) : Bool := decide (∃ s ∈ l, x < (s.natAbs : Int))
set_option maxRecDepth 10000 in
set_option maxHeartbeats 1000000 in
theorem lib_IndexFuncU (a : Option Addr) (cap B : Nat) (l : List Int) (x : Int) (w : World) (ha : RowAt w a (intCells l)) (hl : l.length ≤ 1000) (hL : ∀ s ∈ l, -1000000 ≤ s ∧ s ≤ 1000000) (hB : B < w.heap.size) (c0 : w.cell? ⟨B, 0, none⟩ = some (.int .i64 x)) :
    Calls Tryz.prog 141 #[.slice a l.length cap, .func (.func 120) #[] #[.pointer (some ⟨B, 0, none⟩)]] w fun e w' => (∃ z : Int, e = .returned (.int .i64 z) ∧ decide (0 ≤ z) = Cv.farB l x) ∧ Below w.heap.size w w' := by
  have Ha := Lib.hid ha; have HL := Lib.hid hL; have Hc0 := Lib.hid c0
  clear ha hL c0
  go_enter Tryz.func141, Tryz.ntmps141
  go_wp2
  go_loopw [5, 8] (fun _ iv wr => ∃ i : Nat, i ≤ l.length ∧ iv = .int .i64 i ∧ Hid (Cv.Near l x i) ∧ Hid (Below w.heap.size w wr)) (fun _ iv _ => l.length - (intOf iv).toNat)
  case atStart => exact ⟨0, by omega, rfl, Lib.hid (Cv.Near.zero l x), Lib.hid (Below.refl _ _)⟩
  case round =>
    obtain ⟨i, hi, rfl, hno, hb⟩ := hrel
    by_cases hlt : i < l.length
    · obtain ⟨y, hy⟩ := get_some hlt
      obtain ⟨b, o, rfl, hbw, hcell⟩ := intCells_get? (Ha.out.below hb.out) hy
      have hyb := HL.out y (get_mem hy)
      have hcl := impl_upTo1 y x B wr hyb.1 hyb.2 (by rw [hb.out.cell hB]; exact Hc0.out)
      have Hy := Lib.hid hy; clear hy hyb
      by_cases he : x < (y.natAbs : Int)
      · rw [decide_eq_true he] at hcl
        have Hres := Lib.hid (show decide ((0 : Int) ≤ (i : Int)) = Cv.farB l x by rw [decide_eq_true (show (0 : Int) ≤ (i : Int) by omega)]; exact (decide_eq_true ⟨y, get_mem Hy.out, he⟩).symm)
        have Hcl := Lib.hid hcl
        clear he hcl
        go_wp2_with fail
        refine Hcl.out.mono ?_
        rintro e w3 ⟨rfl, hb3⟩
        go_wp2
        go_ret
        exact ⟨⟨_, rfl, Hres.out⟩, hb.out.trans (hb3.mono hb.out.size)⟩
      · rw [decide_eq_false he] at hcl
        have Hno := Lib.hid (show Cv.Near l x (i + 1) from fun j z hj hz => by
          rcases Nat.lt_or_ge j i with h | h
          · exact hno.out j z h hz
          · obtain rfl : j = i := by omega
            rw [Hy.out] at hz; cases hz; exact he)
        have Hcl := Lib.hid hcl
        clear he hcl
        go_wp2_with fail
        refine Hcl.out.mono ?_
        rintro e w3 ⟨rfl, hb3⟩
        have Hb3 := Lib.hid (hb.out.trans (hb3.mono hb.out.size)); clear hb3
        go_wp2
        go_roundw
        case rel => exact ⟨i + 1, by omega, by go_num, Hno, Hb3⟩
        case measure => simp [intOf]; omega
    · obtain rfl : i = l.length := by omega
      have Hres := Lib.hid (show decide ((0 : Int) ≤ -1) = Cv.farB l x by
        rw [decide_eq_false (by omega)]
        refine (decide_eq_false ?_).symm
        rintro ⟨s, hs, h⟩
        obtain ⟨j, hj, rfl⟩ := List.mem_iff_getElem.1 hs
        exact hno.out j _ hj (List.getElem?_eq_getElem hj) h)
      go_wp2
      go_ret
      exact ⟨⟨_, rfl, Hres.out⟩, hb.out⟩
set_option maxRecDepth 10000 in
set_option maxHeartbeats 1000000 in
theorem lib_ContainsFuncU (a : Option Addr) (cap B : Nat) (l : List Int) (x : Int) (w : World) (ha : RowAt w a (intCells l)) (hl : l.length ≤ 1000) (hL : ∀ s ∈ l, -1000000 ≤ s ∧ s ≤ 1000000) (hB : B < w.heap.size) (c0 : w.cell? ⟨B, 0, none⟩ = some (.int .i64 x)) :
    Calls Tryz.prog 119 #[.slice a l.length cap, .func (.func 120) #[] #[.pointer (some ⟨B, 0, none⟩)]] w fun e w' => e = .returned (.bool (Cv.farB l x)) ∧ Below w.heap.size w w' := by
  have Hc := Lib.hid (lib_IndexFuncU a cap B l x w ha hl hL hB c0)
  clear ha c0 hL
  generalize Cv.farB l x = b at *
  go_enter Tryz.func119, Tryz.ntmps119
  go_wp2_with fail
  refine Hc.out.mono ?_
  rintro e w3 ⟨⟨z, rfl, hz⟩, hb3⟩
  have Hz := Lib.hid hz; have Hb3 := Lib.hid hb3
  clear hz hb3
  generalize hd : decide ((0 : Int) ≤ z) = d at *
  have Hd := Lib.hid hd; clear hd
  go_wp2
  go_ret
  exact ⟨by rw [← Hz.out, ← Hd.out]; rfl, Hb3.out⟩
def Cv.Upto (m : Nat) (l : List Int) : Prop := Word.IsW l ∧ ∀ x ∈ l, x.natAbs ≤ m
instance (m : Nat) (l : List Int) : Decidable (Cv.Upto m l) := by unfold Cv.Upto; exact inferInstance
set_option maxRecDepth 10000 in
set_option maxHeartbeats 1000000 in
theorem impl_hasLettersUpTo (m : Nat) (a : Option Addr) (c : Nat) (l : List Int) (w : World) (ha : RowAt w a (intCells l)) (hl : l.length ≤ 1048576) :
    Calls Tryz.prog 60 #[.int .i64 (m : Int), .slice a l.length c] w fun e w' => e = .returned (.bool (decide (Cv.Upto m l))) ∧ Below w.heap.size w w' := by
  have hbA : Below w.heap.size w (w.alloc (.cells #[.int .i64 (m : Int)] 3)) := (Below.refl _ _).alloc (Nat.le_refl _) _
  have hK : Blk (w.alloc (.cells #[.int .i64 (m : Int)] 3)) w.heap.size 3 #[.int .i64 (m : Int)] := Blk.new w _ _
  have hW := impl_IsWord a c l (w.alloc (.cells #[.int .i64 (m : Int)] 3)) (ha.below hbA) hl
  by_cases hw : Word.IsW l
  · rw [decide_eq_true hw] at hW
    have hF := fun W (hb : Below (w.alloc (.cells #[.int .i64 (m : Int)] 3)).heap.size (w.alloc (.cells #[.int .i64 (m : Int)] 3)) W) => lib_ContainsFuncU a c w.heap.size l (m : Int) W ((ha.below hbA).below hb) (by have := hw.2; omega) (fun s hs => by have := hw.1 s hs; rw [Word.letter_iff] at this; omega) (Nat.lt_of_lt_of_le hK.lt hb.size) (by rw [hb.cell hK.lt, hK.cell 0]; rfl)
    have hv : decide (Cv.Upto m l) = !(Cv.farB l (m : Int)) := by
      unfold Cv.farB
      rw [← decide_not]
      refine decide_eq_decide.2 ⟨fun h => ?_, fun h => ⟨hw, fun x hx => ?_⟩⟩
      · rintro ⟨s, hs, hlt⟩; have := h.2 s hs; omega
      · have h2 : ¬ (m : Int) < (x.natAbs : Int) := fun hlt => h ⟨x, hx, hlt⟩
        omega
    rw [hv]
    generalize Cv.farB l (m : Int) = b at *
    have HW := Lib.hid hW; have HF := Lib.hid hF; have HA := Lib.hid hbA
    clear hW hF hv hK ha hbA hw
    go_enter Tryz.func60, Tryz.ntmps60
    go_wp2_with fail
    refine HW.out.mono ?_
    rintro e w1 ⟨rfl, hb1⟩
    have Hb1 := Lib.hid hb1; clear hb1
    go_wp2_with fail
    refine (HF.out _ Hb1.out).mono ?_
    rintro e w2 ⟨rfl, hb2⟩
    have Hb2 := Lib.hid (HA.out.trans ((Hb1.out.trans (hb2.mono Hb1.out.size)).mono HA.out.size)); clear hb2
    go_wp2
    go_ret
    exact ⟨by simp, Hb2.out⟩
  · rw [decide_eq_false hw] at hW
    rw [show decide (Cv.Upto m l) = false from decide_eq_false fun h => hw h.1]
    have HW := Lib.hid hW; have HA := Lib.hid hbA
    clear hW hK ha hbA hw
    go_enter Tryz.func60, Tryz.ntmps60
    go_wp2_with fail
    refine HW.out.mono ?_
    rintro e w1 ⟨rfl, hb1⟩
    have Hb1 := Lib.hid (HA.out.trans (hb1.mono HA.out.size)); clear hb1
    go_wp2
    go_ret
    exact ⟨rfl, Hb1.out⟩

set_option maxRecDepth 10000 in
set_option maxHeartbeats 2000000 in
theorem impl_sheetBehind (a : Option Addr) (c : Nat) (L : List (List Int)) (x : Int) (s : Nat) (w : World) (ha : GridAt w a L) (hP : Cv.Perms L) (hx0 : x ≠ 0) (hx1 : x.natAbs ≤ L.length) (hs : s < Cv.deg L) :
    Calls Tryz.prog 62 #[.slice a L.length c, .int .i64 x, .int .i64 (s : Int)] w fun e w' => e = .returned (.int .i64 ((Cv.img L s x : Nat) : Int)) ∧ Below w.heap.size w w' := by
  have hlen8 := hP.2.2.1
  have h5 := hP.2.2.2.2
  obtain ⟨j, hj⟩ : ∃ j : Nat, x.natAbs = j + 1 := ⟨x.natAbs - 1, by omega⟩
  have hjl : j < L.length := by omega
  obtain ⟨p, hp⟩ := get_some hjl
  obtain ⟨b', o', ai, ci, rfl, hbw', hcell', hrow⟩ := ha.get hp
  have habs := fun W => impl_edgeOf x W (by omega) (by omega)
  rw [hj, Int.natCast_add, show ((1 : Nat) : Int) = 1 from rfl] at habs
  obtain ⟨hpl, hpP⟩ := hP.1 p (get_mem hp)
  have himg : Cv.img L s x = Mp.at_ (if x < 0 then Mp.mirror p else p) s := by
    unfold Cv.img Cv.perm
    rw [hj, Nat.add_sub_cancel, List.getD_eq_getElem?_getD, hp]; rfl
  rw [himg]
  have Habs := Lib.hid habs
  have j0 : (0 : Int) ≤ (j : Int) := by omega
  have j1 : (j : Int) < (L.length : Int) := by omega
  have jw : IntKind.i64.wrap ((j : Int) + 1 - 1) = (j : Int) := by rw [wrap_small (by omega) (by omega)]; omega
  have js : ((j : Int) + 1 - 1) = (j : Int) := by omega
  by_cases hneg : x < 0
  · rw [if_pos hneg]
    have hq : Mp.at_ (Mp.mirror p) s < p.length := by
      have := Mp.at_lt (Cv.mirror_isP hpP) (d := s) (by rw [Mp.mirror_len]; omega)
      rwa [Mp.mirror_len] at this
    have hI := fun W (h : RowAt W ai (intCells p)) => lib_IndexAt ai ci p.length (Mp.at_ (Mp.mirror p) s) (Mp.at_ p) s (s : Int) rfl W (by rw [Mp.at_row hpP]; exact h) hq (Cv.mirror_at hpP (by omega)) (fun i hi he => Mp.at_inj hpP hi hq (he.trans (Cv.mirror_at hpP (by omega)).symm)) (by omega)
    generalize Mp.at_ (Mp.mirror p) s = q at *
    have HI := Lib.hid hI; have Hrow := Lib.hid hrow
    clear hI hrow himg habs hp hj hpl hpP ha hP hq
    go_enter Tryz.func62, Tryz.ntmps62
    go_wp2_with fail
    refine (Habs.out _).mono ?_
    rintro e w1 ⟨rfl, hw1⟩
    rw [hw1]; clear hw1 w1
    go_wp2_with fail
    refine (HI.out _ Hrow.out).mono ?_
    rintro e w1 ⟨rfl, hw1⟩
    rw [hw1]; clear hw1 w1
    go_wp2
    go_ret
    exact ⟨rfl, Below.refl _ _⟩
  · rw [if_neg hneg]
    have s1 : s < p.length := by omega
    obtain ⟨b2, o2, rfl, hbw2, hcell2⟩ := intCells_get? hrow (Mp.at_get hpP s1)
    have s2 : (0 : Int) ≤ (s : Int) := by omega
    have s3 : (s : Int) < (p.length : Int) := by omega
    generalize Mp.at_ p s = q at *
    clear hrow himg habs hp hj hpl hpP ha hP
    go_enter Tryz.func62, Tryz.ntmps62
    go_wp2_with fail
    refine (Habs.out _).mono ?_
    rintro e w1 ⟨rfl, hw1⟩
    rw [hw1]; clear hw1 w1
    go_wp2
    go_ret
    exact ⟨rfl, Below.refl _ _⟩
theorem impl_unmovedSheets (n : Nat) (w : World) (h1 : n ≤ 1000) :
    Calls Tryz.prog 61 #[.int .i64 (n : Int)] w fun e w' => e = .returned (.slice (some ⟨w.heap.size, 0, none⟩) n n) ∧ Lab w' w.heap.size id n ∧ Below w.heap.size w w' := by
  have Hc := Lib.hid (impl_newClasses n w h1)
  go_enter Tryz.func61, Tryz.ntmps61
  go_wp2_with fail
  refine Hc.out.mono ?_
  rintro e w1 ⟨rfl, h2, h3⟩
  have H2 := Lib.hid h2; have H3 := Lib.hid h3
  clear h2 h3
  go_wp2
  go_ret
  exact ⟨rfl, H2.out, H3.out⟩
def Cv.half (L : List (List Int)) (x : Int) (c : Nat → Nat) (i : Nat) : Nat → Nat := fun k => if k < i then Cv.img L (c k) x else c k
theorem Cv.half_at (L : List (List Int)) (x : Int) (c : Nat → Nat) (i : Nat) : Cv.half L x c i i = c i := by simp [Cv.half]
theorem Cv.half_put (L : List (List Int)) (x : Int) (c : Nat → Nat) (i k : Nat) : (if k = i then Cv.img L (c i) x else Cv.half L x c i k) = Cv.half L x c (i + 1) k := by
  unfold Cv.half
  by_cases e : k = i
  · subst e; rw [if_pos rfl, if_pos (by omega)]
  · rw [if_neg e]
    by_cases e2 : k < i
    · rw [if_pos e2, if_pos (by omega)]
    · rw [if_neg e2, if_neg (by omega)]
theorem Cv.ok_upto {L : List (List Int)} {l : List Int} : Cv.Ok L l ↔ Cv.Perms L ∧ Cv.Upto L.length l := Iff.rfl
set_option maxRecDepth 10000 in
set_option maxHeartbeats 2000000 in
theorem impl_ActWord (a aw : Option Addr) (c cw : Nat) (L : List (List Int)) (l : List Int) (w : World) (ha : GridAt w a L) (hL : ∀ p ∈ L, p.length ≤ 1048576) (hn : L.length ≤ 1048576) (haw : RowAt w aw (intCells l)) (hl : l.length ≤ 1048576) :
    Calls Tryz.prog 10 #[.slice a L.length c, .slice aw l.length cw] w fun e w' => Gives w (Cv.actW L l) e w' := by
  have hcP := impl_doPermute a c L w ha hL hn
  have hcW := fun W (hb : Below w.heap.size w W) => impl_hasLettersUpTo L.length aw cw l W (haw.below hb) hl
  have Ha := Lib.hid ha; have Haw := Lib.hid haw
  clear ha haw hL
  by_cases hP : Cv.Perms L
  · rw [decide_eq_true hP] at hcP
    by_cases hU : Cv.Upto L.length l
    · rw [decide_eq_true hU] at hcW
      rw [Cv.actW_of (Cv.ok_upto.2 ⟨hP, hU⟩)]
      have hl24 := hU.1.2
      have hlet : ∀ x ∈ l, x ≠ 0 ∧ x.natAbs ≤ L.length := fun x hx => ⟨(hU.1.1 x hx).1, hU.2 x hx⟩
      have hlen8 := hP.2.2.1
      have hlen1 := hP.2.1
      have h5 := hP.2.2.2.2
      obtain ⟨r0, hr0, hr0l⟩ := Cv.head_get (L := L) (by omega)
      obtain ⟨b0, o0, a0, c0, rfl, hbw0, hcell0, _⟩ := Ha.out.get hr0
      rw [Nat.add_zero] at hcell0
      have Hc0 := Lib.hid hcell0
      have i2 : 0 < L.length := by omega
      obtain ⟨n, hn0⟩ : ∃ n, n = Cv.deg L := ⟨_, rfl⟩
      rw [← hn0] at hr0l h5 ⊢
      have Hn := Lib.hid hn0
      have HcP := Lib.hid hcP; have HcW := Lib.hid hcW; have HP := Lib.hid hP; have Hlet := Lib.hid hlet
      rw [hr0l] at Hc0
      clear hcP hcW hP hU hlet hr0 hcell0 hr0l hn0
      go_enter Tryz.func10, Tryz.ntmps10
      go_wp2_with fail
      refine HcP.out.mono ?_
      rintro e w1 ⟨rfl, hb1⟩
      have Hb1 := Lib.hid hb1; clear hb1
      go_wp2_with fail
      refine (HcW.out w1 Hb1.out).mono ?_
      rintro e w2 ⟨rfl, hb2⟩
      have Hb2 := Lib.hid (Hb1.out.trans (hb2.mono Hb1.out.size)); clear hb2
      have c1 : w2.cell? ⟨b0, o0, none⟩ = some (.slice a0 n c0) := by rw [Hb2.out.cell hbw0]; exact Hc0.out
      go_wp2_with fail
      refine (impl_unmovedSheets n w2 (by omega)).mono ?_
      rintro e w3 ⟨rfl, hlab, hb3⟩
      have hlt3 := hlab.lt
      have Hlab := Lib.hid hlab; have Hb3 := Lib.hid (Hb2.out.trans (hb3.mono Hb2.out.size))
      have hNw : w.heap.size ≤ w2.heap.size := Hb2.out.size
      generalize w2.heap.size = N at *
      clear hlab hb3 c1
      go_wp2
      go_loopw [7, 8, 9, 27] (fun _ _ _ iv wr => ∃ i : Nat, i ≤ l.length ∧ iv = .int .i64 i ∧ Hid (Lab wr N (Cv.act L (l.take i)) n) ∧ Hid (Below w.heap.size w wr)) (fun _ _ _ iv _ => l.length - (intOf iv).toNat)
      case atStart => exact ⟨0, by omega, rfl, Lib.hid (Hlab.out.congr fun k _ => rfl), Hb3⟩
      case round =>
        obtain ⟨i, hi, rfl, hlb, hb⟩ := hrel
        by_cases hlt : i < l.length
        · obtain ⟨b, o, rfl, hbw, hcell⟩ := intCells_at (Haw.out.below hb.out) hlt
          obtain ⟨hx0, hx1⟩ := Hlet.out _ (List.getElem_mem hlt)
          have hstep := fun s => Cv.act_take (L := L) hlt s
          have hcl : ∀ k, k < n → Cv.act L (l.take i) k < Cv.deg L := fun k hk => Cv.act_lt HP.out (fun x hx => Hlet.out x (List.mem_of_mem_take hx)) (by rw [← Hn.out]; exact hk)
          have hsb := fun s W (h : Below w.heap.size w W) (hs : s < Cv.deg L) => impl_sheetBehind (some ⟨b0, o0, none⟩) c L l[i] s W (Ha.out.below h) HP.out hx0 hx1 hs
          generalize Cv.act L (l.take i) = u at *
          generalize l[i] = x at *
          have Hstep := Lib.hid hstep; have Hcl := Lib.hid hcl; have Hsb := Lib.hid hsb
          clear hstep hcl hsb hx0 hx1
          go_wp2
          go_loopw [8, 9, 33] (fun _ _ jv wr => ∃ j : Nat, j ≤ n ∧ jv = .int .i64 j ∧ Hid (Lab wr N (Cv.half L x u j) n) ∧ Hid (Below w.heap.size w wr)) (fun _ _ jv _ => n - (intOf jv).toNat)
          case atStart => exact ⟨0, by omega, rfl, Lib.hid (hlb.out.congr fun k _ => by simp [Cv.half]), hb⟩
          case round =>
            obtain ⟨j, hj, rfl, hlb, hb⟩ := hrel
            by_cases hlt2 : j < n
            · have hcj := hlb.out.cell hlt2
              rw [Cv.half_at] at hcj
              have hc := Hsb.out (u j) wr hb.out (Hcl.out j hlt2)
              have Hput := Lib.hid (fun W (h : Lab W N (Cv.half L x u j) n) => (h.put (i := j) (b := Cv.img L (u j) x) hlt2).congr fun k _ => Cv.half_put L x u j k)
              generalize Cv.img L (u j) x = v at *
              generalize u j = uj at *
              have Hc := Lib.hid hc
              have hltN := hlb.out.lt
              have j0 : (0 : Int) ≤ (j : Int) := by omega
              have j1 : (j : Int) < (n : Int) := by omega
              clear hc
              go_wp2_with fail
              refine Hc.out.mono ?_
              rintro e w4 ⟨rfl, hb4⟩
              have hlb4 := hlb.out.below hb4 hltN
              have hfz := hlb4.frozen j
              have hc4 := hlb4.cell hlt2
              have Hlb4 := Lib.hid hlb4
              have Hb4 := Lib.hid (hb.out.trans (hb4.mono hb.out.size))
              generalize ((Cv.half L x u j j : Nat) : Int) = z4 at *
              clear hlb4 hb4 hcj
              go_wp2
              go_roundw
              case rel => exact ⟨j + 1, by omega, by go_num, Lib.hid (Hput.out _ Hlb4.out), Lib.hid (Hb4.out.setCell hNw _)⟩
              case measure => simp [intOf]; omega
            · obtain rfl : j = n := by omega
              go_wp2
              go_roundw
              case rel => exact ⟨i + 1, by omega, by go_num, Lib.hid (hlb.out.congr fun k hk => by rw [Hstep.out k]; unfold Cv.half; rw [if_pos hk]), hb⟩
              case measure => simp [intOf]; omega
        · obtain rfl : i = l.length := by omega
          have hg := lab_givesP hlb.out hNw (by unfold maxLen; omega) hb.out
          rw [List.take_of_length_le (Nat.le_refl _)] at hg
          have Hg := Lib.hid hg
          clear hg
          go_wp2
          go_ret
          exact Hg.out
    · rw [decide_eq_false hU] at hcW
      rw [Cv.actW_not fun h => hU (Cv.ok_upto.1 h).2]
      have HcP := Lib.hid hcP; have HcW := Lib.hid hcW
      clear hcP hcW hP hU
      go_enter Tryz.func10, Tryz.ntmps10
      go_wp2_with fail
      refine HcP.out.mono ?_
      rintro e w1 ⟨rfl, hb1⟩
      have Hb1 := Lib.hid hb1; clear hb1
      go_wp2_with fail
      refine (HcW.out w1 Hb1.out).mono ?_
      rintro e w2 ⟨rfl, hb2⟩
      have Hb2 := Lib.hid (Hb1.out.trans (hb2.mono Hb1.out.size)); clear hb2
      go_wp2
      go_ret
      exact Gives.none Hb2.out
  · rw [decide_eq_false hP] at hcP
    rw [Cv.actW_not fun h => hP (Cv.ok_upto.1 h).1]
    have HcP := Lib.hid hcP
    clear hcP hcW hP
    go_enter Tryz.func10, Tryz.ntmps10
    go_wp2_with fail
    refine HcP.out.mono ?_
    rintro e w1 ⟨rfl, hb1⟩
    have Hb1 := Lib.hid hb1; clear hb1
    go_wp2
    go_ret
    exact Gives.none Hb1.out
end Go.Proofs.YtpebgompfgkljaaGreat
