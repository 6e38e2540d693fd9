/-
  The walks of the model's l10Letters, IsPassport, BranchSum and CloseUp.
-/
import Derived.Test.YtpebgompfgkljaaBase
import Derived.Test.YtpebgompfgkljaaSlice
import Derived.Test.YtpebgompfgkljaaIntRow
import Derived.Test.YtpebgompfgkljaaInts
import Derived.Test.YtpebgompfgkljaaOwn
import Derived.Test.YtpebgompfgkljaaAppend
import Derived.Test.YtpebgompfgkljaaWord
import Derived.Test.YtpebgompfgkljaaIsWord
import Derived.Test.YtpebgompfgkljaaGrid
import Derived.Test.YtpebgompfgkljaaGridWalk
import Derived.Test.YtpebgompfgkljaaGridRows
import Derived.Test.YtpebgompfgkljaaClass
import Derived.Test.YtpebgompfgkljaaLab
import Derived.Test.YtpebgompfgkljaaMap
import Derived.Test.YtpebgompfgkljaaMapA
import Derived.Test.YtpebgompfgkljaaMapB
import Derived.Test.YtpebgompfgkljaaMoveA
import Derived.Test.YtpebgompfgkljaaPermInv
import Derived.Test.YtpebgompfgkljaaCov
import Derived.Test.YtpebgompfgkljaaCovA
import Derived.Test.YtpebgompfgkljaaCovC
import Derived.Test.YtpebgompfgkljaaBrC
import Derived.Deep.QuietTactic
import Derived.Deep.RegionHeld3
import Derived.BigQuiet
import Derived.StillTailTactics
namespace Go.Proofs.Ytpebgompfgkljaa
open Go.RowKit

set_option maxRecDepth 10000 in
set_option maxHeartbeats 1000000 in
theorem spec_l10Letters (n : Nat) (w : World) (hn : n ≤ 1000) :
    Calls Try.prog 118 #[.int .i64 (n : Int)] w fun e w' => Gives w (Br.lets n) e w' := by
  obtain ⟨i0, hi0, hz0, hz1, hz2⟩ := info_int_parts
  have Hi0 := Lib.hid hi0; have Hz0 := Lib.hid hz0; have Hz1 := Lib.hid hz1; have Hz2 := Lib.hid hz2
  obtain ⟨N, hN⟩ : ∃ N, N = w.heap.size := ⟨_, rfl⟩
  have HN := Lib.hid hN
  have Hm := Lib.hid (own_made (w := w) hN.symm)
  have HbA := Lib.hid ((Below.refl w.heap.size w).alloc (Nat.le_refl _) (.cells #[] 3))
  clear hi0 hz0 hz1 hz2 hN
  go_enter Try.func118, Try.ntmps118
  go_wp2
  go_loopw [3, 4] (fun ov kv wr => ∃ i : Nat, i ≤ n ∧ kv = .int .i64 ((i : Int) + 1) ∧ wr.ownsRow N 3 1 ov i (intCells (Br.lets i)) ∧ Hid (Below w.heap.size w wr ∧ N ≤ wr.heap.size)) (fun _ kv _ => n + 1 - (intOf kv).toNat)
  case atStart => exact ⟨0, by omega, rfl, Hm.out, Lib.hid ⟨HbA.out, by rw [HN.out]; simp⟩⟩
  case round =>
    obtain ⟨i, hi, rfl, hown, hh⟩ := hrel
    by_cases hlt : i < n
    · have dle : (i : Int) + 1 ≤ (n : Int) := by omega
      have Hsn := Lib.hid (Br.lets_snoc i)
      have e1 : IntKind.i64.wrap ((i : Int) + 1 + 1) = (i : Int) + 1 + 1 := wrap_small (by omega) (by omega)
      have hq1 : i + 1 ≤ maxLen := by unfold maxLen; omega
      have hq2 : (i + 1) * 8 ≤ 140737488355328 := by omega
      obtain ⟨av, cv, rfl⟩ := own_len hown
      have hN4 := hh.out.2
      go_wp2_with (at_builtin; refine append_one rfl (.tmp 11) (.tmp 13) 42 rfl N 3 i0 _ 8 Try.underlying42 Hi0.out Hz0.out Hz1.out Hz2.out (by rfl) _ _ _ rfl hown (by rfl) _ rfl hq1 hq2 hN4 ?_; intro v1 w5 hown5 hg5 _)
      go_roundw
      case rel =>
        refine ⟨i + 1, by omega, by go_num, ?_, Lib.hid ⟨?_, ?_⟩⟩
        · rw [Hsn.out, ← intCells_snoc]; exact hown5
        · exact Below.grown (hh.out.1.alloc hh.out.1.size _) hg5 (by have := hh.out.1.size; simp; omega) (fun k hk => by have h1 := (hown.lt k hk).1; have h3 := HN.out; omega)
        · have := hg5.size; simp at this; omega
      case measure => simp [intOf]; omega
    · obtain rfl : i = n := by omega
      have dle : ¬ (i : Int) + 1 ≤ (i : Int) := by omega
      have Hg := Lib.hid (own_gives (w := w) (l := Br.lets i) (own_mono hown (by have h2 := HN.out; omega)) (Br.lets_len i) hh.out.1)
      go_wp2
      go_ret
      exact Hg.out
theorem Br.whole_prod {L : List (List Int)} (h : Cv.Perms L) : Cv.Whole (Br.prod L (Cv.deg L)) ↔ ∀ s, s < Cv.deg L → Br.mul L s = s := by
  unfold Cv.Whole
  rw [Br.prod_len]
  have hg : ∀ k, k < Cv.deg L → (Br.prod L (Cv.deg L)).getD k 0 = ((Br.mul L k : Nat) : Int) := fun k hk => by
    unfold Br.prod; exact Cls.row_getD hk
  constructor
  · rintro ⟨_, hw⟩ s hs
    have := hw s hs
    rw [hg s hs] at this; omega
  · intro hw
    exact ⟨by have := h.2.2.2.1; omega, fun k hk => by rw [hg k hk, hw k hk]⟩
set_option maxRecDepth 10000 in
set_option maxHeartbeats 2000000 in
theorem spec_IsPassport (a : Option Addr) (c : Nat) (L : List (List Int)) (w : World) (ha : GridAt w a L) (hL : ∀ p ∈ L, p.length ≤ 1048576) (hn : L.length ≤ 1048576) :
    Calls Try.prog 46 #[.slice a L.length c] w fun e w' => e = .returned (.bool (decide (Br.Pass L))) ∧ Below w.heap.size w w' := by
  have hI := fun W => spec_l1In (L.length : Int) 1 5 W
  by_cases h5 : (1 : Int) ≤ (L.length : Int) ∧ (L.length : Int) ≤ 5
  · rw [decide_eq_true h5] at hI
    have hcP := spec_l9Perms a c L w ha hL hn
    by_cases hP : Cv.Perms L
    · rw [decide_eq_true hP] at hcP
      have hLt := fun W => spec_l10Letters L.length W (by omega)
      have hA := fun aw cw W (hb : Below w.heap.size w W) (h : RowAt W aw (intCells (Br.lets L.length))) => spec_ActWord a aw c cw L (Br.lets L.length) W (ha.below hb) hL hn h (by rw [Br.lets_len]; omega)
      rw [Br.actW_lets hP, Br.lets_len] at hA
      have hpl := Br.prod_len L (Cv.deg L)
      have hd5 := hP.2.2.2.2
      have hW := fun aw cw W (h : RowAt W aw (intCells (Br.prod L (Cv.deg L)))) => spec_l9Whole aw cw (Br.prod L (Cv.deg L)) W h (by omega)
      rw [decide_eq_decide.2 (Br.whole_prod hP)] at hW
      have hres : decide (Br.Pass L) = decide (∀ s, s < Cv.deg L → Br.mul L s = s) := decide_eq_decide.2 ⟨fun h => h.2.2, fun h => ⟨by omega, hP, h⟩⟩
      rw [hres]
      have hll := Br.lets_len L.length
      generalize decide (∀ s, s < Cv.deg L → Br.mul L s = s) = V at *
      generalize Br.prod L (Cv.deg L) = R at *
      generalize Br.lets L.length = T at *
      have HI := Lib.hid hI; have HcP := Lib.hid hcP; have HLt := Lib.hid hLt; have HA := Lib.hid hA; have HW := Lib.hid hW; have Hll := Lib.hid hll
      clear hI hcP hLt hA hW hP ha hL hres hpl h5 hll
      go_enter Try.func46, Try.ntmps46
      go_wp2_with fail
      refine (HI.out _).mono ?_
      rintro e w0 ⟨rfl, hw0⟩
      rw [hw0]; clear hw0 w0
      go_wp2_with fail
      refine HcP.out.mono ?_
      rintro e w1 ⟨rfl, hb1⟩
      have Hb1 := Lib.hid hb1; clear hb1
      go_wp2_with fail
      refine (HLt.out w1).mono ?_
      rintro e w2 ⟨ta, tc, rfl, _, _, hf2, hb2⟩
      have Hf2 := Lib.hid hf2.row; have Hb2 := Lib.hid (Hb1.out.trans (hb2.mono Hb1.out.size))
      rw [Hll.out]
      clear hf2 hb2
      go_wp2_with fail
      refine (HA.out _ _ w2 Hb2.out Hf2.out).mono ?_
      rintro e w3 ⟨ra, rc, rfl, _, _, hf3, hb3⟩
      have Hf3 := Lib.hid hf3.row; have Hb3 := Lib.hid (Hb2.out.trans (hb3.mono Hb2.out.size))
      clear hf3 hb3
      go_wp2_with fail
      refine (HW.out _ _ w3 Hf3.out).mono ?_
      rintro e w0 ⟨rfl, hw0⟩
      rw [hw0]; clear hw0 w0
      go_wp2
      go_ret
      exact ⟨rfl, Hb3.out⟩
    · rw [decide_eq_false hP] at hcP
      rw [decide_eq_false fun h : Br.Pass L => hP h.2.1]
      have HI := Lib.hid hI; have HcP := Lib.hid hcP
      clear hI hcP hP ha hL h5
      go_enter Try.func46, Try.ntmps46
      go_wp2_with fail
      refine (HI.out _).mono ?_
      rintro e w0 ⟨rfl, hw0⟩
      rw [hw0]; clear hw0 w0
      go_wp2_with fail
      refine HcP.out.mono ?_
      rintro e w1 ⟨rfl, hb1⟩
      have Hb1 := Lib.hid hb1; clear hb1
      go_wp2
      go_ret
      exact ⟨rfl, Hb1.out⟩
  · rw [decide_eq_false h5] at hI
    rw [decide_eq_false fun h : Br.Pass L => h5 ⟨by have := h.2.1.2.1; omega, by have := h.1; omega⟩]
    have HI := Lib.hid hI
    clear hI h5 ha hL
    go_enter Try.func46, Try.ntmps46
    go_wp2_with fail
    refine (HI.out _).mono ?_
    rintro e w0 ⟨rfl, hw0⟩
    rw [hw0]; clear hw0 w0
    go_wp2
    go_ret
    exact ⟨rfl, Below.refl _ _⟩
theorem Br.sum_of {L : List (List Int)} (h : Br.Pass L) : Br.bsum L = Br.total L := if_pos h
set_option maxRecDepth 10000 in
set_option maxHeartbeats 2000000 in
theorem spec_BranchSum (a : Option Addr) (c : Nat) (L : List (List Int)) (w : World) (ha : GridAt w a L) (hL : ∀ p ∈ L, p.length ≤ 1048576) (hn : L.length ≤ 1048576) :
    Calls Try.prog 50 #[.slice a L.length c] w fun e w' => e = .returned (.int .i64 (Br.bsum L)) ∧ Below w.heap.size w w' := by
  have hcP := spec_IsPassport a c L w ha hL hn
  by_cases hP : Br.Pass L
  · rw [decide_eq_true hP] at hcP
    rw [Br.sum_of hP]
    have h5 := hP.1
    have hd5 := hP.2.1.2.2.2.2
    have hmem := hP.2.1.1
    have HcP := Lib.hid hcP; have HP := Lib.hid hP; have Hmem := Lib.hid hmem; have Ha := Lib.hid ha
    clear hcP hP ha hL hmem
    go_enter Try.func50, Try.ntmps50
    go_wp2_with fail
    refine HcP.out.mono ?_
    rintro e w1 ⟨rfl, hb1⟩
    have Hb1 := Lib.hid hb1; clear hb1
    go_wp2
    go_loopw [3, 4] (fun sv iv wr => ∃ i : Nat, i ≤ L.length ∧ iv = .int .i64 i ∧ sv = .int .i64 (Br.total (L.take i)) ∧ Hid (Below w.heap.size w wr)) (fun _ iv _ => L.length - (intOf iv).toNat)
    case atStart => exact ⟨0, by omega, rfl, rfl, Hb1⟩
    case round =>
      obtain ⟨i, hi, rfl, rfl, hb⟩ := hrel
      by_cases hlt : i < L.length
      · have dlt : decide (i < L.length) = true := decide_eq_true hlt
        obtain ⟨p, hp⟩ := get_some hlt
        obtain ⟨b, o, ai, ci, rfl, hbw, hcell0, hrow⟩ := Ha.out.get hp
        obtain ⟨hpl, hpP⟩ := Hmem.out p (get_mem hp)
        have hC := fun W (hB : Below w.heap.size w W) => spec_l6CyclesP ai ci p W (hrow.below hB) hpP (by omega)
        have hcy := Br.cycles_le (p := p)
        have hdf : Br.defect p = (p.length : Int) - ((Mp.cycles p).length : Int) := rfl
        have hst := Br.total_take hp
        have ht := Br.total_few HP.out i
        have hK := fun W (hB : Below w.heap.size w W) => show W.cell? ⟨b, o + i, none⟩ = some (.slice ai p.length ci) from by rw [hB.cell hbw]; exact hcell0
        generalize Br.total (L.take i) = T at *
        generalize Mp.cycles p = C at *
        have e1 : IntKind.i64.wrap (T + (p.length : Int)) = T + (p.length : Int) := wrap_small (by omega) (by omega)
        have e2 : IntKind.i64.wrap (T + (p.length : Int) - (C.length : Int)) = T + (p.length : Int) - (C.length : Int) := wrap_small (by omega) (by omega)
        have Hst := Lib.hid (show Br.total (L.take (i + 1)) = T + (p.length : Int) - (C.length : Int) by rw [hst, hdf]; omega)
        have i0 : (0 : Int) ≤ (i : Int) := by omega
        have i1 : (i : Int) < (L.length : Int) := by omega
        have hBd := Below.drew hb.out
        have HSd := Lib.hid (hK _ hBd); have HK := Lib.hid hK; have HC := Lib.hid hC
        clear hst hdf hp hcy hC hK hcell0 hrow hpP hpl ht
        go_wp2
        go_region_held3 (fun w' => w'.cell? ⟨b, o + i, none⟩ = some (.slice ai p.length ci)) (first | (with_reducible assumption) | (with_reducible exact HSd.out)) (first
          | (go_at_call 123; refine (HC.out _ hBd).mono ?_; rintro e w4 ⟨ra, rc, rfl, _, _, _, hb4⟩; have hB4 := hBd.trans (hb4.mono hBd.size); have hS4 := HK.out _ hB4))
        have HB4 := Lib.hid hB4
        clear hB4 hS4 HSd HK HC hBd
        go_wp2
        go_roundw
        case rel => exact ⟨i + 1, by omega, by go_num, by rw [Hst.out], HB4⟩
        case measure => simp [intOf]; omega
      · obtain rfl : i = L.length := by omega
        have dlt : decide (L.length < L.length) = false := decide_eq_false (by omega)
        rw [List.take_of_length_le (Nat.le_refl _)]
        go_wp2
        go_ret
        exact ⟨rfl, hb.out⟩
  · rw [decide_eq_false hP] at hcP
    rw [show Br.bsum L = -1 from if_neg hP]
    have HcP := Lib.hid hcP
    clear hcP hP ha hL
    go_enter Try.func50, Try.ntmps50
    go_wp2_with fail
    refine HcP.out.mono ?_
    rintro e w1 ⟨rfl, hb1⟩
    have Hb1 := Lib.hid hb1; clear hb1
    go_wp2
    go_ret
    exact ⟨rfl, Hb1.out⟩
set_option maxRecDepth 10000 in
set_option maxHeartbeats 2000000 in
theorem spec_CloseUp (a : Option Addr) (c : Nat) (L : List (List Int)) (w : World) (ha : GridAt w a L) (hL : ∀ p ∈ L, p.length ≤ 1048576) (hn : L.length ≤ 1048576) :
    Calls Try.prog 59 #[.slice a L.length c] w fun e w' => GivesRows2 w (Br.closed L) (decide (Br.CloseOk L)) e w' := by
  have hI := fun W => spec_l1In (L.length : Int) 1 4 W
  by_cases h4 : (1 : Int) ≤ (L.length : Int) ∧ (L.length : Int) ≤ 4
  · rw [decide_eq_true h4] at hI
    have hcP := spec_l9Perms a c L w ha hL hn
    by_cases hP : Cv.Perms L
    · rw [decide_eq_true hP] at hcP
      have hok : Br.CloseOk L := ⟨by omega, hP⟩
      rw [show Br.closed L = L ++ [Br.last L] from if_pos hok, decide_eq_true hok]
      obtain ⟨i0, hi0, hz0, hz1, hz2⟩ := info_ints_parts
      have Hi0 := Lib.hid hi0; have Hz0 := Lib.hid hz0; have Hz1 := Lib.hid hz1; have Hz2 := Lib.hid hz2
      have hLt := fun W => spec_l10Letters L.length W (by omega)
      have hA := fun aw cw W (hb : Below w.heap.size w W) (h : RowAt W aw (intCells (Br.lets L.length))) => spec_ActWord a aw c cw L (Br.lets L.length) W (ha.below hb) hL hn h (by rw [Br.lets_len]; omega)
      rw [Br.actW_lets hP, Br.lets_len] at hA
      have hpl := Br.prod_len L (Cv.deg L)
      have hd5 := hP.2.2.2.2
      have hV := fun b cc W (h : RowAt W b (intCells (Br.prod L (Cv.deg L)))) => spec_l6InverseP b cc (Br.prod L (Cv.deg L)) W h (by omega) (Br.prod_isP (Br.alike hP))
      rw [show Mp.mirror (Br.prod L (Cv.deg L)) = Br.last L from rfl] at hV
      have hC := fun W (h : Below w.heap.size w W) => spec_l5Copy a c L W (ha.below h) (Br.perms_tot hP)
      have hll := Br.lets_len L.length
      have hXl := Br.last_len L
      have hls : (L ++ [Br.last L]).length = L.length + 1 := by simp
      generalize Br.last L = X at *
      generalize Br.prod L (Cv.deg L) = R at *
      generalize Br.lets L.length = T at *
      generalize Cv.deg L = n at *
      have HI := Lib.hid hI; have HcP := Lib.hid hcP; have HLt := Lib.hid hLt; have HA := Lib.hid hA; have HV := Lib.hid hV; have HC := Lib.hid hC; have Hll := Lib.hid hll; have HXl := Lib.hid hXl; have Hls := Lib.hid hls; have Hpl := Lib.hid hpl
      clear hI hcP hLt hA hV hC hP ha hL hok hpl h4 hll hXl hls hi0 hz0 hz1 hz2
      have hm1 : L.length + 1 ≤ maxLen := by unfold maxLen; omega
      have hm2 : (L.length + 1) * 24 ≤ 140737488355328 := by omega
      go_enter Try.func59, Try.ntmps59
      go_wp2_with fail
      refine (HI.out _).mono ?_
      rintro e w0 ⟨rfl, hw0⟩
      rw [hw0]; clear hw0 w0
      go_wp2_with fail
      refine HcP.out.mono ?_
      rintro e w1 ⟨rfl, hb1⟩
      have Hb1 := Lib.hid hb1; clear hb1
      go_wp2_with fail
      refine (HLt.out w1).mono ?_
      rintro e w2 ⟨ta, tc, rfl, _, _, hf2, hb2⟩
      have Hf2 := Lib.hid hf2.row; have Hb2 := Lib.hid (Hb1.out.trans (hb2.mono Hb1.out.size))
      rw [Hll.out]
      clear hf2 hb2
      go_wp2_with fail
      refine (HA.out _ _ w2 Hb2.out Hf2.out).mono ?_
      rintro e w3 ⟨ra, rc, rfl, _, _, hf3, hb3⟩
      have Hf3 := Lib.hid hf3.row; have Hb3 := Lib.hid (Hb2.out.trans (hb3.mono Hb2.out.size))
      clear hf3 hb3
      go_wp2_with fail
      refine (HV.out _ _ w3 Hf3.out).mono ?_
      rintro e w4 ⟨xa, xc, rfl, hxc, _, hf4, hb4⟩
      have Hf4 := Lib.hid (show RowIn w4 w3.heap.size w4.heap.size 3 xa (intCells X) from RowIn.of_fresh hf4); have Hb4 := Lib.hid (Hb3.out.trans (hb4.mono Hb3.out.size)); have Hxc := Lib.hid hxc
      rw [HXl.out]
      clear hf4 hb4 hxc
      go_wp2_with fail
      refine (HC.out w4 Hb4.out).mono ?_
      rintro e w5 ⟨v5, rfl, hh5, hb5⟩
      have Hf5 := Lib.hid (Hf4.out.below hb5); have Hb5 := Lib.hid (Hb4.out.trans (hb5.mono Hb4.out.size)); have Hz5 := Lib.hid hb5.size
      obtain ⟨hs, q1, q2, q3, q4⟩ := hh5
      have Hown := Lib.hid q2; have Hq1 := Lib.hid q1; have Hq3 := Lib.hid q3; have Hq4 := Lib.hid q4
      have hN5 : w4.heap.size ≤ w5.heap.size := hb5.size
      clear hb5 q1 q2 q3 q4
      go_wp2_with (at_builtin; refine append_one rfl (.tmp 22) (.tmp 24) 24 rfl w4.heap.size 42 i0 _ 24 Try.underlying24 Hi0.out Hz0.out Hz1.out Hz2.out (by rfl) _ _ _ rfl Hown.out (by rfl) _ rfl hm1 hm2 hN5 ?_; intro v1 w6 hown6 hg6 _; have Hg6 := Lib.hid hg6; have Hown6 := Lib.hid hown6; clear hg6 hown6)
      have hal : Below w5.heap.size w5 (w5.alloc (.cells #[.slice xa n xc] 42)) := (Below.refl _ _).alloc (Nat.le_refl _) _
      have hty := own_type (Hown.out.alloc (.cells #[.slice xa n xc] 42))
      have hz6 : w5.heap.size ≤ w6.heap.size := Nat.le_trans hal.size Hg6.out.size
      have hnew : RowIn w6 w3.heap.size w4.heap.size 3 xa (intCells X) := (Hf5.out.below hal).grownOf Hg6.out (by decide) hty
      have hold : ∀ h ∈ hs, RowIn w6 w4.heap.size w5.heap.size 3 h.a (intCells h.l) := fun h hh => ((Hq3.out h hh).below hal).grownOf Hg6.out (by decide) hty
      have hap : Apts (hs ++ [⟨xa, xc, X⟩]) := Hq4.out.snoc (fun y hy => (apart_new (w := w6) (w' := w6) (y := ⟨xa, xc, X⟩) hnew (hold y hy)).symm) Hxc.out
      have hz1 := Hb1.out.size; have hz3 := Hb3.out.size; have hz4 := Hb4.out.size
      have Hheld := Lib.hid (show Held w6 w.heap.size v1 (L ++ [X]) from ⟨hs ++ [⟨xa, xc, X⟩], by rw [List.map_append, Hq1.out]; rfl, by rw [Hls.out, ← hdCells_snoc]; have h := own_mono Hown6.out hz4; rw [show Hd.val ⟨xa, xc, X⟩ = .slice xa n xc by rw [← HXl.out]; rfl]; exact h, fun h hh => by
        rcases List.mem_append.1 hh with hh | hh
        · exact (hold h hh).mono hz4 hz6
        · rw [List.mem_singleton.1 hh]; exact hnew.mono hz3 (Nat.le_trans hN5 hz6), hap⟩)
      have Hb6 := Lib.hid (Below.grown (Hb5.out.alloc Hb5.out.size (.cells #[.slice xa n xc] 42)) Hg6.out (by have := Hb5.out.size; simp; omega) (fun k hk => by have := (Hown.out.lt k hk).1; omega))
      obtain ⟨ga, gc, rfl, hgc, hgm, hg⟩ := Hheld.out.done
      have Hg := Lib.hid hg; have Hgc := Lib.hid hgc
      clear hal hty hnew hold hap hg hgc
      rw [Hls.out]
      go_wp2
      go_ret2
      exact ⟨ga, gc, by rw [Hls.out]; rfl, Hgc.out, hgm, Hg.out, Hb6.out⟩
    · have hno : ¬ Br.CloseOk L := fun h => hP h.2
      rw [decide_eq_false hP] at hcP
      rw [show Br.closed L = [] from if_neg hno, decide_eq_false hno]
      have HI := Lib.hid hI; have HcP := Lib.hid hcP
      clear hI hcP hP ha hL h4 hno
      go_enter Try.func59, Try.ntmps59
      go_wp2_with fail
      refine (HI.out _).mono ?_
      rintro e w0 ⟨rfl, hw0⟩
      rw [hw0]; clear hw0 w0
      go_wp2_with fail
      refine HcP.out.mono ?_
      rintro e w1 ⟨rfl, hb1⟩
      have Hb1 := Lib.hid hb1; clear hb1
      go_wp2
      go_ret2
      exact GivesRows2.none (Hb1.out.alloc Hb1.out.size _) (by unfold maxLen; omega)
  · have hno : ¬ Br.CloseOk L := fun h => h4 ⟨by have := h.2.2.1; omega, by have := h.1; omega⟩
    rw [decide_eq_false h4] at hI
    rw [show Br.closed L = [] from if_neg hno, decide_eq_false hno]
    have HI := Lib.hid hI
    clear hI h4 hno ha hL
    go_enter Try.func59, Try.ntmps59
    go_wp2_with fail
    refine (HI.out _).mono ?_
    rintro e w0 ⟨rfl, hw0⟩
    rw [hw0]; clear hw0 w0
    go_wp2
    go_ret2
    exact GivesRows2.none ((Below.refl _ _).alloc (Nat.le_refl _) _) (by unfold maxLen; omega)
end Go.Proofs.Ytpebgompfgkljaa
