/-
  The walk of the program's BranchCover. The walks of the model's BranchCover, BraidPassport and MapPassport.
-/
import Derived.Test.YtpebgompfgkljaaBase
import Derived.Test.YtpebgompfgkljaaSlice
import Derived.Test.YtpebgompfgkljaaIntRow
import Derived.Test.YtpebgompfgkljaaInts
import Derived.Test.YtpebgompfgkljaaOwn
import Derived.Test.YtpebgompfgkljaaGrid
import Derived.Test.YtpebgompfgkljaaGridWalk
import Derived.Test.YtpebgompfgkljaaGridRows
import Derived.Test.YtpebgompfgkljaaWord
import Derived.Test.YtpebgompfgkljaaClass
import Derived.Test.YtpebgompfgkljaaLab
import Derived.Test.YtpebgompfgkljaaMap
import Derived.Test.YtpebgompfgkljaaSurf
import Derived.Test.YtpebgompfgkljaaCov
import Derived.Test.YtpebgompfgkljaaCovA
import Derived.Test.YtpebgompfgkljaaCovD
import Derived.Test.YtpebgompfgkljaaBrA
import Derived.Test.YtpebgompfgkljaaBrB
import Derived.Deep.QuietTactic
import Derived.BigQuiet
import Derived.Deep.RegionHeld3
import Derived.StillTailTactics
import Derived.Test.YtpebgompfgkljaaAppend
import Derived.Test.YtpebgompfgkljaaIsWord
import Derived.Test.YtpebgompfgkljaaHead
import Derived.Test.YtpebgompfgkljaaMapA
import Derived.Test.YtpebgompfgkljaaMapB
import Derived.Test.YtpebgompfgkljaaMoveA
import Derived.Test.YtpebgompfgkljaaPermInv
import Derived.Test.YtpebgompfgkljaaCovC
import Derived.Test.YtpebgompfgkljaaBrC
import Derived.Test.YtpebgompfgkljaaBrD
import Derived.Test.YtpebgompfgkljaaBrF
namespace Go.Proofs.Ytpebgompfgkljaa
open Go.RowKit

theorem Br.parts_pos {L : List (List Int)} (h : Cv.Perms L) : 1 ≤ (Cv.partsN L).length := by
  unfold Cv.partsN Cv.classes
  rw [List.length_map]
  have : 0 ∈ Cv.firsts (Cv.lab L) (Cv.deg L) := List.mem_filter.2 ⟨List.mem_range.2 (by have := h.2.2.2.1; omega), decide_eq_true fun k hk => absurd hk (by omega)⟩
  exact List.length_pos_of_mem this
theorem Br.cover_of {L : List (List Int)} (h : Br.CoverOk L) : Br.cover L = ((2 - 2 * (Cv.deg L : Int) + Br.total L).tdiv 2, 0, 0) := if_pos h
theorem Br.cover_not {L : List (List Int)} (h : ¬ Br.CoverOk L) : Br.cover L = (0, 0, 0) := if_neg h
theorem below_p3 {N g : Nat} {w w1 : World} (h : Below N w w1) (hg : N ≤ g) (x y z : Value) : Below N w (((w1.setCell ⟨g, 0, none⟩ x).setCell ⟨g, 1, none⟩ y).setCell ⟨g, 2, none⟩ z) :=
  ((h.setCell (p := ⟨g, 0, none⟩) hg x).setCell (p := ⟨g, 1, none⟩) hg y).setCell (p := ⟨g, 2, none⟩) hg z
set_option maxRecDepth 10000 in
set_option maxHeartbeats 2000000 in
theorem impl_BranchCover (a : Option Addr) (c : Nat) (L : List (List Int)) (w : World) (ha : GridAt w a L) (hL : ∀ p ∈ L, p.length ≤ 1048576) (hn : L.length ≤ 1048576) :
    Calls Try.prog 53 #[.slice a L.length c] w fun e w' => GivesS w (Br.cover L) (decide (Br.CoverOk L)) e w' := by
  have hP0 := fun W (hb : Below w.heap.size w W) => impl_IsPassport a c L W (ha.below hb) hL hn
  generalize hN : w.heap.size = N at *
  have HN := Lib.hid hN
  by_cases hP : Br.Pass L
  · rw [decide_eq_true hP] at hP0
    have hS := fun W (hb : Below N w W) => impl_SheetParts a c L W (ha.below (by rw [hN]; exact hb)) hL hn
    have hpt : Cv.parts L = Mp.natRows (Cv.partsN L) := if_pos hP.2.1
    rw [hpt] at hS
    have hsz : (Mp.natRows (Cv.partsN L)).length = (Cv.partsN L).length := by simp [Mp.natRows]
    have hpos := Br.parts_pos hP.2.1
    have hd1 := hP.2.1.2.1
    have hd5 := hP.2.1.2.2.2.2
    by_cases h1 : (Cv.partsN L).length = 1
    · have hok : Br.CoverOk L := ⟨hP, h1⟩
      rw [Br.cover_of hok, decide_eq_true hok]
      have hB := fun W (hb : Below N w W) => impl_BranchSum a c L W (ha.below (by rw [hN]; exact hb)) hL hn
      rw [Br.bsum_of hP] at hB
      have ht := Br.total_all hP
      rw [h1] at hsz
      obtain ⟨r0, hr0, hr0l⟩ := Cv.head_get (L := L) (by omega)
      obtain ⟨b0, o0, a0, c0, rfl, hbw0, hcell0, _⟩ := ha.get hr0
      rw [Nat.add_zero, hr0l] at hcell0
      have i2 : 0 < L.length := by omega
      have he0 := fun W => impl_EulerNumber 0 0 0 W (by intro x hx; simp at hx; omega)
      rw [show Surf.euler 0 0 0 = 2 by decide] at he0
      generalize Cv.deg L = n at *
      generalize Br.total L = t at *
      generalize Mp.natRows (Cv.partsN L) = R at *
      obtain ⟨M2, hM2⟩ : ∃ M2 : Int, 2 * (n : Int) = M2 := ⟨_, rfl⟩
      obtain ⟨D, hD⟩ : ∃ D : Int, M2 - t = D := ⟨_, rfl⟩
      obtain ⟨T, hT⟩ : ∃ T : Int, 2 - D = T := ⟨_, rfl⟩
      obtain ⟨H, hH⟩ : ∃ H : Int, T.tdiv 2 = H := ⟨_, rfl⟩
      have hTe : 2 - 2 * (n : Int) + t = T := by omega
      rw [hTe, hH]
      have hHb : -100 ≤ H ∧ H ≤ 100 := by
        rw [← hH]
        constructor
        · rcases Int.le_total 0 T with h | h
          · have := Int.tdiv_nonneg h (show (0 : Int) ≤ 2 by decide); omega
          · have := Int.neg_tdiv T 2
            have h2 := Int.tdiv_le_self (a := -T) 2 (by omega)
            omega
        · rcases Int.le_total 0 T with h | h
          · have h2 := Int.tdiv_le_self (a := T) 2 h; omega
          · have := Int.neg_tdiv T 2
            have := Int.tdiv_nonneg (show 0 ≤ -T by omega) (show (0 : Int) ≤ 2 by decide)
            omega
      have e1 : IntKind.i64.wrap (2 * (n : Int)) = M2 := by rw [hM2]; exact wrap_small (by omega) (by omega)
      have e2 : IntKind.i64.wrap (M2 - t) = D := by rw [hD]; exact wrap_small (by omega) (by omega)
      have e3 : IntKind.i64.wrap (2 - D) = T := by rw [hT]; exact wrap_small (by omega) (by omega)
      have e4 : IntKind.i64.wrap H = H := wrap_small (by omega) (by omega)
      have HP0 := Lib.hid hP0; have HS := Lib.hid hS; have HB := Lib.hid hB; have HE0 := Lib.hid he0; have Hsz := Lib.hid hsz; have Hc0 := Lib.hid hcell0
      clear hP0 hS hB he0 hpt hsz hpos hP h1 hok ha hL hr0 hr0l hcell0 hTe hHb hM2 hD hT hd1 hd5 ht
      go_enter Try.func53, Try.ntmps53
      have hz0 := Blk.new' hN 50 #[.int .i64 0, .int .i64 0, .int .i64 0]
      have hl0 : Below N w (w.alloc (.cells #[.int .i64 0, .int .i64 0, .int .i64 0] 50)) := by
        have h := (Below.refl w.heap.size w).alloc (Nat.le_refl _) (.cells #[.int .i64 0, .int .i64 0, .int .i64 0] 50)
        rwa [hN] at h
      have HZ0 := Lib.hid hz0; have Hl0 := Lib.hid hl0; clear hz0 hl0
      go_wp2_with fail
      refine (HP0.out _ Hl0.out).mono ?_
      rintro e w1 ⟨rfl, hb1⟩
      have HZ1 := Lib.hid (HZ0.out.below hb1 HZ0.out.lt)
      have Hl1 := Lib.hid (Hl0.out.trans (hb1.mono (Nat.le_of_lt HZ0.out.lt)))
      clear hb1
      go_wp2_with fail
      refine (HS.out _ Hl1.out).mono ?_
      rintro e w2 ⟨pa, pc, rfl, _, _, _, hb2⟩
      rw [Hsz.out]
      have HZ2 := Lib.hid (HZ1.out.below hb2 HZ1.out.lt)
      have Hl2 := Lib.hid (Hl1.out.trans (hb2.mono (Nat.le_of_lt HZ1.out.lt)))
      clear hb2 HZ0 Hl0 HZ1 Hl1
      generalize hM : w2.heap.size = M at *
      have HM := Lib.hid hM
      have hz := HZ2.out.alloc (.cells #[.int .i64 0, .int .i64 0, .int .i64 0] 50)
      have hm := Blk.new' hM 50 #[.int .i64 0, .int .i64 0, .int .i64 0]
      have hl := Hl2.out.alloc (by have := HZ2.out.lt; omega) (.cells #[.int .i64 0, .int .i64 0, .int .i64 0] 50)
      have hNM := Lib.hid (show N < M by have := HZ2.out.lt; have := HM.out; omega)
      have HZ3 := Lib.hid hz; have HM3 := Lib.hid hm; have Hl3 := Lib.hid hl
      clear hz hm hl HZ2 Hl2
      obtain ⟨W3, hW3⟩ : ∃ W3, w2.alloc (.cells #[.int .i64 0, .int .i64 0, .int .i64 0] 50) = W3 := ⟨_, rfl⟩
      rw [hW3] at HZ3 HM3 Hl3
      have hSS : ∀ W, Below W3.heap.size W3 W → W.cell? ⟨b0, o0, none⟩ = some (.slice a0 n c0) ∧ W.cell? ⟨M, 0, none⟩ = some (.int .i64 0) ∧ W.cell? ⟨M, 1, none⟩ = some (.int .i64 0) ∧ W.cell? ⟨M, 2, none⟩ = some (.int .i64 0) := fun W hb => by
        have h2 := HM3.out.below hb HM3.out.lt
        have hl := Hl3.out.trans (hb.mono (Nat.le_of_lt HZ3.out.lt))
        exact ⟨by rw [hl.cell (by rw [← HN.out]; exact hbw0)]; exact Hc0.out, h2.cell 0, h2.cell 1, h2.cell 2⟩
      have HSS := Lib.hid hSS
      have hBd := Below.drew (Below.refl W3.heap.size W3)
      have HSd := Lib.hid (hSS _ hBd)
      have HBW := Lib.hid (fun W (hb : Below W3.heap.size W3 W) => HB.out W (Hl3.out.trans (hb.mono (Nat.le_of_lt HZ3.out.lt))))
      clear hSS
      go_upto_region 4 with fail
      clear hW3
      go_region_held3 (fun w' => w'.cell? ⟨b0, o0, none⟩ = some (.slice a0 n c0) ∧ w'.cell? ⟨M, 0, none⟩ = some (.int .i64 0) ∧ w'.cell? ⟨M, 1, none⟩ = some (.int .i64 0) ∧ w'.cell? ⟨M, 2, none⟩ = some (.int .i64 0)) (first | (with_reducible assumption) | (with_reducible exact HSd.out)) (first
        | (go_at_call 126; refine (HE0.out _).mono ?_; rintro e w4 ⟨rfl, hb4⟩; have hB4 := hB5.trans (hb4.mono hB5.size); have hS4 := HSS.out _ hB4)
        | (go_at_call 126; refine (HE0.out _).mono ?_; rintro e w4 ⟨rfl, hb4⟩; have hB4 := hBd.trans (hb4.mono hBd.size); have hS4 := HSS.out _ hB4)
        | (go_at_call 51; refine (HBW.out _ hB4).mono ?_; rintro e w5 ⟨rfl, hb5⟩; have hB5 := hB4.trans (hb5.mono hB4.size); have hS5 := HSS.out _ hB5)
        | (go_at_call 51; refine (HBW.out _ hBd).mono ?_; rintro e w5 ⟨rfl, hb5⟩; have hB5 := hBd.trans (hb5.mono hBd.size); have hS5 := HSS.out _ hB5))
      have h2 := HM3.out.below hB5 HM3.out.lt
      have h0 := HZ3.out.below hB5 HZ3.out.lt
      have hb6 := Hl3.out.trans (hB5.mono (Nat.le_of_lt HZ3.out.lt))
      have fz := h2.frozen 0
      have fn0 := h0.frozen 0; have fn1 := h0.frozen 1; have fn2 := h0.frozen 2
      obtain ⟨_, _, _, _, _, _⟩ := h0.six
      have hlt : N ≠ M := by have := hNM.out; omega
      have hlt' : N < M := hNM.out
      have HB2 := Lib.hid h2; have HB0 := Lib.hid h0; have HB6 := Lib.hid hb6
      clear h2 h0 hb6 hS5 hB5 hB4 hS4 HSS HSd HBW hBd
      subst hH
      go_wp2
      have hZ7 := (HB0.out.far (p := ⟨M, 0, none⟩) hlt (.int .i64 (T.tdiv 2))).put3 (x := .int .i64 (T.tdiv 2)) (y := .int .i64 0) (z := .int .i64 0)
      have hl7 := below_p3 (HB6.out.setCell (p := ⟨M, 0, none⟩) (Nat.le_of_lt hlt') (.int .i64 (T.tdiv 2))) (g := N) (Nat.le_refl N) (.int .i64 (T.tdiv 2)) (.int .i64 0) (.int .i64 0)
      exact bodyPost_ret (results_cell_tmp rfl _ _ N 50 #[.int .i64 (T.tdiv 2), .int .i64 0, .int .i64 0] (0, 0) _ rfl hZ7 Try.underlying50 rfl (by kernel_rfl)) rfl ⟨rfl, by rw [HN.out]; exact hl7⟩
    · have hok : ¬ Br.CoverOk L := fun h => h1 h.2
      rw [Br.cover_not hok, decide_eq_false hok]
      have dgt : (1 : Int) < ((Cv.partsN L).length : Int) := by omega
      generalize Mp.natRows (Cv.partsN L) = R at *
      generalize (Cv.partsN L).length = k at *
      have HP0 := Lib.hid hP0; have HS := Lib.hid hS; have Hsz := Lib.hid hsz
      clear hP0 hS hpt hsz hpos hP h1 hok ha hL hd1 hd5
      go_enter Try.func53, Try.ntmps53
      have hz0 := Blk.new' hN 50 #[.int .i64 0, .int .i64 0, .int .i64 0]
      have hl0 : Below N w (w.alloc (.cells #[.int .i64 0, .int .i64 0, .int .i64 0] 50)) := by
        have h := (Below.refl w.heap.size w).alloc (Nat.le_refl _) (.cells #[.int .i64 0, .int .i64 0, .int .i64 0] 50)
        rwa [hN] at h
      have HZ0 := Lib.hid hz0; have Hl0 := Lib.hid hl0; clear hz0 hl0
      go_wp2_with fail
      refine (HP0.out _ Hl0.out).mono ?_
      rintro e w1 ⟨rfl, hb1⟩
      have HZ1 := Lib.hid (HZ0.out.below hb1 HZ0.out.lt)
      have Hl1 := Lib.hid (Hl0.out.trans (hb1.mono (Nat.le_of_lt HZ0.out.lt)))
      clear hb1
      go_wp2_with fail
      refine (HS.out _ Hl1.out).mono ?_
      rintro e w2 ⟨pa, pc, rfl, _, _, _, hb2⟩
      rw [Hsz.out]
      have HZ2 := Lib.hid (HZ1.out.below hb2 HZ1.out.lt)
      have Hl2 := Lib.hid (Hl1.out.trans (hb2.mono (Nat.le_of_lt HZ1.out.lt)))
      obtain ⟨_, _, _, _, _, _⟩ := HZ2.out.six
      clear hb2 HZ0 Hl0 HZ1 Hl1
      go_wp2
      have hZ4 := HZ2.out.put3 (x := .int .i64 0) (y := .int .i64 0) (z := .int .i64 0)
      have hl4 := below_p3 Hl2.out (g := N) (Nat.le_refl N) (.int .i64 0) (.int .i64 0) (.int .i64 0)
      exact bodyPost_ret (results_cell_tmp rfl _ _ N 50 #[.int .i64 0, .int .i64 0, .int .i64 0] (0, 0) _ rfl hZ4 Try.underlying50 rfl (by kernel_rfl)) rfl ⟨rfl, by rw [HN.out]; exact hl4⟩
  · have hok : ¬ Br.CoverOk L := fun h => hP h.1
    rw [Br.cover_not hok, decide_eq_false hok]
    rw [decide_eq_false hP] at hP0
    have HP0 := Lib.hid hP0
    clear hP0 hP hok ha hL
    go_enter Try.func53, Try.ntmps53
    have hz0 := Blk.new' hN 50 #[.int .i64 0, .int .i64 0, .int .i64 0]
    have hl0 : Below N w (w.alloc (.cells #[.int .i64 0, .int .i64 0, .int .i64 0] 50)) := by
      have h := (Below.refl w.heap.size w).alloc (Nat.le_refl _) (.cells #[.int .i64 0, .int .i64 0, .int .i64 0] 50)
      rwa [hN] at h
    have HZ0 := Lib.hid hz0; have Hl0 := Lib.hid hl0; clear hz0 hl0
    go_wp2_with fail
    refine (HP0.out _ Hl0.out).mono ?_
    rintro e w1 ⟨rfl, hb1⟩
    have HZ1 := Lib.hid (HZ0.out.below hb1 HZ0.out.lt)
    have Hl1 := Lib.hid (Hl0.out.trans (hb1.mono (Nat.le_of_lt HZ0.out.lt)))
    obtain ⟨_, _, _, _, _, _⟩ := HZ1.out.six
    clear hb1
    go_wp2
    have hZ4 := HZ1.out.put3 (x := .int .i64 0) (y := .int .i64 0) (z := .int .i64 0)
    have hl4 := below_p3 Hl1.out (g := N) (Nat.le_refl N) (.int .i64 0) (.int .i64 0) (.int .i64 0)
    exact bodyPost_ret (results_cell_tmp rfl _ _ N 50 #[.int .i64 0, .int .i64 0, .int .i64 0] (0, 0) _ rfl hZ4 Try.underlying50 rfl (by kernel_rfl)) rfl ⟨rfl, by rw [HN.out]; exact hl4⟩
end Go.Proofs.Ytpebgompfgkljaa
namespace Go.Proofs.Ytpebgompfgkljaa
open Go.RowKit

set_option maxRecDepth 10000 in
set_option maxHeartbeats 2000000 in
theorem spec_BranchCover (a : Option Addr) (c : Nat) (L : List (List Int)) (w : World) (ha : GridAt w a L) (hL : ∀ p ∈ L, p.length ≤ 1048576) (hn : L.length ≤ 1048576) :
    Calls Try.prog 52 #[.slice a L.length c] w fun e w' => GivesS w (Br.cover L) (decide (Br.CoverOk L)) e w' := by
  have hP0 := fun W (hb : Below w.heap.size w W) => spec_IsPassport a c L W (ha.below hb) hL hn
  generalize hN : w.heap.size = N at *
  have HN := Lib.hid hN
  by_cases hP : Br.Pass L
  · rw [decide_eq_true hP] at hP0
    have hS := fun W (hb : Below N w W) => spec_l9Parts a c L W (ha.below (by rw [hN]; exact hb)) hP.2.1
    have hsz : (Mp.natRows (Cv.partsN L)).length = (Cv.partsN L).length := by simp [Mp.natRows]
    have hpos := Br.parts_pos hP.2.1
    have hd1 := hP.2.1.2.1
    have hd5 := hP.2.1.2.2.2.2
    by_cases h1 : (Cv.partsN L).length = 1
    · have hok : Br.CoverOk L := ⟨hP, h1⟩
      rw [Br.cover_of hok, decide_eq_true hok]
      have hB := fun W (hb : Below N w W) => spec_BranchSum a c L W (ha.below (by rw [hN]; exact hb)) hL hn
      rw [Br.bsum_of hP] at hB
      have ht := Br.total_all hP
      rw [h1] at hsz
      obtain ⟨r0, hr0, hr0l⟩ := Cv.head_get (L := L) (by omega)
      obtain ⟨b0, o0, a0, c0, rfl, hbw0, hcell0, _⟩ := ha.get hr0
      rw [Nat.add_zero, hr0l] at hcell0
      have i2 : 0 < L.length := by omega
      generalize Cv.deg L = n at *
      generalize Br.total L = t at *
      generalize Mp.natRows (Cv.partsN L) = R at *
      obtain ⟨M2, hM2⟩ : ∃ M2 : Int, 2 * (n : Int) = M2 := ⟨_, rfl⟩
      obtain ⟨D, hD⟩ : ∃ D : Int, 2 - M2 = D := ⟨_, rfl⟩
      obtain ⟨T, hT⟩ : ∃ T : Int, D + t = T := ⟨_, rfl⟩
      obtain ⟨H, hH⟩ : ∃ H : Int, T.tdiv 2 = H := ⟨_, rfl⟩
      have hTe : 2 - 2 * (n : Int) + t = T := by omega
      rw [hTe, hH]
      have hHb : -100 ≤ H ∧ H ≤ 100 := by
        rw [← hH]
        constructor
        · rcases Int.le_total 0 T with h | h
          · have := Int.tdiv_nonneg h (show (0 : Int) ≤ 2 by decide); omega
          · have := Int.neg_tdiv T 2
            have h2 := Int.tdiv_le_self (a := -T) 2 (by omega)
            omega
        · rcases Int.le_total 0 T with h | h
          · have h2 := Int.tdiv_le_self (a := T) 2 h; omega
          · have := Int.neg_tdiv T 2
            have := Int.tdiv_nonneg (show 0 ≤ -T by omega) (show (0 : Int) ≤ 2 by decide)
            omega
      have e1 : IntKind.i64.wrap (2 * (n : Int)) = M2 := by rw [hM2]; exact wrap_small (by omega) (by omega)
      have e2 : IntKind.i64.wrap (2 - M2) = D := by rw [hD]; exact wrap_small (by omega) (by omega)
      have e3 : IntKind.i64.wrap (D + t) = T := by rw [hT]; exact wrap_small (by omega) (by omega)
      have e4 : IntKind.i64.wrap H = H := wrap_small (by omega) (by omega)
      have HP0 := Lib.hid hP0; have HS := Lib.hid hS; have HB := Lib.hid hB; have Hsz := Lib.hid hsz; have Hc0 := Lib.hid hcell0
      clear hP0 hS hB hsz hpos hP h1 hok ha hL hr0 hr0l hcell0 hTe hHb hM2 hD hT hd1 hd5 ht
      go_enter Try.func52, Try.ntmps52
      have hz0 := Blk.new' hN 50 #[.int .i64 0, .int .i64 0, .int .i64 0]
      have hl0 : Below N w (w.alloc (.cells #[.int .i64 0, .int .i64 0, .int .i64 0] 50)) := by
        have h := (Below.refl w.heap.size w).alloc (Nat.le_refl _) (.cells #[.int .i64 0, .int .i64 0, .int .i64 0] 50)
        rwa [hN] at h
      have HZ0 := Lib.hid hz0; have Hl0 := Lib.hid hl0; clear hz0 hl0
      go_wp2_with fail
      refine (HP0.out _ Hl0.out).mono ?_
      rintro e w1 ⟨rfl, hb1⟩
      have HZ1 := Lib.hid (HZ0.out.below hb1 HZ0.out.lt)
      have Hl1 := Lib.hid (Hl0.out.trans (hb1.mono (Nat.le_of_lt HZ0.out.lt)))
      clear hb1
      go_wp2_with fail
      refine (HS.out _ Hl1.out).mono ?_
      rintro e w2 ⟨pa, pc, rfl, _, _, _, hb2⟩
      rw [Hsz.out]
      have HZ2 := Lib.hid (HZ1.out.below hb2 HZ1.out.lt)
      have Hl2 := Lib.hid (Hl1.out.trans (hb2.mono (Nat.le_of_lt HZ1.out.lt)))
      clear hb2 HZ0 Hl0 HZ1 Hl1
      have hK := fun W (hb : Below N w W) => show W.cell? ⟨b0, o0, none⟩ = some (.slice a0 n c0) from by rw [hb.cell (by rw [← HN.out]; exact hbw0)]; exact Hc0.out
      have hdr := Below.drew Hl2.out
      have HS0 := Lib.hid (hK _ hdr)
      have HK := Lib.hid hK
      have HB7 := Lib.hid (HB.out _ hdr)
      have Hdr := Lib.hid hdr
      have HZ3 := Lib.hid HZ2.out.drew
      clear hK hdr HB HZ2
      go_upto_region 3 with fail
      refine wp_region_free 13 (by kernel_rfl) rfl ?_
      refine any_head 11 11 2 (fun w' => w'.cell? ⟨b0, o0, none⟩ = some (.slice a0 n c0)) rfl rfl HS0.out (fun hS => ?_)
      refine HdAny.take (i := 0) (v := ?_) rfl (by kernel_rfl) (fun _ _ _ h => h) rfl ?_ hS ?_
      rotate_left; · (intro w' hSw; go_simp; try with_reducible rfl)
      try simp only [Act.put, List.setIfInBounds_toArray, List.set_cons_zero, List.set_cons_succ]
      refine HdAny.take (i := 1) (v := ?_) rfl (by kernel_rfl) (fun _ _ _ h => h) rfl ?_ hS ?_
      rotate_left; · (intro w' hSw; go_simp; try with_reducible rfl)
      try simp only [Act.put, List.setIfInBounds_toArray, List.set_cons_zero, List.set_cons_succ]
      refine HdAny.take (i := 2) (v := ?_) rfl (by kernel_rfl) (fun _ _ _ h => h) rfl ?_ hS ?_
      rotate_left; · (intro w' hSw; go_simp; try with_reducible rfl)
      try simp only [Act.put, List.setIfInBounds_toArray, List.set_cons_zero, List.set_cons_succ]
      refine HdAny.take (i := 3) (v := ?_) rfl (by kernel_rfl) (fun _ _ _ h => h) rfl ?_ hS ?_
      rotate_left; · (intro w' hSw; go_simp; try with_reducible rfl)
      try simp only [Act.put, List.setIfInBounds_toArray, List.set_cons_zero, List.set_cons_succ]
      refine HdAny.take (i := 4) (v := ?_) rfl (by kernel_rfl) (fun _ _ _ h => h) rfl ?_ hS ?_
      rotate_left; · (intro w' hSw; go_simp; try with_reducible rfl)
      try simp only [Act.put, List.setIfInBounds_toArray, List.set_cons_zero, List.set_cons_succ]
      refine HdAny.take (i := 5) (v := ?_) rfl (by kernel_rfl) (fun _ _ _ h => h) rfl ?_ hS ?_
      rotate_left; · (intro w' hSw; go_simp; try with_reducible rfl)
      try simp only [Act.put, List.setIfInBounds_toArray, List.set_cons_zero, List.set_cons_succ]
      refine HdAny.take (i := 6) (v := ?_) rfl (by kernel_rfl) (fun _ _ _ h => h) rfl ?_ hS ?_
      rotate_left; · (intro w' hSw; go_simp; try with_reducible rfl)
      try simp only [Act.put, List.setIfInBounds_toArray, List.set_cons_zero, List.set_cons_succ]
      refine HdAny.one (i := 7) rfl (by kernel_rfl) (fun K hK => ?_)
      go_simp
      go_at_call 50
      refine HB7.out.mono ?_
      rintro e w7 ⟨rfl, hb7⟩
      have HZ7 := Lib.hid (HZ3.out.below hb7 HZ3.out.lt)
      have Hl7 := Lib.hid (Hdr.out.trans (hb7.mono (Nat.le_of_lt HZ3.out.lt)))
      clear hb7
      go_simp
      refine hK.out _ _ (HK.out _ Hl7.out) (fun hS => ?_)
      clear hK K
      try simp only [Act.put, List.setIfInBounds_toArray, List.set_cons_zero, List.set_cons_succ]
      refine HdAny.take (i := 8) (v := ?_) rfl (by kernel_rfl) (fun _ _ _ h => h) rfl ?_ hS ?_
      rotate_left; · (intro w' hSw; go_simp; try with_reducible rfl)
      try simp only [Act.put, List.setIfInBounds_toArray, List.set_cons_zero, List.set_cons_succ]
      refine HdAny.take (i := 9) (v := ?_) rfl (by kernel_rfl) (fun _ _ _ h => h) rfl ?_ hS ?_
      rotate_left; · (intro w' hSw; go_simp; try with_reducible rfl)
      try simp only [Act.put, List.setIfInBounds_toArray, List.set_cons_zero, List.set_cons_succ]
      refine HdAny.take (i := 10) (v := ?_) rfl (by kernel_rfl) (fun _ _ _ h => h) rfl ?_ hS ?_
      rotate_left; · (intro w' hSw; go_simp; try with_reducible rfl)
      try simp only [Act.put, List.setIfInBounds_toArray, List.set_cons_zero, List.set_cons_succ]
      refine HdAny.done (by kernel_rfl) ?_
      simp only [List.drop_succ_cons, List.drop_zero]
      subst hH
      have fn0 := HZ7.out.frozen 0; have fn1 := HZ7.out.frozen 1; have fn2 := HZ7.out.frozen 2
      obtain ⟨_, _, _, _, _, _⟩ := HZ7.out.six
      clear hS
      go_wp2
      have hZ7 := HZ7.out.put3 (x := .int .i64 (T.tdiv 2)) (y := .int .i64 0) (z := .int .i64 0)
      have hl7 := below_p3 Hl7.out (g := N) (Nat.le_refl N) (.int .i64 (T.tdiv 2)) (.int .i64 0) (.int .i64 0)
      exact bodyPost_ret (results_cell_tmp rfl _ _ N 50 #[.int .i64 (T.tdiv 2), .int .i64 0, .int .i64 0] (0, 0) _ rfl hZ7 Try.underlying50 rfl (by kernel_rfl)) rfl ⟨rfl, by rw [HN.out]; exact hl7⟩
    · have hok : ¬ Br.CoverOk L := fun h => h1 h.2
      rw [Br.cover_not hok, decide_eq_false hok]
      have dgt : (((Cv.partsN L).length : Int) != 1) = true := by simp; omega
      generalize Mp.natRows (Cv.partsN L) = R at *
      generalize (Cv.partsN L).length = k at *
      have HP0 := Lib.hid hP0; have HS := Lib.hid hS; have Hsz := Lib.hid hsz
      clear hP0 hS hsz hpos hP h1 hok ha hL hd1 hd5
      go_enter Try.func52, Try.ntmps52
      have hz0 := Blk.new' hN 50 #[.int .i64 0, .int .i64 0, .int .i64 0]
      have hl0 : Below N w (w.alloc (.cells #[.int .i64 0, .int .i64 0, .int .i64 0] 50)) := by
        have h := (Below.refl w.heap.size w).alloc (Nat.le_refl _) (.cells #[.int .i64 0, .int .i64 0, .int .i64 0] 50)
        rwa [hN] at h
      have HZ0 := Lib.hid hz0; have Hl0 := Lib.hid hl0; clear hz0 hl0
      go_wp2_with fail
      refine (HP0.out _ Hl0.out).mono ?_
      rintro e w1 ⟨rfl, hb1⟩
      have HZ1 := Lib.hid (HZ0.out.below hb1 HZ0.out.lt)
      have Hl1 := Lib.hid (Hl0.out.trans (hb1.mono (Nat.le_of_lt HZ0.out.lt)))
      clear hb1
      go_wp2_with fail
      refine (HS.out _ Hl1.out).mono ?_
      rintro e w2 ⟨pa, pc, rfl, _, _, _, hb2⟩
      rw [Hsz.out]
      have HZ2 := Lib.hid (HZ1.out.below hb2 HZ1.out.lt)
      have Hl2 := Lib.hid (Hl1.out.trans (hb2.mono (Nat.le_of_lt HZ1.out.lt)))
      obtain ⟨_, _, _, _, _, _⟩ := HZ2.out.six
      clear hb2 HZ0 Hl0 HZ1 Hl1
      go_wp2
      have hZ4 := HZ2.out.put3 (x := .int .i64 0) (y := .int .i64 0) (z := .int .i64 0)
      have hl4 := below_p3 Hl2.out (g := N) (Nat.le_refl N) (.int .i64 0) (.int .i64 0) (.int .i64 0)
      exact bodyPost_ret (results_cell_tmp rfl _ _ N 50 #[.int .i64 0, .int .i64 0, .int .i64 0] (0, 0) _ rfl hZ4 Try.underlying50 rfl (by kernel_rfl)) rfl ⟨rfl, by rw [HN.out]; exact hl4⟩
  · have hok : ¬ Br.CoverOk L := fun h => hP h.1
    rw [Br.cover_not hok, decide_eq_false hok]
    rw [decide_eq_false hP] at hP0
    have HP0 := Lib.hid hP0
    clear hP0 hP hok ha hL
    go_enter Try.func52, Try.ntmps52
    have hz0 := Blk.new' hN 50 #[.int .i64 0, .int .i64 0, .int .i64 0]
    have hl0 : Below N w (w.alloc (.cells #[.int .i64 0, .int .i64 0, .int .i64 0] 50)) := by
      have h := (Below.refl w.heap.size w).alloc (Nat.le_refl _) (.cells #[.int .i64 0, .int .i64 0, .int .i64 0] 50)
      rwa [hN] at h
    have HZ0 := Lib.hid hz0; have Hl0 := Lib.hid hl0; clear hz0 hl0
    go_wp2_with fail
    refine (HP0.out _ Hl0.out).mono ?_
    rintro e w1 ⟨rfl, hb1⟩
    have HZ1 := Lib.hid (HZ0.out.below hb1 HZ0.out.lt)
    have Hl1 := Lib.hid (Hl0.out.trans (hb1.mono (Nat.le_of_lt HZ0.out.lt)))
    obtain ⟨_, _, _, _, _, _⟩ := HZ1.out.six
    clear hb1
    go_wp2
    have hZ4 := HZ1.out.put3 (x := .int .i64 0) (y := .int .i64 0) (z := .int .i64 0)
    have hl4 := below_p3 Hl1.out (g := N) (Nat.le_refl N) (.int .i64 0) (.int .i64 0) (.int .i64 0)
    exact bodyPost_ret (results_cell_tmp rfl _ _ N 50 #[.int .i64 0, .int .i64 0, .int .i64 0] (0, 0) _ rfl hZ4 Try.underlying50 rfl (by kernel_rfl)) rfl ⟨rfl, by rw [HN.out]; exact hl4⟩
end Go.Proofs.Ytpebgompfgkljaa
