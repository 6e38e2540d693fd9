/-
  The walks of IsAction, the program's and the model's.
-/
import Derived.Test.YtpebgompfgkljaaGreatBase
import Derived.Test.YtpebgompfgkljaaGreatSlice
import Derived.Test.YtpebgompfgkljaaGreatInts
import Derived.Test.YtpebgompfgkljaaGreatOwn
import Derived.Test.YtpebgompfgkljaaGreatWord
import Derived.Test.YtpebgompfgkljaaGreatIsWord
import Derived.Test.YtpebgompfgkljaaGreatReduce
import Derived.Test.YtpebgompfgkljaaGreatGrid
import Derived.Test.YtpebgompfgkljaaGreatClass
import Derived.Test.YtpebgompfgkljaaGreatLab
import Derived.Test.YtpebgompfgkljaaGreatMap
import Derived.Test.YtpebgompfgkljaaGreatMapA
import Derived.Test.YtpebgompfgkljaaGreatUses
import Derived.Test.YtpebgompfgkljaaGreatSurf
import Derived.Test.YtpebgompfgkljaaGreatCov
import Derived.Test.YtpebgompfgkljaaGreatCovA
import Derived.Test.YtpebgompfgkljaaGreatCovB
import Derived.Test.YtpebgompfgkljaaGreatAm
import Derived.Test.YtpebgompfgkljaaGreatGrpA
import Derived.Deep.QuietTactic
import Derived.Deep.RegionHeld3
import Derived.BigQuiet
import Derived.StillTailTactics
namespace Go.Proofs.YtpebgompfgkljaaGreat
open Go.RowKit

namespace Cv
/-- The word around the polygon of the surface below. -/
def rimW (g : Int) : List Int := Dn.rel (max 1 g)
theorem rimW_fits {g : Int} (hg : 0 ≤ g ∧ g ≤ 2) {L : List (List Int)} (hl : (L.length : Int) = 2 * max 1 g) : Upto L.length (rimW g) := by
  rcases (show g = 0 ∨ g = 1 ∨ g = 2 by omega) with rfl | rfl | rfl
  · have : L.length = 2 := by omega
    rw [this]; decide
  · have : L.length = 2 := by omega
    rw [this]; decide
  · have : L.length = 4 := by omega
    rw [this]; decide
theorem rim_same {L : List (List Int)} {w : List Int} {n : Nat} : row L w n = Cls.row id n ↔ ∀ s, s < n → act L w s = s := by
  constructor
  · intro h s hs
    have h1 : (row L w n)[s]? = some ((act L w s : Nat) : Int) := by simp [row, hs]
    rw [h, Cls.row_get hs] at h1
    have := Option.some.inj h1
    simp at this; omega
  · intro h
    unfold row Cls.row
    exact List.map_congr_left fun s hs => by rw [h s (List.mem_range.1 hs)]; rfl
theorem act_iff {g : Int} {L : List (List Int)} (hg : 0 ≤ g ∧ g ≤ 2) (hP : Perms L) (hl : (L.length : Int) = 2 * max 1 g) : Act g L ↔ (g = 0 ∨ row L (rimW g) (deg L) = Cls.row id (deg L)) := by
  unfold Act
  rw [rim_same]
  unfold rimW
  constructor
  · rintro ⟨_, _, _, h | h⟩
    · exact Or.inl h
    · rcases (show g = 0 ∨ 1 ≤ g by omega) with h0 | h0
      · exact Or.inl h0
      · right; rw [show max 1 g = g by omega]; exact h
  · intro h
    refine ⟨hg, hP, hl, ?_⟩
    rcases h with h | h
    · exact Or.inl h
    · rcases (show g = 0 ∨ 1 ≤ g by omega) with h0 | h0
      · exact Or.inl h0
      · right; rw [show max 1 g = g by omega] at h; exact h
end Cv

theorem fld0 (x y z : Int) (w : World) : (Instr.field 46 (.agg #[.int .i64 x, .int .i64 y, .int .i64 z]) 0).run Tryz.prog w = .ok (.int .i64 x) w := by kernel_rfl
theorem fld1 (x y z : Int) (w : World) : (Instr.field 46 (.agg #[.int .i64 x, .int .i64 y, .int .i64 z]) 1).run Tryz.prog w = .ok (.int .i64 y) w := by kernel_rfl
theorem fld2 (x y z : Int) (w : World) : (Instr.field 46 (.agg #[.int .i64 x, .int .i64 y, .int .i64 z]) 2).run Tryz.prog w = .ok (.int .i64 z) w := by kernel_rfl
theorem Cv.actW_len (L : List (List Int)) (w : List Int) : (Cv.actW L w).length ≤ 5 := by
  unfold Cv.actW
  split
  · rename_i h; rw [Cv.row_len]; exact h.1.2.2.2.2
  · simp
set_option maxRecDepth 10000 in
theorem impl_isActionGroup (g : Int) (w : World) : Calls Tryz.prog 86 #[.int .i64 g] w fun e w' => e = .returned (.bool (decide (0 ≤ g ∧ g ≤ 2))) ∧ w' = w := by
  have hc := impl_isGroup g w
  by_cases h : g = 0
  · rw [decide_eq_true (by omega)]
    have d0 : (g == 0) = true := beq_iff_eq.2 h
    clear h hc
    go_enter Tryz.func86, Tryz.ntmps86
    go_wp2
    go_ret
    exact ⟨rfl, rfl⟩
  · have d0 : (g == 0) = false := beq_eq_false_iff_ne.2 h
    have hd : decide (0 ≤ g ∧ g ≤ 2) = decide (Dn.Gr g) := decide_eq_decide.2 (by unfold Dn.Gr; omega)
    rw [hd]
    generalize decide (Dn.Gr g) = v at *
    have Hc := Lib.hid hc
    clear h hc hd
    go_enter Tryz.func86, Tryz.ntmps86
    go_wp2_with fail
    refine Hc.out.mono ?_
    rintro e w1 ⟨rfl, hw1⟩
    rw [hw1]; clear hw1 w1
    go_wp2
    go_ret
    exact ⟨rfl, rfl⟩

def Cv.below (g : Int) : Int × Int × Int := if g = 0 then (1, 0, 1) else (g, 0, 0)
set_option maxRecDepth 10000 in
set_option maxHeartbeats 1000000 in
theorem impl_surfaceBelow (g : Int) (w : World) :
    Calls Tryz.prog 88 #[.int .i64 g] w fun e w' => e = .returned (.agg #[.int .i64 (Cv.below g).1, .int .i64 (Cv.below g).2.1, .int .i64 (Cv.below g).2.2]) ∧ Below w.heap.size w w' := by
  by_cases h : g = 0
  · rw [show Cv.below g = (1, 0, 1) from if_pos h]
    have d0 : (g == 0) = true := beq_iff_eq.2 h
    clear h
    go_enter Tryz.func88, Tryz.ntmps88
    go_wp2
    exact bodyPost_ret (results_cell_row rfl _ _ w.heap.size 46 #[.int .i64 1, .int .i64 0, .int .i64 1] (0, 0) _ rfl (Blk.new w _ _) Tryz.underlying46 rfl (by kernel_rfl)) rfl ⟨rfl, (Below.refl _ _).alloc (Nat.le_refl _) _⟩
  · rw [show Cv.below g = (g, 0, 0) from if_neg h]
    have d0 : (g == 0) = false := beq_eq_false_iff_ne.2 h
    clear h
    go_enter Tryz.func88, Tryz.ntmps88
    go_wp2
    exact bodyPost_ret (results_cell_row rfl _ _ w.heap.size 46 #[.int .i64 g, .int .i64 0, .int .i64 0] (0, 0) _ rfl (Blk.new w _ _) Tryz.underlying46 rfl (by kernel_rfl)) rfl ⟨rfl, (Below.refl _ _).alloc (Nat.le_refl _) _⟩
set_option maxRecDepth 10000 in
theorem impl_countGenerators (g : Int) (w : World) (hg : 0 ≤ g ∧ g ≤ 2) : Calls Tryz.prog 87 #[.int .i64 g] w fun e w' => e = .returned (.int .i64 (2 * max 1 g)) ∧ Below w.heap.size w w' := by
  have hS := impl_surfaceBelow g w
  have hv : (Cv.below g).1 = max 1 g := by unfold Cv.below; split <;> (simp; omega)
  rw [hv] at hS
  have hb0 : 1 ≤ max 1 g := by omega
  have hb1 : max 1 g ≤ 2 := by omega
  generalize max 1 g = v at *
  generalize (Cv.below g).2.1 = y at *
  generalize (Cv.below g).2.2 = z at *
  have HS := Lib.hid hS
  have hf := fun W => fld0 v y z W
  clear hS hv
  go_enter Tryz.func87, Tryz.ntmps87
  go_wp2_with fail
  refine HS.out.mono ?_
  rintro e w1 ⟨rfl, hb1⟩
  have Hb1 := Lib.hid hb1; clear hb1
  go_wp2
  go_ret
  exact ⟨rfl, Hb1.out⟩

set_option maxRecDepth 10000 in
set_option maxHeartbeats 1000000 in
theorem impl_actAround (g : Int) (a : Option Addr) (c : Nat) (L : List (List Int)) (w : World) (hg : 0 ≤ g ∧ g ≤ 2) (ha : GridAt w a L) (hL : ∀ p ∈ L, p.length ≤ 1048576) (hn : L.length ≤ 1048576) :
    Calls Tryz.prog 90 #[.int .i64 g, .slice a L.length c] w fun e w' => Gives w (Cv.actW L (Cv.rimW g)) e w' := by
  have hS := impl_surfaceBelow g w
  have hv : (Cv.below g).1 = max 1 g := by unfold Cv.below; split <;> (simp; omega)
  rw [hv] at hS
  have hR := fun W => impl_Relator (max 1 g) W
  have hrl := Dn.rel_len8 (max 1 g)
  have hA := fun aw cw W (hb : Below w.heap.size w W) (h : RowAt W aw (intCells (Dn.rel (max 1 g)))) => impl_ActWord a aw c cw L (Dn.rel (max 1 g)) W (ha.below hb) hL hn h (Nat.le_trans hrl (by decide))
  have hl5 := Cv.actW_len L (Cv.rimW g)
  unfold Cv.rimW at *
  generalize Cv.actW L (Dn.rel (max 1 g)) = R at *
  generalize Dn.rel (max 1 g) = l at *
  generalize max 1 g = v at *
  generalize (Cv.below g).2.1 = y at *
  generalize (Cv.below g).2.2 = z at *
  have HS := Lib.hid hS; have HR := Lib.hid hR; have HA := Lib.hid hA
  have hf := fun W => fld0 v y z W
  clear hS hv hR hrl hA ha hL
  go_enter Tryz.func90, Tryz.ntmps90
  go_wp2_with fail
  refine HS.out.mono ?_
  rintro e w1 ⟨rfl, hb1⟩
  have Hb1 := Lib.hid hb1; clear hb1
  go_wp2_with fail
  refine (HR.out w1).mono ?_
  rintro e w2 ⟨ra, rc, rfl, _, _, hf2, hb2⟩
  have Hf2 := Lib.hid hf2.row; have Hb2 := Lib.hid (Hb1.out.trans (hb2.mono Hb1.out.size))
  clear hf2 hb2
  go_wp2_with fail
  refine (HA.out ra rc w2 Hb2.out Hf2.out).mono ?_
  rintro e w3 hg3
  have Hg3 := Lib.hid (hg3.later Hb2.out)
  obtain ⟨ra3, rc3, rfl, _, _, _, _⟩ := hg3
  go_wp2
  go_ret
  exact Hg3.out

set_option maxRecDepth 10000 in
set_option maxHeartbeats 2000000 in
theorem impl_IsAction (g : Int) (a : Option Addr) (c : Nat) (L : List (List Int)) (w : World) (ha : GridAt w a L) (hL : ∀ p ∈ L, p.length ≤ 1048576) (hn : L.length ≤ 1048576) :
    Calls Tryz.prog 24 #[.int .i64 g, .slice a L.length c] w fun e w' => e = .returned (.bool (decide (Cv.Act g L))) ∧ Below w.heap.size w w' := by
  have hG := impl_isActionGroup g w
  by_cases hg : 0 ≤ g ∧ g ≤ 2
  · rw [decide_eq_true hg] at hG
    have hcP := impl_doPermute a c L w ha hL hn
    by_cases hP : Cv.Perms L
    · rw [decide_eq_true hP] at hcP
      have hC := fun W => impl_countGenerators g W hg
      by_cases hl : (L.length : Int) = 2 * max 1 g
      · have hA := Cv.act_iff hg hP hl
        have dne : ((L.length : Int) != 2 * max 1 g) = false := by simp [hl]
        have hS := fun W => impl_surfaceBelow g W
        by_cases h0 : g = 0
        · rw [decide_eq_true (hA.2 (Or.inl h0))]
          have hbl : Cv.below g = (1, 0, 1) := if_pos h0
          rw [hbl] at hS
          generalize 2 * max 1 g = m at *
          have HG := Lib.hid hG; have HcP := Lib.hid hcP; have HC := Lib.hid hC; have HS := Lib.hid hS
          have hf := fun W => fld2 1 0 1 W
          clear hG hcP hC hS hA hl hbl h0 hP ha hL
          go_enter Tryz.func24, Tryz.ntmps24
          go_wp2_with fail
          refine HG.out.mono ?_
          rintro e w0 ⟨rfl, hw0⟩
          rw [hw0]; clear hw0 w0
          go_wp2_with fail
          refine HcP.out.mono ?_
          rintro e w1 ⟨rfl, hb1⟩
          have Hb1 := Lib.hid hb1; clear hb1
          go_wp2_with fail
          refine (HC.out w1).mono ?_
          rintro e w2 ⟨rfl, hb2⟩
          have Hb2 := Lib.hid (Hb1.out.trans (hb2.mono Hb1.out.size)); clear hb2
          go_wp2_with fail
          refine (HS.out w2).mono ?_
          rintro e w3 ⟨rfl, hb3⟩
          have Hb3 := Lib.hid (Hb2.out.trans (hb3.mono Hb2.out.size)); clear hb3
          go_wp2
          go_ret
          exact ⟨rfl, Hb3.out⟩
        · have hbl : Cv.below g = (g, 0, 0) := if_neg h0
          rw [hbl] at hS
          have hR := fun W (hb : Below w.heap.size w W) => impl_actAround g a c L W hg (ha.below hb) hL hn
          rw [Cv.actW_of (Cv.ok_upto.2 ⟨hP, Cv.rimW_fits hg hl⟩)] at hR
          have hres : decide (Cv.Act g L) = decide (Cv.row L (Cv.rimW g) (Cv.deg L) = Cls.row id (Cv.deg L)) := decide_eq_decide.2 ⟨fun h => (hA.1 h).resolve_left h0, fun h => hA.2 (Or.inr h)⟩
          rw [hres]
          have h5 := hP.2.2.2.2
          have h1 := hP.2.1
          obtain ⟨r0, hr0, hr0l⟩ := Cv.head_get (L := L) (by omega)
          obtain ⟨b0, o0, a0, c0, rfl, hbw0, hcell0, _⟩ := ha.get hr0
          rw [Nat.add_zero] at hcell0
          have Hc0 := Lib.hid hcell0
          rw [hr0l] at Hc0
          have i2 : 0 < L.length := by omega
          have hrl : (Cv.row L (Cv.rimW g) (Cv.deg L)).length = Cv.deg L := Cv.row_len _ _ _
          generalize Cv.row L (Cv.rimW g) (Cv.deg L) = R at *
          generalize Cv.deg L = n at *
          generalize 2 * max 1 g = m at *
          have HG := Lib.hid hG; have HcP := Lib.hid hcP; have HC := Lib.hid hC; have HS := Lib.hid hS; have HR := Lib.hid hR; have Hrl := Lib.hid hrl
          have hf := fun W => fld2 g 0 0 W
          clear hG hcP hC hS hA hl hbl h0 hP ha hL hR hres hrl hr0 hr0l hcell0
          go_enter Tryz.func24, Tryz.ntmps24
          go_wp2_with fail
          refine HG.out.mono ?_
          rintro e w0 ⟨rfl, hw0⟩
          rw [hw0]; clear hw0 w0
          go_wp2_with fail
          refine HcP.out.mono ?_
          rintro e w1 ⟨rfl, hb1⟩
          have Hb1 := Lib.hid hb1; clear hb1
          go_wp2_with fail
          refine (HC.out w1).mono ?_
          rintro e w2 ⟨rfl, hb2⟩
          have Hb2 := Lib.hid (Hb1.out.trans (hb2.mono Hb1.out.size)); clear hb2
          go_wp2_with fail
          refine (HS.out w2).mono ?_
          rintro e w3 ⟨rfl, hb3⟩
          have Hb3 := Lib.hid (Hb2.out.trans (hb3.mono Hb2.out.size)); clear hb3
          obtain ⟨v, hv⟩ : ∃ v, decide (R = Cls.row id n) = v := ⟨_, rfl⟩
          have Hv := Lib.hid hv
          clear hv
          have HK : Hid (∀ W, Below w.heap.size w W → W.cell? ⟨b0, o0, none⟩ = some (.slice a0 n c0)) := Lib.hid (fun W h => by rw [h.cell hbw0]; exact Hc0.out)
          have HE : Hid (∀ ra rc a' W, RowAt W ra (intCells R) → RowAt W a' (intCells (Cls.row id n)) → Calls Tryz.prog 89 #[.slice ra R.length rc, .slice a' n n] W fun e w' => e = .returned (.bool v) ∧ Below W.heap.size W w') := Lib.hid (fun ra rc a' W h h' => by
            rw [← Hv.out]
            have := slices_Equal ra a' rc n R (Cls.row id n) W h h' (by rw [Hrl.out]; omega) (by rw [Cls.row_len]; omega)
            rwa [Cls.row_len] at this)
          have hBd := Below.drew Hb3.out
          have hSd := HK.out _ hBd
          have HkSd := Lib.hid hSd
          clear hSd
          go_wp2
          go_region_held3 (fun w' => w'.cell? ⟨b0, o0, none⟩ = some (.slice a0 n c0)) (first | (with_reducible assumption) | (with_reducible exact HkSd.out)) (first
            | (go_at_call 90; refine (HR.out _ hB5).mono ?_; rintro e w4 ⟨ra, rc, rfl, _, _, hf4, hb4⟩; have hA4 := hf4.row; have hI4 := hrow5.below hb4; have hB4 := hB5.trans (hb4.mono hB5.size); have hS4 := HK.out _ hB4)
            | (go_at_call 90; refine (HR.out _ hBd).mono ?_; rintro e w4 ⟨ra, rc, rfl, _, _, hf4, hb4⟩; have hA4 := hf4.row; have hB4 := hBd.trans (hb4.mono hBd.size); have hS4 := HK.out _ hB4)
            | (go_at_call 61; refine (impl_unmovedSheets n w4 (by omega)).mono ?_; rintro e w5 ⟨rfl, hlab, hb5⟩; have hA5 := hA4.below hb5; have hI5 := hlab.row; have hB5 := hB4.trans (hb5.mono hB4.size); have hS5 := HK.out _ hB5)
            | (go_at_call 61; refine (impl_unmovedSheets n _ (by omega)).mono ?_; rintro e w5 ⟨rfl, hlab, hb5⟩; have hrow5 := hlab.row; have hB5 := hBd.trans (hb5.mono hBd.size); have hS5 := HK.out _ hB5)
            | (go_at_call 89; refine (HE.out _ _ _ _ hA5 hI5).mono ?_; rintro e w6 ⟨rfl, hb6⟩; have hB6 := hB5.trans (hb6.mono hB5.size); have hS6 := HK.out _ hB6)
            | (go_at_call 89; refine (HE.out _ _ _ _ hA4 hI4).mono ?_; rintro e w6 ⟨rfl, hb6⟩; have hB6 := hB4.trans (hb6.mono hB4.size); have hS6 := HK.out _ hB6))
          all_goals
            clear hS6
            go_wp2
            go_ret
            exact ⟨by rw [Hv.out]; rfl, hB6⟩
      · have dne : ((L.length : Int) != 2 * max 1 g) = true := by simp [hl]
        rw [decide_eq_false fun h : Cv.Act g L => hl h.2.2.1]
        generalize 2 * max 1 g = m at *
        have HG := Lib.hid hG; have HcP := Lib.hid hcP; have HC := Lib.hid hC
        clear hG hcP hC hl hP ha hL
        go_enter Tryz.func24, Tryz.ntmps24
        go_wp2_with fail
        refine HG.out.mono ?_
        rintro e w0 ⟨rfl, hw0⟩
        rw [hw0]; clear hw0 w0
        go_wp2_with fail
        refine HcP.out.mono ?_
        rintro e w1 ⟨rfl, hb1⟩
        have Hb1 := Lib.hid hb1; clear hb1
        go_wp2_with fail
        refine (HC.out w1).mono ?_
        rintro e w2 ⟨rfl, hb2⟩
        have Hb2 := Lib.hid (Hb1.out.trans (hb2.mono Hb1.out.size)); clear hb2
        go_wp2
        go_ret
        exact ⟨rfl, Hb2.out⟩
    · rw [decide_eq_false hP] at hcP
      rw [decide_eq_false fun h : Cv.Act g L => hP h.2.1]
      have HG := Lib.hid hG; have HcP := Lib.hid hcP
      clear hG hcP hP ha hL
      go_enter Tryz.func24, Tryz.ntmps24
      go_wp2_with fail
      refine HG.out.mono ?_
      rintro e w0 ⟨rfl, hw0⟩
      rw [hw0]; clear hw0 w0
      go_wp2_with fail
      refine HcP.out.mono ?_
      rintro e w1 ⟨rfl, hb1⟩
      have Hb1 := Lib.hid hb1; clear hb1
      go_wp2
      go_ret
      exact ⟨rfl, Hb1.out⟩
  · rw [decide_eq_false hg] at hG
    rw [decide_eq_false fun h : Cv.Act g L => hg h.1]
    have HG := Lib.hid hG
    clear hG hg ha hL
    go_enter Tryz.func24, Tryz.ntmps24
    go_wp2_with fail
    refine HG.out.mono ?_
    rintro e w0 ⟨rfl, hw0⟩
    rw [hw0]; clear hw0 w0
    go_wp2
    go_ret
    exact ⟨rfl, Below.refl _ _⟩

def Cv.Whole (l : List Int) : Prop := 0 < l.length ∧ ∀ k, k < l.length → l.getD k 0 = (k : Int)
instance (l : List Int) : Decidable (Cv.Whole l) := by unfold Cv.Whole; exact inferInstance
theorem Cv.whole_row {L : List (List Int)} {w : List Int} {n : Nat} (hn : 0 < n) : Cv.Whole (Cv.row L w n) ↔ Cv.row L w n = Cls.row id n := by
  rw [Cv.rim_same]
  unfold Cv.Whole
  rw [Cv.row_len]
  have hg : ∀ k, k < n → (Cv.row L w n).getD k 0 = ((Cv.act L w k : Nat) : Int) := fun k hk => by
    rw [List.getD_eq_getElem?_getD]; simp [Cv.row, hk]
  constructor
  · rintro ⟨_, h⟩ s hs
    have := h s hs
    rw [hg s hs] at this; omega
  · intro h
    exact ⟨hn, fun k hk => by rw [hg k hk, h k hk]⟩
set_option maxRecDepth 10000 in
set_option maxHeartbeats 1000000 in
theorem spec_l9Whole (a : Option Addr) (c : Nat) (l : List Int) (w : World) (ha : RowAt w a (intCells l)) (hl : l.length ≤ 1048576) :
    Calls Tryz.prog 92 #[.slice a l.length c] w fun e w' => e = .returned (.bool (decide (Cv.Whole l))) ∧ w' = w := by
  have Ha := Lib.hid ha
  obtain ⟨V, hV⟩ : ∃ V, decide (Cv.Whole l) = V := ⟨_, rfl⟩
  rw [hV]
  have HV := Lib.hid hV
  clear ha hV
  go_enter Tryz.func92, Tryz.ntmps92
  go_wp2
  go_loopw [3] (fun iv wr => ∃ i : Nat, i ≤ l.length ∧ iv = .int .i64 i ∧ Hid (∀ k, k < i → l.getD k 0 = (k : Int)) ∧ wr = w) (fun iv _ => l.length - (intOf iv).toNat)
  case atStart => exact ⟨0, by omega, rfl, Lib.hid (fun k h => absurd h (by omega)), rfl⟩
  case round =>
    obtain ⟨i, hi, rfl, hall, rfl⟩ := hrel
    by_cases hlt : i < l.length
    · obtain ⟨y, hy⟩ := get_some hlt
      obtain ⟨b, o, rfl, hbw, hcell⟩ := intCells_get? Ha.out hy
      have hgd : l.getD i 0 = y := by rw [List.getD_eq_getElem?_getD, hy]; rfl
      have Hgd := Lib.hid hgd
      clear hy hgd
      by_cases he : y = (i : Int)
      · have dne : (y != (i : Int)) = false := by simp [he]
        have Hall := Lib.hid (show ∀ k, k < i + 1 → l.getD k 0 = (k : Int) from fun k hk => by
          rcases Nat.lt_or_ge k i with h | h
          · exact hall.out k h
          · obtain rfl : k = i := by omega
            rw [Hgd.out, he])
        clear he
        go_wp2
        go_roundw
        case rel => exact ⟨i + 1, by omega, by go_num, Hall, trivial⟩
        case measure => simp [intOf]; omega
      · have dne : (y != (i : Int)) = true := by simp [he]
        have Hd := Lib.hid (show V = false by rw [← HV.out]; exact decide_eq_false fun h => he (by rw [← Hgd.out]; exact h.2 i hlt))
        clear he
        go_wp2
        go_ret
        exact ⟨by rw [Hd.out]; rfl, rfl⟩
    · obtain rfl : i = l.length := by omega
      by_cases h0 : 0 < l.length
      · have d0 : (0 : Int) < (l.length : Int) := by omega
        have Hd := Lib.hid (show V = true by rw [← HV.out]; exact decide_eq_true ⟨h0, hall.out⟩)
        go_wp2
        go_ret
        exact ⟨by rw [Hd.out]; rfl, rfl⟩
      · have d0 : ¬ (0 : Int) < (l.length : Int) := by omega
        have Hd := Lib.hid (show V = false by rw [← HV.out]; exact decide_eq_false fun h => h0 h.1)
        go_wp2
        go_ret
        exact ⟨by rw [Hd.out]; rfl, rfl⟩
set_option maxRecDepth 10000 in
set_option maxHeartbeats 2000000 in
theorem spec_IsAction (g : Int) (a : Option Addr) (c : Nat) (L : List (List Int)) (w : World) (ha : GridAt w a L) (hL : ∀ p ∈ L, p.length ≤ 1048576) (hn : L.length ≤ 1048576) :
    Calls Tryz.prog 25 #[.int .i64 g, .slice a L.length c] w fun e w' => e = .returned (.bool (decide (Cv.Act g L))) ∧ Below w.heap.size w w' := by
  have hG := fun W => spec_l1In g 0 2 W
  by_cases hg : 0 ≤ g ∧ g ≤ 2
  · rw [decide_eq_true hg] at hG
    have hcP := spec_l9Perms a c L w ha hL hn
    by_cases hP : Cv.Perms L
    · rw [decide_eq_true hP] at hcP
      have hM := fun W => spec_l1Max 1 g W
      have hm0 : 1 ≤ max 1 g := by omega
      have hm1 : max 1 g ≤ 2 := by omega
      by_cases hl : (L.length : Int) = 2 * max 1 g
      · have hA := Cv.act_iff hg hP hl
        have dne : ((L.length : Int) != 2 * max 1 g) = false := by simp [hl]
        by_cases h0 : g = 0
        · rw [decide_eq_true (hA.2 (Or.inl h0))]
          have dg : (g == 0) = true := beq_iff_eq.2 h0
          generalize max 1 g = m at *
          have HG := Lib.hid hG; have HcP := Lib.hid hcP; have HM := Lib.hid hM
          clear hG hcP hM hA hl h0 hP ha hL
          go_enter Tryz.func25, Tryz.ntmps25
          go_wp2_with fail
          refine (HG.out _).mono ?_
          rintro e w0 ⟨rfl, hw0⟩
          rw [hw0]; clear hw0 w0
          go_wp2_with fail
          refine HcP.out.mono ?_
          rintro e w1 ⟨rfl, hb1⟩
          have Hb1 := Lib.hid hb1; clear hb1
          go_wp2_with fail
          refine (HM.out w1).mono ?_
          rintro e w0 ⟨rfl, hw0⟩
          rw [hw0]; clear hw0 w0
          go_wp2
          go_ret
          exact ⟨rfl, Hb1.out⟩
        · have dg : (g == 0) = false := beq_eq_false_iff_ne.2 h0
          have hmg : max 1 g = g := by omega
          have hR := fun W => spec_Relator g W
          have hrl := Dn.rel_len8 g
          have hAW := fun aw cw W (hb : Below w.heap.size w W) (h : RowAt W aw (intCells (Dn.rel g))) => spec_ActWord a aw c cw L (Dn.rel g) W (ha.below hb) hL hn h (Nat.le_trans hrl (by decide))
          have hok := Cv.actW_of (Cv.ok_upto.2 ⟨hP, Cv.rimW_fits hg hl⟩)
          unfold Cv.rimW at hok hA
          rw [hmg] at hok hA
          rw [hok] at hAW
          have h1 := hP.2.2.2.1
          have h5 := hP.2.2.2.2
          have hres : decide (Cv.Act g L) = decide (Cv.Whole (Cv.row L (Dn.rel g) (Cv.deg L))) := decide_eq_decide.2 (by rw [Cv.whole_row (by omega)]; exact ⟨fun h => (hA.1 h).resolve_left h0, fun h => hA.2 (Or.inr h)⟩)
          rw [hres]
          have hrl2 : (Cv.row L (Dn.rel g) (Cv.deg L)).length = Cv.deg L := Cv.row_len _ _ _
          generalize Cv.row L (Dn.rel g) (Cv.deg L) = R at *
          generalize Cv.deg L = n at *
          generalize Dn.rel g = r at *
          generalize max 1 g = m at *
          have HG := Lib.hid hG; have HcP := Lib.hid hcP; have HM := Lib.hid hM; have HR := Lib.hid hR; have HA := Lib.hid hAW; have Hrl := Lib.hid hrl2
          clear hG hcP hM hA hl h0 hP ha hL hR hrl hAW hok hres hrl2 hmg
          go_enter Tryz.func25, Tryz.ntmps25
          go_wp2_with fail
          refine (HG.out _).mono ?_
          rintro e w0 ⟨rfl, hw0⟩
          rw [hw0]; clear hw0 w0
          go_wp2_with fail
          refine HcP.out.mono ?_
          rintro e w1 ⟨rfl, hb1⟩
          have Hb1 := Lib.hid hb1; clear hb1
          go_wp2_with fail
          refine (HM.out w1).mono ?_
          rintro e w0 ⟨rfl, hw0⟩
          rw [hw0]; clear hw0 w0
          go_wp2_with fail
          refine (HR.out w1).mono ?_
          rintro e w2 ⟨ra, rc, rfl, _, _, hf2, hb2⟩
          have Hf2 := Lib.hid hf2.row; have Hb2 := Lib.hid (Hb1.out.trans (hb2.mono Hb1.out.size))
          clear hf2 hb2
          go_wp2_with fail
          refine (HA.out ra rc w2 Hb2.out Hf2.out).mono ?_
          rintro e w3 ⟨ra3, rc3, rfl, _, _, hf3, hb3⟩
          have Hf3 := Lib.hid hf3.row; have Hb3 := Lib.hid (Hb2.out.trans (hb3.mono Hb2.out.size))
          clear hf3 hb3
          go_wp2_with fail
          refine (spec_l9Whole ra3 rc3 R w3 Hf3.out (by rw [Hrl.out]; omega)).mono ?_
          rintro e w0 ⟨rfl, hw0⟩
          rw [hw0]; clear hw0 w0
          go_wp2
          go_ret
          exact ⟨rfl, Hb3.out⟩
      · have dne : ((L.length : Int) != 2 * max 1 g) = true := by simp [hl]
        rw [decide_eq_false fun h : Cv.Act g L => hl h.2.2.1]
        generalize max 1 g = m at *
        have HG := Lib.hid hG; have HcP := Lib.hid hcP; have HM := Lib.hid hM
        clear hG hcP hM hl hP ha hL
        go_enter Tryz.func25, Tryz.ntmps25
        go_wp2_with fail
        refine (HG.out _).mono ?_
        rintro e w0 ⟨rfl, hw0⟩
        rw [hw0]; clear hw0 w0
        go_wp2_with fail
        refine HcP.out.mono ?_
        rintro e w1 ⟨rfl, hb1⟩
        have Hb1 := Lib.hid hb1; clear hb1
        go_wp2_with fail
        refine (HM.out w1).mono ?_
        rintro e w0 ⟨rfl, hw0⟩
        rw [hw0]; clear hw0 w0
        go_wp2
        go_ret
        exact ⟨rfl, Hb1.out⟩
    · rw [decide_eq_false hP] at hcP
      rw [decide_eq_false fun h : Cv.Act g L => hP h.2.1]
      have HG := Lib.hid hG; have HcP := Lib.hid hcP
      clear hG hcP hP ha hL
      go_enter Tryz.func25, Tryz.ntmps25
      go_wp2_with fail
      refine (HG.out _).mono ?_
      rintro e w0 ⟨rfl, hw0⟩
      rw [hw0]; clear hw0 w0
      go_wp2_with fail
      refine HcP.out.mono ?_
      rintro e w1 ⟨rfl, hb1⟩
      have Hb1 := Lib.hid hb1; clear hb1
      go_wp2
      go_ret
      exact ⟨rfl, Hb1.out⟩
  · rw [decide_eq_false hg] at hG
    rw [decide_eq_false fun h : Cv.Act g L => hg h.1]
    have HG := Lib.hid hG
    clear hG hg ha hL
    go_enter Tryz.func25, Tryz.ntmps25
    go_wp2_with fail
    refine (HG.out _).mono ?_
    rintro e w0 ⟨rfl, hw0⟩
    rw [hw0]; clear hw0 w0
    go_wp2
    go_ret
    exact ⟨rfl, Below.refl _ _⟩
end Go.Proofs.YtpebgompfgkljaaGreat
